/-
  Kids and Groups, the program's and the specification's. And what builds on it.
-/
import Derived.Test.YtilagndfohnjnaaPkF
import Derived.Test.YtilagndfohnjnaaPkE
import Derived.Deep.RegionHeld3
import Derived.Deep.DeepCutAuto

/- Kids and Groups, the program's and the specification's. -/
namespace Go.Proofs.Ytilagndfohnjnaa
open Go.RowKit

theorem intsV_Z (l : List Nat) : intsV l = intsZ (l.map fun (j : Nat) => (j : Int)) := by unfold intsV intsZ; rw [List.map_map]; rfl
def placeErr (l : Li) (ns : List Nd) (node : Int) : Int :=
  if textErr l ns ≠ 0 then textErr l ns else if node < 0 ∨ (ns.length : Int) ≤ node then 1 else 0
def kidsQ (l : Li) (ns : List Nd) (node : Int) : List Int × Int :=
  if placeErr l ns node ≠ 0 then ([], placeErr l ns node) else ((kidsL ns node.toNat).map fun (j : Nat) => (j : Int), 0)
def topsL (ns : List Nd) : List Nat := (List.range ns.length).filter (atD ns 0)
def groupsQ (l : Li) (ns : List Nd) : List Int × Int :=
  if textErr l ns ≠ 0 then ([], textErr l ns) else ((topsL ns).map fun (j : Nat) => (j : Int), 0)

theorem rgcheck_is (L : Lm) (A : Option Addr) (cap : Nat) (ns : List Nd) (w : World) (hl : LmOk w L) (hn : NdsAt w A ns) (hc1 : ns.length ≤ cap) (hc : cap ≤ maxLen) (r : Int) (h : textErr L.li ns = r) :
    Calls Try.prog 20 #[.agg #[.int .i64 L.per, .slice L.A L.ms.length L.cap], .agg #[.slice A ns.length cap]] w fun e w' => e = .returned (.int .i64 r) ∧ Below w.heap.size w w' := by
  rw [← h]; exact rgcheck_any L A cap ns w hl hn hc1 hc

theorem place_ok {l : Li} {ns : List Nd} {node : Int} (h : placeErr l ns node = 0) : textErr l ns = 0 ∧ 0 ≤ node ∧ node < ns.length := by
  unfold placeErr at h
  split at h
  · rename_i h1; exact absurd h h1
  · rename_i h1
    split at h
    · omega
    · exact ⟨by simpa using h1, by omega, by omega⟩

set_option maxRecDepth 100000 in
theorem place_any (L : Lm) (A : Option Addr) (cap : Nat) (ns : List Nd) (node : Int) (w : World) (hl : LmOk w L) (hn : NdsAt w A ns) (hc1 : ns.length ≤ cap) (hc : cap ≤ maxLen) (r : Int) (hr : placeErr L.li ns node = r) :
    Calls Try.prog 65 #[.agg #[.int .i64 L.per, .slice L.A L.ms.length L.cap], .agg #[.slice A ns.length cap], .int .i64 node] w fun e w' => e = .returned (.int .i64 r) ∧ Below w.heap.size w w' := by
  obtain ⟨E, hE⟩ : ∃ E, textErr L.li ns = E := ⟨_, rfl⟩
  have HE := Lib.hid (show r = if E ≠ 0 then E else if node < 0 ∨ (ns.length : Int) ≤ node then 1 else 0 by rw [← hr, ← hE]; rfl)
  obtain ⟨N, hN⟩ : ∃ N, N = ns.length := ⟨_, rfl⟩
  have HCK := Lib.hid (fun wx (hb : Below w.heap.size w wx) => gcheck_is L A cap ns wx (hl.below hb) (hn.below hb) hc1 hc E hE)
  rw [← hN] at HE HCK hc1 ⊢
  unfold maxLen at hc
  obtain ⟨W, hW⟩ : ∃ W, W = (w.alloc (.cells #[.int .i64 L.per, .slice L.A L.ms.length L.cap] 24)).alloc (.cells #[.slice A N cap] 27) := ⟨_, rfl⟩
  have HB := Lib.hid (show Below w.heap.size w W from hW ▸ two_under _ _ _)
  have HX1 := Lib.hid (show W.heap[w.heap.size + 1]? = some (.cells #[.slice A N cap] 27 (0, 0)) by
    rw [hW]; have := heap_alloc_new (w.alloc (.cells #[.int .i64 L.per, .slice L.A L.ms.length L.cap] 24)) (.cells #[.slice A N cap] 27); simpa using this)
  clear hl hn hE hN hr
  go_enter Try.func65, Try.ntmps65
  go_wp2_with fail
  rw [← hW]
  refine (HCK.out W HB.out).mono ?_; rintro e w1 ⟨rfl, hb⟩
  have HB1 := Lib.hid (below_more HB.out hb)
  have x0 := cell_of_blk (blk_keep hb HX1.out) 0
  simp at x0
  clear hb hW HX1 HCK HB
  by_cases h0 : E = 0
  case neg =>
    have hbE : (E != 0) = true := by simpa using h0
    have HF := Lib.hid (show r = E by rw [HE.out, if_pos h0])
    clear h0 HE
    go_wp2_with fail
    go_ret
    exact ⟨of_int HF.out.symm, HB1.out⟩
  subst h0
  by_cases h1 : node < 0
  · have HF := Lib.hid (show r = 1 by rw [HE.out, if_neg (by simp), if_pos (.inl h1)])
    clear HE
    go_wp2_with fail
    go_ret
    exact ⟨of_int HF.out.symm, HB1.out⟩
  have hd1 : decide (node < 0) = false := decide_eq_false h1
  by_cases h2 : (N : Int) ≤ node
  · have HF := Lib.hid (show r = 1 by rw [HE.out, if_neg (by simp), if_pos (.inr h2)])
    clear HE
    go_wp2_with fail
    go_ret
    exact ⟨of_int HF.out.symm, HB1.out⟩
  · have HF := Lib.hid (show r = 0 by rw [HE.out, if_neg (by simp), if_neg (by omega)])
    have hd2 : decide ((N : Int) ≤ node) = false := decide_eq_false h2
    clear HE
    go_wp2_with fail
    go_ret
    exact ⟨of_int HF.out.symm, HB1.out⟩

set_option maxRecDepth 100000 in
theorem kidsP_any (L : Lm) (A : Option Addr) (cap : Nat) (ns : List Nd) (node : Int) (w : World) (hl : LmOk w L) (hn : NdsAt w A ns) (hc1 : ns.length ≤ cap) (hc : cap ≤ maxLen) :
    Calls Try.prog 23 #[.agg #[.int .i64 L.per, .slice L.A L.ms.length L.cap], .agg #[.slice A ns.length cap], .int .i64 node] w (GotIntsE w (kidsQ L.li ns node)) := by
  obtain ⟨E, hE⟩ : ∃ E, placeErr L.li ns node = E := ⟨_, rfl⟩
  obtain ⟨R, hR⟩ : ∃ R, R = kidsQ L.li ns node := ⟨_, rfl⟩
  have HE := Lib.hid (show R = if E ≠ 0 then ([], E) else ((kidsL ns node.toNat).map fun (j : Nat) => (j : Int), 0) by rw [hR, ← hE]; rfl)
  have HOK := Lib.hid (fun (h : E = 0) => place_ok (hE.trans h))
  have HNS := Lib.hid hn
  have HCM := Lib.hid hc
  obtain ⟨N, hN⟩ : ∃ N, N = ns.length := ⟨_, rfl⟩
  have HN := Lib.hid hN
  have HCK := Lib.hid (fun wx (hb : Below w.heap.size w wx) => place_any L A cap ns node wx (hl.below hb) (hn.below hb) hc1 hc E hE)
  rw [← hR]
  rw [← hN] at HCK hc1 HOK ⊢
  unfold maxLen at hc
  obtain ⟨W, hW⟩ : ∃ W, W = (w.alloc (.cells #[.int .i64 L.per, .slice L.A L.ms.length L.cap] 24)).alloc (.cells #[.slice A N cap] 27) := ⟨_, rfl⟩
  have HB := Lib.hid (show Below w.heap.size w W from hW ▸ two_under _ _ _)
  have HX1 := Lib.hid (show W.heap[w.heap.size + 1]? = some (.cells #[.slice A N cap] 27 (0, 0)) by
    rw [hW]; have := heap_alloc_new (w.alloc (.cells #[.int .i64 L.per, .slice L.A L.ms.length L.cap] 24)) (.cells #[.slice A N cap] 27); simpa using this)
  clear hl hn hE hN hR
  go_enter Try.func23, Try.ntmps23
  go_wp2_with fail
  rw [← hW]
  refine (HCK.out W HB.out).mono ?_; rintro e w1 ⟨rfl, hb⟩
  have HB1 := Lib.hid (below_more HB.out hb)
  have x0 := cell_of_blk (blk_keep hb HX1.out) 0
  simp at x0
  clear hb hW HX1 HCK HB
  by_cases h0 : E = 0
  case neg =>
    have hbE : (E != 0) = true := by simpa using h0
    have HF := Lib.hid (show R = ([], E) by rw [HE.out, if_pos h0])
    clear h0 HE
    go_wp2_with fail
    go_ret2
    rw [HF.out]
    exact ⟨none, 0, rfl, World.ownsRow_nil _ _ _ _, HB1.out⟩
  subst h0
  obtain ⟨ht, hn0, hn1⟩ := HOK.out rfl
  obtain ⟨i, rfl⟩ : ∃ i : Nat, node = i := ⟨node.toNat, by omega⟩
  obtain ⟨u, hu⟩ : ∃ u, ns[i]? = some u := ⟨_, List.getElem?_eq_getElem (by have := HN.out; omega)⟩
  obtain ⟨-, hk2, -, -, hk5, -⟩ := text_ok ht
  have hdu := hk5 u (List.mem_of_getElem? hu)
  obtain ⟨ks, hks⟩ : ∃ ks, ks = kidsL ns i := ⟨_, rfl⟩
  have HKO := Lib.hid (show Calls Try.prog 66 #[.slice A N cap, .int .i64 i] w1 (GotRow w1 3 1 ks.length (intsV ks)) by
    have := kidsOf_any A cap i ns u hu (by rw [← HN.out]; exact hc1) HCM.out (by omega) (by omega) w1 (HNS.out.below HB1.out)
    rw [← HN.out, ← hks] at this; exact this)
  have HF := Lib.hid (show R = (ks.map fun (j : Nat) => (j : Int), 0) by rw [HE.out, if_neg (by simp), hks]; simp)
  clear HE HOK hks hu hdu hk2 hk5 ht hn0 hn1
  go_wp2_with fail
  refine HKO.out.mono ?_; rintro e w2 ⟨A2, c2, rfl, hown, hb⟩
  have HOW := Lib.hid hown
  have HB2 := Lib.hid (below_more HB1.out hb)
  have hsz := HB1.out.size
  obtain ⟨n, hn⟩ : ∃ n, n = ks.length := ⟨_, rfl⟩
  have HNK := Lib.hid hn
  rw [← hn] at HOW ⊢
  clear hown hb hn x0
  go_wp2_with fail
  go_ret2
  rw [HF.out]
  refine ⟨A2, c2, by rw [List.length_map, ← HNK.out]; rfl, ?_, HB2.out⟩
  rw [List.length_map, ← HNK.out, ← intsV_Z]
  exact own_base HOW.out hsz

set_option maxRecDepth 100000 in
theorem rkidsOf_any (L : Lm) (A : Option Addr) (cap : Nat) (ns : List Nd) (node : Int) (w : World) (hl : LmOk w L) (hn : NdsAt w A ns) (hc1 : ns.length ≤ cap) (hc : cap ≤ maxLen) :
    Calls Try.prog 24 #[.agg #[.int .i64 L.per, .slice L.A L.ms.length L.cap], .agg #[.slice A ns.length cap], .int .i64 node] w (GotIntsE w (kidsQ L.li ns node)) := by
  obtain ⟨E, hE⟩ : ∃ E, textErr L.li ns = E := ⟨_, rfl⟩
  obtain ⟨R, hR⟩ : ∃ R, R = kidsQ L.li ns node := ⟨_, rfl⟩
  have HE1 := Lib.hid (show E ≠ 0 → R = ([], E) by rw [hR]; intro h; unfold kidsQ placeErr; rw [hE, if_pos h, if_pos h])
  have HE2 := Lib.hid (show E = 0 → (node < 0 ∨ (ns.length : Int) ≤ node) → R = ([], 1) by rw [hR]; intro h h2; unfold kidsQ placeErr; rw [if_neg (show ¬ textErr L.li ns ≠ 0 by simp [hE, h]), if_pos h2, if_pos (by simp)])
  have HE3 := Lib.hid (show E = 0 → ¬ (node < 0 ∨ (ns.length : Int) ≤ node) → R = ((kidsL ns node.toNat).map fun (j : Nat) => (j : Int), 0) by rw [hR]; intro h h2; unfold kidsQ placeErr; rw [if_neg (show ¬ textErr L.li ns ≠ 0 by simp [hE, h]), if_neg h2, if_neg (by simp)])
  have HEE := Lib.hid hE
  have HNS := Lib.hid hn
  have HCM := Lib.hid hc
  obtain ⟨N, hN⟩ : ∃ N, N = ns.length := ⟨_, rfl⟩
  have HN := Lib.hid hN
  have HCK := Lib.hid (fun wx (hb : Below w.heap.size w wx) => rgcheck_is L A cap ns wx (hl.below hb) (hn.below hb) hc1 hc E hE)
  rw [← hR]
  rw [← hN] at HCK hc1 HE2 HE3 ⊢
  unfold maxLen at hc
  obtain ⟨W, hW⟩ : ∃ W, W = (w.alloc (.cells #[.int .i64 L.per, .slice L.A L.ms.length L.cap] 24)).alloc (.cells #[.slice A N cap] 27) := ⟨_, rfl⟩
  have HB := Lib.hid (show Below w.heap.size w W from hW ▸ two_under _ _ _)
  have HX1 := Lib.hid (show W.heap[w.heap.size + 1]? = some (.cells #[.slice A N cap] 27 (0, 0)) by
    rw [hW]; have := heap_alloc_new (w.alloc (.cells #[.int .i64 L.per, .slice L.A L.ms.length L.cap] 24)) (.cells #[.slice A N cap] 27); simpa using this)
  clear hl hn hE hN hR
  go_enter Try.func24, Try.ntmps24
  go_wp2_with fail
  rw [← hW]
  refine (HCK.out W HB.out).mono ?_; rintro e w1 ⟨rfl, hb⟩
  have HB1 := Lib.hid (below_more HB.out hb)
  have x0 := cell_of_blk (blk_keep hb HX1.out) 0
  simp at x0
  clear hb hW HX1 HCK HB
  by_cases h0 : E = 0
  case neg =>
    have hbE : (E != 0) = true := by simpa using h0
    have HF := Lib.hid (HE1.out h0)
    clear h0 HE1 HE2 HE3
    go_wp2_with fail
    go_ret2
    rw [HF.out]
    exact ⟨none, 0, rfl, World.ownsRow_nil _ _ _ _, HB1.out⟩
  subst h0
  by_cases h1 : node < 0
  · have HF := Lib.hid (HE2.out rfl (.inl h1))
    clear HE1 HE2 HE3
    go_wp2_with fail
    go_ret2
    rw [HF.out]
    exact ⟨none, 0, rfl, World.ownsRow_nil _ _ _ _, HB1.out⟩
  have hd1 : decide (node < 0) = false := decide_eq_false h1
  by_cases h2 : (N : Int) ≤ node
  · have HF := Lib.hid (HE2.out rfl (.inr h2))
    clear HE1 HE2 HE3
    go_wp2_with fail
    go_ret2
    rw [HF.out]
    exact ⟨none, 0, rfl, World.ownsRow_nil _ _ _ _, HB1.out⟩
  have hd2 : decide ((N : Int) ≤ node) = false := decide_eq_false h2
  obtain ⟨i, rfl⟩ : ∃ i : Nat, node = i := ⟨node.toNat, by omega⟩
  obtain ⟨u, hu⟩ : ∃ u, ns[i]? = some u := ⟨_, List.getElem?_eq_getElem (by have := HN.out; omega)⟩
  obtain ⟨-, hk2, -, -, hk5, -⟩ := text_ok HEE.out
  have hdu := hk5 u (List.mem_of_getElem? hu)
  obtain ⟨ks, hks⟩ : ∃ ks, ks = kidsL ns i := ⟨_, rfl⟩
  have HKO := Lib.hid (fun wx (hb : Below w1.heap.size w1 wx) => show Calls Try.prog 67 #[.agg #[.slice A N cap], .int .i64 i] wx (GotRow wx 3 1 ks.length (intsV ks)) by
    have := rkids_any A cap ns i (u.depth + 1) (i + 1) wx (HNS.out.below (below_more HB1.out hb)) (by rw [← HN.out]; exact hc1) HCM.out (by omega) (.inl ⟨i, u, rfl, hu, rfl, rfl, by omega, by omega⟩)
    rw [kidsG_is hu, ← HN.out, ← hks] at this; exact this)
  have HF := Lib.hid (show R = (ks.map fun (j : Nat) => (j : Int), 0) by rw [HE3.out rfl (by omega), hks]; simp)
  clear HE1 HE2 HE3 hks hu hdu hk2 hk5
  go_wp2_with fail
  refine (HKO.out _ (Below.refl _ _)).mono ?_; rintro e w2 ⟨A2, c2, rfl, hown, hb⟩
  have HOW := Lib.hid hown
  have HB2 := Lib.hid (below_more HB1.out hb)
  have hsz := HB1.out.size
  obtain ⟨n, hn⟩ : ∃ n, n = ks.length := ⟨_, rfl⟩
  have HNK := Lib.hid hn
  rw [← hn] at HOW ⊢
  clear hown hb hn x0
  go_wp2_with fail
  go_ret2
  rw [HF.out]
  refine ⟨A2, c2, by rw [List.length_map, ← HNK.out]; rfl, ?_, HB2.out⟩
  rw [List.length_map, ← HNK.out, ← intsV_Z]
  exact own_base HOW.out hsz

theorem tw_all {α : Type} {p : α → Bool} : ∀ l : List α, (∀ x ∈ l, p x = true) → l.takeWhile p = l
  | [], _ => rfl
  | x :: r, h => by rw [List.takeWhile_cons, h x (List.mem_cons_self ..), if_pos rfl, tw_all r (fun y hy => h y (List.mem_cons_of_mem _ hy))]
theorem tops_kids {ns : List Nd} (hd : ∀ x ∈ ns, 0 ≤ x.depth) : kidsG ns 0 0 = topsL ns := by
  have h : runN ns 0 0 = ns.length := by
    unfold runN
    rw [List.drop_zero, tw_all _ (fun x hx => by simpa using hd x hx)]
  unfold kidsG topsL
  rw [h, List.range_eq_range']

set_option maxRecDepth 100000 in
theorem rgroups_any (L : Lm) (A : Option Addr) (cap : Nat) (ns : List Nd) (w : World) (hl : LmOk w L) (hn : NdsAt w A ns) (hc1 : ns.length ≤ cap) (hc : cap ≤ maxLen) :
    Calls Try.prog 26 #[.agg #[.int .i64 L.per, .slice L.A L.ms.length L.cap], .agg #[.slice A ns.length cap]] w (GotIntsE w (groupsQ L.li ns)) := by
  obtain ⟨E, hE⟩ : ∃ E, textErr L.li ns = E := ⟨_, rfl⟩
  obtain ⟨R, hR⟩ : ∃ R, R = groupsQ L.li ns := ⟨_, rfl⟩
  have HE := Lib.hid (show R = if E ≠ 0 then ([], E) else ((topsL ns).map fun (j : Nat) => (j : Int), 0) by rw [hR, ← hE]; rfl)
  have HEE := Lib.hid hE
  have HNS := Lib.hid hn
  have HCM := Lib.hid hc
  obtain ⟨N, hN⟩ : ∃ N, N = ns.length := ⟨_, rfl⟩
  have HN := Lib.hid hN
  have HCK := Lib.hid (fun wx (hb : Below w.heap.size w wx) => rgcheck_is L A cap ns wx (hl.below hb) (hn.below hb) hc1 hc E hE)
  rw [← hR]
  rw [← hN] at HCK hc1 ⊢
  unfold maxLen at hc
  obtain ⟨W, hW⟩ : ∃ W, W = (w.alloc (.cells #[.int .i64 L.per, .slice L.A L.ms.length L.cap] 24)).alloc (.cells #[.slice A N cap] 27) := ⟨_, rfl⟩
  have HB := Lib.hid (show Below w.heap.size w W from hW ▸ two_under _ _ _)
  have HX1 := Lib.hid (show W.heap[w.heap.size + 1]? = some (.cells #[.slice A N cap] 27 (0, 0)) by
    rw [hW]; have := heap_alloc_new (w.alloc (.cells #[.int .i64 L.per, .slice L.A L.ms.length L.cap] 24)) (.cells #[.slice A N cap] 27); simpa using this)
  clear hl hn hE hN hR
  go_enter Try.func26, Try.ntmps26
  go_wp2_with fail
  rw [← hW]
  refine (HCK.out W HB.out).mono ?_; rintro e w1 ⟨rfl, hb⟩
  have HB1 := Lib.hid (below_more HB.out hb)
  have x0 := cell_of_blk (blk_keep hb HX1.out) 0
  simp at x0
  clear hb hW HX1 HCK HB
  by_cases h0 : E = 0
  case neg =>
    have hbE : (E != 0) = true := by simpa using h0
    have HF := Lib.hid (show R = ([], E) by rw [HE.out, if_pos h0])
    clear h0 HE
    go_wp2_with fail
    go_ret2
    rw [HF.out]
    exact ⟨none, 0, rfl, World.ownsRow_nil _ _ _ _, HB1.out⟩
  subst h0
  obtain ⟨-, hk2, -, -, hk5, -⟩ := text_ok HEE.out
  obtain ⟨ks, hks⟩ : ∃ ks, ks = topsL ns := ⟨_, rfl⟩
  have HKO := Lib.hid (show Calls Try.prog 67 #[.agg #[.slice A N cap], .int .i64 (-1)] w1 (GotRow w1 3 1 ks.length (intsV ks)) by
    have := rkids_any A cap ns (-1) 0 0 w1 (HNS.out.below HB1.out) (by rw [← HN.out]; exact hc1) HCM.out (by omega) (.inr ⟨rfl, rfl, rfl⟩)
    rw [tops_kids (fun x hx => (hk5 x hx).1), ← HN.out, ← hks] at this; exact this)
  have HF := Lib.hid (show R = (ks.map fun (j : Nat) => (j : Int), 0) by rw [HE.out, if_neg (by simp), hks])
  clear HE hks hk2 hk5
  go_wp2_with fail
  refine HKO.out.mono ?_; rintro e w2 ⟨A2, c2, rfl, hown, hb⟩
  have HOW := Lib.hid hown
  have HB2 := Lib.hid (below_more HB1.out hb)
  have hsz := HB1.out.size
  obtain ⟨n, hn⟩ : ∃ n, n = ks.length := ⟨_, rfl⟩
  have HNK := Lib.hid hn
  rw [← hn] at HOW ⊢
  clear hown hb hn x0
  go_wp2_with fail
  go_ret2
  rw [HF.out]
  refine ⟨A2, c2, by rw [List.length_map, ← HNK.out]; rfl, ?_, HB2.out⟩
  rw [List.length_map, ← HNK.out, ← intsV_Z]
  exact own_base HOW.out hsz

theorem tops_step {ns : List Nd} {k : Nat} : (List.range (k + 1)).filter (atD ns 0) = (List.range k).filter (atD ns 0) ++ (if atD ns 0 k then [k] else []) := by
  rw [List.range_succ, List.filter_append]; cases h : atD ns 0 k <;> simp [h]

set_option maxRecDepth 100000 in
set_option maxHeartbeats 8000000 in
theorem groupsP_any (L : Lm) (A : Option Addr) (cap : Nat) (ns : List Nd) (w : World) (hl : LmOk w L) (hn : NdsAt w A ns) (hc1 : ns.length ≤ cap) (hc : cap ≤ maxLen) :
    Calls Try.prog 25 #[.agg #[.int .i64 L.per, .slice L.A L.ms.length L.cap], .agg #[.slice A ns.length cap]] w (GotIntsE w (groupsQ L.li ns)) := by
  obtain ⟨E, hE⟩ : ∃ E, textErr L.li ns = E := ⟨_, rfl⟩
  obtain ⟨R, hR⟩ : ∃ R, R = groupsQ L.li ns := ⟨_, rfl⟩
  have HE := Lib.hid (show R = if E ≠ 0 then ([], E) else ((topsL ns).map fun (j : Nat) => (j : Int), 0) by rw [hR, ← hE]; rfl)
  have HEE := Lib.hid hE
  have HNS := Lib.hid hn
  obtain ⟨N, hN⟩ : ∃ N, N = ns.length := ⟨_, rfl⟩
  have HN := Lib.hid hN
  have HCK := Lib.hid (fun wx (hb : Below w.heap.size w wx) => gcheck_is L A cap ns wx (hl.below hb) (hn.below hb) hc1 hc E hE)
  rw [← hR]
  rw [← hN] at HCK hc1 ⊢
  unfold maxLen at hc
  obtain ⟨W, hW⟩ : ∃ W, W = (w.alloc (.cells #[.int .i64 L.per, .slice L.A L.ms.length L.cap] 24)).alloc (.cells #[.slice A N cap] 27) := ⟨_, rfl⟩
  have HB := Lib.hid (show Below w.heap.size w W from hW ▸ two_under _ _ _)
  have HX1 := Lib.hid (show W.heap[w.heap.size + 1]? = some (.cells #[.slice A N cap] 27 (0, 0)) by
    rw [hW]; have := heap_alloc_new (w.alloc (.cells #[.int .i64 L.per, .slice L.A L.ms.length L.cap] 24)) (.cells #[.slice A N cap] 27); simpa using this)
  obtain ⟨iv, hiv, hzv, hsv, hbv⟩ := info_hid infoInt
  clear hl hn hE hN hR
  go_enter Try.func25, Try.ntmps25
  go_wp2_with fail
  rw [← hW]
  refine (HCK.out W HB.out).mono ?_; rintro e w1 ⟨rfl, hb⟩
  have HB1 := Lib.hid (below_more HB.out hb)
  have x0 := cell_of_blk (blk_keep hb HX1.out) 0
  simp at x0
  clear hb hW HX1 HCK HB
  by_cases h0 : E = 0
  case neg =>
    have hbE : (E != 0) = true := by simpa using h0
    have HF := Lib.hid (show R = ([], E) by rw [HE.out, if_pos h0])
    clear h0 HE
    go_wp2_with fail
    go_ret2
    rw [HF.out]
    exact ⟨none, 0, rfl, World.ownsRow_nil _ _ _ _, HB1.out⟩
  subst h0
  obtain ⟨-, hk2, -, -, hk5, -⟩ := text_ok HEE.out
  have HF := Lib.hid (show R = ((topsL ns).map fun (j : Nat) => (j : Int), 0) by rw [HE.out, if_neg (by simp)])
  have hNs : N ≤ 200 := by have := HN.out; omega
  have HDP := Lib.hid hk5
  clear HE hk2 hk5
  have hsz := HB1.out.size
  go_wp2_with fail
  go_loopw [7, 8, 9, 19] (fun v _ _ i wr => ∃ (k c : Nat), k ≤ N ∧ c ≤ k ∧ i = .int .i64 k ∧ Hid (c = ((List.range k).filter (atD ns 0)).length) ∧ Hid (wr.ownsRow w1.heap.size 3 1 v c (intsV ((List.range k).filter (atD ns 0)))) ∧ Hid (Below w1.heap.size w1 wr)) (fun _ _ _ i _ => N - (intOf i).toNat)
  case atStart => exact ⟨0, 0, Nat.zero_le _, Nat.zero_le _, rfl, Lib.hid (by simp), Lib.hid (World.ownsRow_nil _ _ _ _), Lib.hid (Below.refl _ _)⟩
  case round =>
    obtain ⟨k, c, hk, hck, rfl, hcl, hown, hbw⟩ := hrel
    have HBW := Lib.hid hbw.out
    have HCL := Lib.hid hcl.out
    have HOW := Lib.hid hown.out
    clear hbw hcl hown
    by_cases hlt : k < N
    · obtain ⟨m, hm⟩ : ∃ m, ns[k]? = some m := ⟨_, List.getElem?_eq_getElem (by have := HN.out; omega)⟩
      obtain ⟨b, o, hA, hblt, hva⟩ := (HNS.out.below (below_more HB1.out HBW.out)) k m hm
      subst hA
      obtain ⟨y0, y1, y2, y3, y4, y5, y6, y7⟩ := hva
      have hST := tops_step (ns := ns) (k := k)
      have hat : atD ns 0 k = (m.depth == 0) := by unfold atD; rw [hm]; rfl
      rw [hat] at hST
      have HST := Lib.hid hST
      obtain ⟨mk, md, ms, mt, mm, mst, mn, mx⟩ := m
      dsimp only at y0 y1 y2 y3 y4 y5 y6 y7 HST
      have hsw := HBW.out.size
      clear hm hST hat
      by_cases hd : md = 0
      · have hdb : (md == 0) = true := by simpa using hd
        have HS2 := Lib.hid (show intsV ((List.range (k + 1)).filter (atD ns 0)) = intsV ((List.range k).filter (atD ns 0)) ++ [.int .i64 k] ∧ c + 1 = ((List.range (k + 1)).filter (atD ns 0)).length by
          rw [HST.out, hdb]; simp [intsV, HCL.out])
        obtain ⟨xs, hxs⟩ : ∃ xs, xs = intsV ((List.range k).filter (atD ns 0)) := ⟨_, rfl⟩
        rw [← hxs] at HOW HS2
        obtain ⟨Av, cv, hv, -, -, -, -⟩ := own_slice HOW.out
        subst hv
        clear hxs hd
        go_wp2_with (first
          | (at_builtin; refine wpList_append_src _ rfl (.tmp 27) (.tmp 29) 38 rfl w1.heap.size 3 iv (.int .i64 0) 1 8 Try.underlying38 hiv.out hzv.out hsv.out hbv.out rfl (by decide) (.slice Av c cv) c xs rfl ?own2 (some ⟨wr.heap.size + 1, 0, none⟩) 1 1 [.int .i64 k] rfl ?l2 ?n2 ?c2 ?o2 ?m2 ?b2 ?s2 (c + 1) rfl ?_))
        case own2 => exact (HOW.out.alloc _).alloc _
        case l2 => rfl
        case n2 => intro h; cases h
        case c2 =>
          intro ad had j u' hj
          injection had with had
          subst had
          have := new_one (wr.alloc (.cells #[.int .i64 mk, .int .i64 md, .int .i64 ms, .int .i64 mt, .bool mm, .int .i64 mst, .int .i64 mn, .int .i64 mx] 78)) (.int .i64 k) 3 j u' hj
          rw [addr_add, Nat.zero_add]; simpa using this
        case o2 => intro u hu; simp at hu; subst hu; rfl
        case m2 => unfold maxLen; omega
        case b2 => omega
        case s2 => simp; omega
        intro A3 c3 w3 own3 hg3 _
        have HB3 := Lib.hid (((HBW.out.alloc hsw _).alloc (by rw [World.size_alloc]; omega) _).grown hg3 (by rw [World.size_alloc, World.size_alloc]; omega) (fun g hg => (HOW.out.lt g hg).1))
        have HO3 := Lib.hid own3
        clear own3 hg3
        go_wp2_with fail
        go_roundw
        case rel => exact ⟨k + 1, c + 1, by omega, by omega, by go_num, Lib.hid HS2.out.2, Lib.hid (by rw [HS2.out.1]; exact HO3.out), HB3⟩
        case measure => simp [intOf]; omega
      · have hdb : (md == 0) = false := by simpa using hd
        have HS2 := Lib.hid (show (List.range (k + 1)).filter (atD ns 0) = (List.range k).filter (atD ns 0) by rw [HST.out, hdb]; simp)
        clear hd
        go_wp2_with fail
        go_roundw
        case rel => exact ⟨k + 1, c, by omega, by omega, by go_num, Lib.hid (by rw [HS2.out]; exact HCL.out), Lib.hid (by rw [HS2.out]; exact HOW.out.alloc _), Lib.hid (HBW.out.alloc hsw _)⟩
        case measure => simp [intOf]; omega
    · obtain rfl : k = N := by omega
      have HT := Lib.hid (show (List.range k).filter (atD ns 0) = topsL ns by unfold topsL; rw [HN.out])
      have h1 := HOW.out
      rw [HT.out] at h1
      obtain ⟨Av, cv, hv, -, -, -, -⟩ := own_slice h1
      subst hv
      have HO3 := Lib.hid h1
      clear h1
      go_wp2_with fail
      go_ret2
      rw [HF.out]
      refine ⟨Av, cv, ?_, own_base ?_ hsz, below_more HB1.out HBW.out⟩
      · rw [List.length_map, ← HT.out, ← HCL.out]; rfl
      · rw [List.length_map, ← intsV_Z, ← HT.out, ← HCL.out, HT.out]; exact HO3.out

end Go.Proofs.Ytilagndfohnjnaa

/- A node as a text of its own: Sub, the program's and the specification's. -/
namespace Go.Proofs.Ytilagndfohnjnaa
open Go.RowKit

/-- a text and an error that were made, in memory of the call's own -/
def GotTextO (w : World) (zs : List Nd) (er : Int) (e : Ending) (w' : World) : Prop :=
  ∃ A k c, e = .returned (.tuple #[.agg #[.slice A k c], .int .i64 er]) ∧ Hid (k = zs.length) ∧ Hid (w'.ownsRow w.heap.size 78 8 (.slice A k c) k (zs.flatMap Nd.cells)) ∧ Below w.heap.size w w'

def belowN (ns : List Nd) (i : Nat) : List Nd := match ns[i]? with
  | none => []
  | some u => ((ns.drop i).take (1 + spanN ns u.depth i)).map (lowerN u.depth)
theorem belowN_at {ns : List Nd} {i : Nat} {u : Nd} (h : ns[i]? = some u) : belowN ns i = ((ns.drop i).take (1 + spanN ns u.depth i)).map (lowerN u.depth) := by unfold belowN; rw [h]
def subQ (l : Li) (ns : List Nd) (node : Int) : List Nd × Int :=
  if placeErr l ns node ≠ 0 then ([], placeErr l ns node) else (belowN ns node.toNat, 0)

theorem own_none (w : World) (base : Nat) : w.ownsRow base 78 8 (.slice none 0 0) 0 (List.flatMap Nd.cells []) := World.ownsRow_nil _ _ _ _

set_option maxRecDepth 100000 in
set_option maxHeartbeats 4000000 in
theorem subP_any (L : Lm) (A : Option Addr) (cap : Nat) (ns : List Nd) (node : Int) (w : World) (hl : LmOk w L) (hn : NdsAt w A ns) (hc1 : ns.length ≤ cap) (hc : cap ≤ maxLen) :
    Calls Try.prog 45 #[.agg #[.int .i64 L.per, .slice L.A L.ms.length L.cap], .agg #[.slice A ns.length cap], .int .i64 node] w (GotTextO w (subQ L.li ns node).1 (subQ L.li ns node).2) := by
  obtain ⟨E, hE⟩ : ∃ E, placeErr L.li ns node = E := ⟨_, rfl⟩
  obtain ⟨R, hR⟩ : ∃ R, R = subQ L.li ns node := ⟨_, rfl⟩
  have HE := Lib.hid (show R = if E ≠ 0 then ([], E) else (belowN ns node.toNat, 0) by rw [hR, ← hE]; rfl)
  have HOK := Lib.hid (fun (h : E = 0) => place_ok (hE.trans h))
  have HNS := Lib.hid hn
  have HCM := Lib.hid hc
  obtain ⟨N, hN⟩ : ∃ N, N = ns.length := ⟨_, rfl⟩
  have HN := Lib.hid hN
  have HCK := Lib.hid (fun wx (hb : Below w.heap.size w wx) => place_any L A cap ns node wx (hl.below hb) (hn.below hb) hc1 hc E hE)
  rw [← hR]
  rw [← hN] at HCK hc1 HOK ⊢
  unfold maxLen at hc
  obtain ⟨W, hW⟩ : ∃ W, W = ((w.alloc (.cells #[.int .i64 L.per, .slice L.A L.ms.length L.cap] 24)).alloc (.cells #[.slice A N cap] 27)).alloc (.cells #[.slice none 0 0] 27) := ⟨_, rfl⟩
  have HB := Lib.hid (show Below w.heap.size w W from hW ▸ (((Below.refl _ _).alloc (Nat.le_refl _) _).alloc (by simp) _).alloc (by simp; omega) _)
  have HX1 := Lib.hid (show W.heap[w.heap.size + 1]? = some (.cells #[.slice A N cap] 27 (0, 0)) by
    rw [hW, heap_alloc_other _ _ _ (by simp)]; have := heap_alloc_new (w.alloc (.cells #[.int .i64 L.per, .slice L.A L.ms.length L.cap] 24)) (.cells #[.slice A N cap] 27); simpa using this)
  have HX2 := Lib.hid (show W.heap[w.heap.size + 1 + 1]? = some (.cells #[.slice none 0 0] 27 (0, 0)) by
    rw [hW]; have := heap_alloc_new ((w.alloc (.cells #[.int .i64 L.per, .slice L.A L.ms.length L.cap] 24)).alloc (.cells #[.slice A N cap] 27)) (.cells #[.slice none 0 0] 27); simpa using this)
  clear hl hn hE hN hR
  go_enter Try.func45, Try.ntmps45
  go_wp2_with fail
  rw [← hW]
  refine (HCK.out W HB.out).mono ?_; rintro e w1 ⟨rfl, hb⟩
  have HB1 := Lib.hid (below_more HB.out hb)
  have D1 := Lib.hid (blk_keep hb HX1.out)
  have D2 := Lib.hid (blk_keep hb HX2.out)
  have x0 := cell_of_blk D1.out 0
  have q0 := cell_of_blk D2.out 0
  have q1 := free_of_blk D2.out 0
  have hs2 := (Array.getElem?_eq_some_iff.1 D2.out).1
  have hs1 : w.heap.size + 1 < w1.heap.size := by omega
  have hsz : w.heap.size ≤ w1.heap.size := by omega
  simp at x0 q0
  clear hb hW HX1 HX2 HCK HB
  by_cases h0 : E = 0
  case neg =>
    have hbE : (E != 0) = true := by simpa using h0
    have HF := Lib.hid (show R = ([], E) by rw [HE.out, if_pos h0])
    clear h0 HE
    go_wp2
    refine bodyPost_ret (v := .tuple #[.agg #[.slice none 0 0], .int .i64 E]) (by simp [results, Try.results45, go_sem, q0]) rfl ?_
    rw [HF.out]
    exact ⟨none, 0, 0, rfl, Lib.hid rfl, Lib.hid (own_none _ _), HB1.out.setCell (by dsimp only; omega) _⟩
  subst h0
  obtain ⟨ht, hn0, hn1⟩ := HOK.out rfl
  obtain ⟨i, rfl⟩ : ∃ i : Nat, node = i := ⟨node.toNat, by omega⟩
  have hiN : i < N := by omega
  obtain ⟨u, hu⟩ : ∃ u, ns[i]? = some u := ⟨_, List.getElem?_eq_getElem (by have := HN.out; omega)⟩
  obtain ⟨-, hk2, -, -, hk5, -⟩ := text_ok ht
  have hdu := hk5 u (List.mem_of_getElem? hu)
  obtain ⟨b, o, rfl, hblt, hva⟩ := HNS.out i u hu
  have y1 := (HB1.out.cell (p := ⟨b, o + i * 8 + 1, none⟩) hblt).trans hva.c1
  have hsp := spanN_le ns u.depth i (by rw [← HN.out]; exact hiN)
  obtain ⟨d, hd⟩ : ∃ d, d = u.depth := ⟨_, rfl⟩
  have HBN := Lib.hid (belowN_at hu)
  rw [← hd] at hdu y1 hsp HBN
  obtain ⟨m, hm⟩ : ∃ m, m = 1 + spanN ns d i := ⟨_, rfl⟩
  have HPT := Lib.hid (fun wx (hb : Below w1.heap.size w1 wx) => show Calls Try.prog 79 #[.slice (some ⟨b, o, none⟩) N cap, .int .i64 i] wx (fun e w' => e = .returned (.slice (some ⟨b, o + i * 8, none⟩) m m) ∧ Below wx.heap.size wx w') by
    have := part_any b o cap i ns u hu (by rw [← HN.out]; exact hc1) HCM.out wx (HNS.out.below (below_more HB1.out hb))
    rw [← hd, ← hm, ← HN.out] at this; exact this)
  rw [← hm] at HBN
  have hmN : i + m ≤ N := by rw [HN.out]; omega
  obtain ⟨zs, hzs⟩ : ∃ zs, zs = (ns.drop i).take m := ⟨_, rfl⟩
  have HZL := Lib.hid (show m = zs.length by rw [hzs, List.length_take, List.length_drop, ← HN.out]; omega)
  have HRS := Lib.hid (fun wx (hb : Below w1.heap.size w1 wx) => show Calls Try.prog 78 #[.slice (some ⟨b, o + i * 8, none⟩) m m, .int .i64 d] wx (GotRow wx 78 8 m ((zs.map (lowerN d)).flatMap Nd.cells)) by
    have := raise_any (some ⟨b, o + i * 8, none⟩) m zs d wx (hzs ▸ (((HNS.out.below (below_more HB1.out hb)).drop i).take m)) (by rw [← HZL.out]; exact Nat.le_refl _) (by unfold maxLen; omega) (by rw [← HZL.out]; omega) hdu (fun x hx => hk5 x (by rw [hzs] at hx; exact List.mem_of_mem_drop (List.mem_of_mem_take hx)))
    rw [← HZL.out] at this; exact this)
  have HF := Lib.hid (show R = (zs.map (lowerN d), 0) by rw [HE.out, if_neg (by simp), Int.toNat_natCast, HBN.out, hzs])
  have hbw : b < w1.heap.size := by omega
  clear HE HOK hu hva hk2 hk5 ht hn0 hn1 hd hm hzs HBN hdu hsp
  go_wp2_with fail
  have HK := Lib.hid (fun w' (hb : Below w1.heap.size w1 w') => show w'.cell? ⟨w.heap.size + 1, 0, none⟩ = some (.slice (some ⟨b, o, none⟩) N cap) ∧ w'.cell? ⟨b, o + i * 8 + 1, none⟩ = some (.int .i64 d) from
    ⟨cell_of_blk (blk_keep hb D1.out) 0, (hb.cell (p := ⟨b, o + i * 8 + 1, none⟩) hbw).trans y1⟩)
  have HDR := Lib.hid (show Below w1.heap.size w1 w1.drew from (Below.refl _ _).drew)
  have HKS := Lib.hid (fun (wx : World) (v : Value) (h : wx.cell? ⟨w.heap.size + 1, 0, none⟩ = some (.slice (some ⟨b, o, none⟩) N cap) ∧ wx.cell? ⟨b, o + i * 8 + 1, none⟩ = some (.int .i64 d)) => show (wx.setCell ⟨w.heap.size + 1 + 1, 0, none⟩ v).cell? ⟨w.heap.size + 1, 0, none⟩ = some (.slice (some ⟨b, o, none⟩) N cap) ∧ (wx.setCell ⟨w.heap.size + 1 + 1, 0, none⟩ v).cell? ⟨b, o + i * 8 + 1, none⟩ = some (.int .i64 d) from
    ⟨(World.cell?_of_block (a := ⟨w.heap.size + 1, 0, none⟩) (heap_setCell_other _ _ _ _ (by dsimp only; omega))).trans h.1, (World.cell?_of_block (a := ⟨b, o + i * 8 + 1, none⟩) (heap_setCell_other _ _ _ _ (by dsimp only; omega))).trans h.2⟩)
  have HQ := Lib.hid (fun w' (hb : Below w1.heap.size w1 w') => show w'.cell? ⟨w.heap.size + 1 + 1, 0, none⟩ = some (.slice none 0 0) ∧ w'.frozen? ⟨w.heap.size + 1 + 1, 0, none⟩ = false ∧ w.heap.size + 1 + 1 < w'.heap.size from
    ⟨by have := cell_of_blk (blk_keep hb D2.out) 0; simpa using this, free_of_blk (blk_keep hb D2.out) 0, (Array.getElem?_eq_some_iff.1 (blk_keep hb D2.out)).1⟩)
  clear x0 q0 q1 y1
  go_region_held3 (fun w' => w'.cell? ⟨w.heap.size + 1, 0, none⟩ = some (.slice (some ⟨b, o, none⟩) N cap) ∧ w'.cell? ⟨b, o + i * 8 + 1, none⟩ = some (.int .i64 d))
    (first | (refine HK.out _ ?_; first | assumption | exact HDR.out) | (refine HKS.out _ _ ?_; refine HK.out _ ?_; assumption))
    (first
      | (go_at_call 79; refine (HPT.out _ HDR.out).mono ?_; rintro e wp ⟨rfl, hbp⟩; have hbwp := below_more HDR.out hbp)
      | (go_at_call 78; refine (HRS.out _ hbwp).mono ?_; rintro e wr ⟨A2, c2, rfl, hown, hbr⟩; have hbwr := below_more hbwp hbr; obtain ⟨z0, z1, z2⟩ := HQ.out wr hbwr))
  have HO := Lib.hid (show (wr.setCell ⟨w.heap.size + 1 + 1, 0, none⟩ (.slice A2 m c2)).ownsRow w.heap.size 78 8 (.slice A2 m c2) m ((zs.map (lowerN d)).flatMap Nd.cells) from
    own_base (ownsRow_of_block hown (fun g hg => heap_setCell_other _ _ _ _ (by have := (hown.lt g hg).1; have := hbwp.size; dsimp only; omega))) (by have := hbwp.size; omega))
  have HBB := Lib.hid (show Below w.heap.size w (wr.setCell ⟨w.heap.size + 1 + 1, 0, none⟩ (.slice A2 m c2)) from (below_more HB1.out hbwr).setCell (by dsimp only; omega) _)
  clear hown HK HDR HKS HQ HPT HRS hbp hbwp hbr hbwr
  go_wp2
  refine bodyPost_ret (v := .tuple #[.agg #[.slice A2 m c2], .int .i64 0]) (by simp [results, Try.results45, go_sem, z0, z2]) rfl ?_
  rw [HF.out]
  exact ⟨A2, m, c2, rfl, Lib.hid (by rw [List.length_map]; exact HZL.out), Lib.hid HO.out, HBB.out⟩

end Go.Proofs.Ytilagndfohnjnaa

/- A text that a law puts into a box of its own. -/
namespace Go.Proofs.Ytilagndfohnjnaa
open Go.RowKit

/-- a box that holds a text that was made -/
def TBox (w1 wx : World) (x : Nat) (zs : List Nd) : Prop :=
  ∃ A k c, Below w1.heap.size w1 wx ∧ wx.heap[x]? = some (.cells #[.slice A k c] 27 (0, 0)) ∧ k = zs.length ∧ NdsAt wx A zs
theorem tbox_at {P2 wp P3 wx : World} {w1 : World} {zs : List Nd} {x : Nat} {A : Option Addr} {k c : Nat}
    (hwx : wx = P3.setCell ⟨x, 0, none⟩ (.slice A k c)) (hw : Below w1.heap.size w1 P2) (hp : Below P2.heap.size P2 wp) (h3 : Below wp.heap.size wp P3)
    (hk : k = zs.length) (own : wp.ownsRow P2.heap.size 78 8 (.slice A k c) k (zs.flatMap Nd.cells)) (hx1 : w1.heap.size ≤ x)
    (hx : (P2.heap[x]? = some (Obj.cells #[.slice none 0 0] 27 (0, 0))) ∨ (P3.heap[x]? = some (Obj.cells #[.slice none 0 0] 27 (0, 0)) ∧ wp.heap.size ≤ x)) : TBox w1 wx x zs := by
  subst hwx
  have s1 := hw.size
  have s2 := hp.size
  have s3 := h3.size
  have hx2 : P3.heap[x]? = some (Obj.cells #[.slice none 0 0] 27 (0, 0)) ∧ (x < P2.heap.size ∨ wp.heap.size ≤ x) := by
    rcases hx with h | ⟨h, hq⟩
    · have := (Array.getElem?_eq_some_iff.1 h).1
      exact ⟨((below_more hp h3).block x this).trans h, .inl this⟩
    · exact ⟨h, .inr hq⟩
  obtain ⟨bx, hx3⟩ := hx2
  refine ⟨A, k, c, (below_more hw (below_more hp h3)).setCell hx1 _, ?_, hk, own_nodes (ownsRow_of_block own (fun g hg => ?_))⟩
  · rw [heap_setCell_same _ _ _ _ _ _ bx]; rfl
  · have := own.lt g hg
    rw [heap_setCell_other _ _ _ _ (by dsimp only; omega)]; exact h3.block g this.2
theorem tbox_of {w1 P0 wl P1 wt P2 wp wx : World} (P3 : World) {zs : List Nd} {x : Nat} {A : Option Addr} {k c : Nat}
    (hwx : wx = P3.setCell ⟨x, 0, none⟩ (.slice A k c)) (hl : Hid (Below P0.heap.size P0 wl)) (ht : Hid (Below P1.heap.size P1 wt)) (hp : Hid (Below P2.heap.size P2 wp))
    (hk : Hid (k = zs.length)) (own : Hid (wp.ownsRow P2.heap.size 78 8 (.slice A k c) k (zs.flatMap Nd.cells)))
    (h0 : Below w1.heap.size w1 P0) (h1 : Below wl.heap.size wl P1) (h2 : Below wt.heap.size wt P2) (h3 : Below wp.heap.size wp P3)
    (hx : (P0.heap[x]? = some (Obj.cells #[.slice none 0 0] 27 (0, 0)) ∧ w1.heap.size ≤ x) ∨ (P1.heap[x]? = some (Obj.cells #[.slice none 0 0] 27 (0, 0)) ∧ wl.heap.size ≤ x) ∨
      (P2.heap[x]? = some (Obj.cells #[.slice none 0 0] 27 (0, 0)) ∧ wt.heap.size ≤ x) ∨ (P3.heap[x]? = some (Obj.cells #[.slice none 0 0] 27 (0, 0)) ∧ wp.heap.size ≤ x)) : TBox w1 wx x zs := by
  have hl := hl.out
  have ht := ht.out
  have hp := hp.out
  have s0 := h0.size
  have s1 := hl.size
  have s2 := h1.size
  have s3 := ht.size
  have s4 := h2.size
  have s5 := hp.size
  refine tbox_at hwx (below_more (below_more h0 hl) (below_more h1 (below_more ht h2))) hp h3 hk.out own.out ?_ ?_
  · rcases hx with ⟨_, h⟩ | ⟨_, h⟩ | ⟨_, h⟩ | ⟨_, h⟩ <;> omega
  · rcases hx with ⟨h, _⟩ | ⟨h, _⟩ | ⟨h, _⟩ | h
    · exact .inl (((below_more hl (below_more h1 (below_more ht h2))).block x (Array.getElem?_eq_some_iff.1 h).1).trans h)
    · exact .inl (((below_more ht h2).block x (Array.getElem?_eq_some_iff.1 h).1).trans h)
    · exact .inl h
    · exact .inr h
theorem tbox_of2 {w1 P0 wl P1 wt P1' wt2 P2 wp wx : World} (P3 : World) {zs : List Nd} {x : Nat} {A : Option Addr} {k c : Nat}
    (hwx : wx = P3.setCell ⟨x, 0, none⟩ (.slice A k c)) (hl : Hid (Below P0.heap.size P0 wl)) (ht : Hid (Below P1.heap.size P1 wt)) (ht2 : Hid (Below P1'.heap.size P1' wt2)) (hp : Hid (Below P2.heap.size P2 wp))
    (hk : Hid (k = zs.length)) (own : Hid (wp.ownsRow P2.heap.size 78 8 (.slice A k c) k (zs.flatMap Nd.cells)))
    (h0 : Below w1.heap.size w1 P0) (h1 : Below wl.heap.size wl P1) (h1' : Below wt.heap.size wt P1') (h2 : Below wt2.heap.size wt2 P2) (h3 : Below wp.heap.size wp P3)
    (hx : (P0.heap[x]? = some (Obj.cells #[.slice none 0 0] 27 (0, 0)) ∧ w1.heap.size ≤ x) ∨ (P1.heap[x]? = some (Obj.cells #[.slice none 0 0] 27 (0, 0)) ∧ wl.heap.size ≤ x) ∨
      (P1'.heap[x]? = some (Obj.cells #[.slice none 0 0] 27 (0, 0)) ∧ wt.heap.size ≤ x) ∨ (P2.heap[x]? = some (Obj.cells #[.slice none 0 0] 27 (0, 0)) ∧ wt2.heap.size ≤ x) ∨ (P3.heap[x]? = some (Obj.cells #[.slice none 0 0] 27 (0, 0)) ∧ wp.heap.size ≤ x)) : TBox w1 wx x zs := by
  have hl := hl.out
  have ht := ht.out
  have ht2 := ht2.out
  have hp := hp.out
  have s0 := h0.size
  have s1 := hl.size
  have s2 := h1.size
  have s3 := ht.size
  have s3' := h1'.size
  have s3'' := ht2.size
  have s4 := h2.size
  have s5 := hp.size
  have hm : Below P1'.heap.size P1' P2 := below_more ht2 h2
  have hm2 : Below P1.heap.size P1 P2 := below_more ht (below_more h1' hm)
  refine tbox_at hwx (below_more (below_more h0 hl) (below_more h1 hm2)) hp h3 hk.out own.out ?_ ?_
  · rcases hx with ⟨_, h⟩ | ⟨_, h⟩ | ⟨_, h⟩ | ⟨_, h⟩ | ⟨_, h⟩ <;> omega
  · rcases hx with ⟨h, _⟩ | ⟨h, _⟩ | ⟨h, _⟩ | ⟨h, _⟩ | h
    · exact .inl (((below_more hl (below_more h1 hm2)).block x (Array.getElem?_eq_some_iff.1 h).1).trans h)
    · exact .inl ((hm2.block x (Array.getElem?_eq_some_iff.1 h).1).trans h)
    · exact .inl ((hm.block x (Array.getElem?_eq_some_iff.1 h).1).trans h)
    · exact .inl h
    · exact .inr h

end Go.Proofs.Ytilagndfohnjnaa

/- The specification's Below and Sub. -/
namespace Go.Proofs.Ytilagndfohnjnaa
open Go.RowKit

/-- what holds at the head of a round of the specification's Below -/
structure BelRel (w W wr : World) (A : Option Addr) (N cap : Nat) (v : Value) (k : Nat) (zs : List Nd) : Prop where
  below : Below w.heap.size w wr
  size : W.heap.size ≤ wr.heap.size
  b0 : wr.heap[w.heap.size]? = some (.cells #[.slice A N cap] 27 (0, 0))
  b1 : wr.heap[w.heap.size + 1]? = some (.cells #[.slice none 0 0] 27 (0, 0))
  b2 : wr.heap[w.heap.size + 1 + 1]? = some (.cells #[v] 27 (0, 0))
  own : wr.ownsRow W.heap.size 78 8 v k (zs.flatMap Nd.cells)
theorem BelRel.later {w W wr wx : World} {A : Option Addr} {N cap : Nat} {v : Value} {k : Nat} {zs : List Nd} (h : BelRel w W wr A N cap v k zs) (hb : Below wr.heap.size wr wx) : BelRel w W wx A N cap v k zs :=
  ⟨h.below.trans (hb.mono h.below.size), Nat.le_trans h.size hb.size, blk_keep hb h.b0, blk_keep hb h.b1, blk_keep hb h.b2, ownsRow_of_block h.own (fun g hg => hb.block g (h.own.lt g hg).2)⟩
theorem BelRel.step {w W wr wA w3 : World} {A A2 : Option Addr} {N cap c2 : Nat} {v : Value} {k : Nat} {zs : List Nd} {x : Nd} (h : BelRel w W wr A N cap v k zs) (hW : w.heap.size + 1 + 1 < W.heap.size)
    (hA : Below wr.heap.size wr wA) (own2 : w3.ownsRow W.heap.size 78 8 (.slice A2 (k + 1) c2) (k + 1) (zs.flatMap Nd.cells ++ x.cells)) (hg : wA.grownBy w3 v.ownBlock) :
    BelRel w W (w3.setCell ⟨w.heap.size + 1 + 1, 0, none⟩ (.slice A2 (k + 1) c2)) A N cap (.slice A2 (k + 1) c2) (k + 1) (zs ++ [x]) := by
  have hsz := h.size
  have hvb : ∀ g, v.ownBlock = some g → W.heap.size ≤ g ∧ g < wr.heap.size := fun g hg => h.own.lt g hg
  have s2 := hA.size
  have s3 : wA.heap.size ≤ w3.heap.size := hg.size
  have keep : ∀ g, g < wr.heap.size → v.ownBlock ≠ some g → w3.heap[g]? = wr.heap[g]? := fun g h1 h2 => by
    rw [hg.block g (by omega) (fun e => h2 e.symm)]; exact hA.block g h1
  have hb2 : w3.heap[w.heap.size + 1 + 1]? = some (.cells #[v] 27 (0, 0)) := by
    rw [keep _ (by omega) (fun e => by have := (hvb _ e).1; omega)]; exact h.b2
  refine ⟨?_, by simp; omega, ?_, ?_, ?_, ?_⟩
  · have := h.below.size
    exact ((h.below.trans (hA.mono h.below.size)).grown hg (by omega) (fun g hg => by have := (hvb g hg).1; omega)).setCell (by dsimp only; omega) _
  · rw [heap_setCell_other _ _ _ _ (by dsimp only; omega), keep _ (by omega) (fun e => by have := (hvb _ e).1; omega)]; exact h.b0
  · rw [heap_setCell_other _ _ _ _ (by dsimp only; omega), keep _ (by omega) (fun e => by have := (hvb _ e).1; omega)]; exact h.b1
  · rw [heap_setCell_same _ _ _ _ _ _ hb2]; rfl
  · have := ownsRow_of_block (w' := w3.setCell ⟨w.heap.size + 1 + 1, 0, none⟩ (.slice A2 (k + 1) c2)) own2 (fun g hg' => heap_setCell_other _ _ _ _ (by have := (own2.lt g hg').1; dsimp only; omega))
    rw [List.flatMap_append]; simpa using this

theorem BelRel.out2 {w W wr wA w3 : World} {A : Option Addr} {N cap : Nat} {v : Value} {k : Nat} {zs : List Nd} (h : BelRel w W wr A N cap v k zs) (hW : w.heap.size + 1 + 1 < W.heap.size)
    (hA : Below wr.heap.size wr wA) (hg : wA.grownBy w3 v.ownBlock) : w3.heap[w.heap.size + 1 + 1]? = some (.cells #[v] 27 (0, 0)) := by
  have hsz := h.size
  rw [hg.block _ (by have := hA.size; omega) (fun e => by have := (h.own.lt _ e.symm).1; omega)]
  exact (hA.block _ (by omega)).trans h.b2

set_option maxRecDepth 100000 in
set_option maxHeartbeats 8000000 in
theorem rbelow_any (A : Option Addr) (cap i : Nat) (ns : List Nd) (u : Nd) (w : World) (hn : NdsAt w A ns) (hc1 : ns.length ≤ cap) (hc : cap ≤ maxLen) (hsm : ns.length ≤ 1000000) (hi : ns[i]? = some u) (hd : ∀ x ∈ ns, 0 ≤ x.depth ∧ x.depth ≤ 4) :
    Calls Try.prog 80 #[.agg #[.slice A ns.length cap], .int .i64 i] w (GotText w (belowN ns i)) := by
  have HNS := Lib.hid hn
  have hin : i < ns.length := (List.getElem?_eq_some_iff.1 hi).1
  obtain ⟨b, o, rfl, hb, hva⟩ := hn i u hi
  have y1 := hva.c1
  have HBN := Lib.hid (belowN_at hi)
  have hsp := spanN_le ns u.depth i hin
  have hdu := hd u (List.mem_of_getElem? hi)
  obtain ⟨d, hdd⟩ : ∃ d, d = u.depth := ⟨_, rfl⟩
  have HSA := Lib.hid (fun k (h : k < spanN ns u.depth i) => spanN_at h)
  have HSE := Lib.hid (spanN_end ns u.depth i hin)
  have HI := Lib.hid hi
  rw [← hdd] at y1 HBN hsp hdu HSA HSE
  obtain ⟨m, hm⟩ : ∃ m, m = 1 + spanN ns d i := ⟨_, rfl⟩
  rw [← hm] at HBN
  have HS1 := Lib.hid (show ∀ k, 0 < k → k < m → ∃ x, ns[i + k]? = some x ∧ d < x.depth from fun k h0 h1 => by
    obtain ⟨x, h2, h3⟩ := HSA.out (k - 1) (by omega)
    exact ⟨x, by rw [← h2]; congr 1; omega, h3⟩)
  have HS2 := Lib.hid (show i + m = ns.length ∨ ∃ x, ns[i + m]? = some x ∧ x.depth ≤ d by
    rcases HSE.out with h | ⟨x, h1, h2⟩
    · exact .inl (by omega)
    · exact .inr ⟨x, by rw [← h1]; congr 1; omega, h2⟩)
  have hm0 : 0 < m := by omega
  have hmN : i + m ≤ ns.length := by omega
  have HDX := Lib.hid hd
  obtain ⟨N, hN⟩ : ∃ N, N = ns.length := ⟨_, rfl⟩
  have HN := Lib.hid hN
  rw [← hN] at hc1 hsm hin hmN HS2 ⊢
  unfold maxLen at hc
  clear hn hva hi hd hdd hm hN HSA HSE hsp
  obtain ⟨W, hW⟩ : ∃ W, W = ((w.alloc (.cells #[.slice (some ⟨b, o, none⟩) N cap] 27)).alloc (.cells #[.slice none 0 0] 27)).alloc (.cells #[.slice none 0 0] 27) := ⟨_, rfl⟩
  have HB := Lib.hid (show Below w.heap.size w W from hW ▸ (((Below.refl _ _).alloc (Nat.le_refl _) _).alloc (by simp) _).alloc (by simp; omega) _)
  have HSZ := Lib.hid (show W.heap.size = w.heap.size + 1 + 1 + 1 by rw [hW]; simp)
  have HR0 := Lib.hid (show BelRel w W W (some ⟨b, o, none⟩) N cap (.slice none 0 0) 0 [] from by
    refine ⟨HB.out, Nat.le_refl _, ?_, ?_, ?_, World.ownsRow_nil _ _ _ _⟩
    · rw [hW, heap_alloc_other _ _ _ (by simp; omega), heap_alloc_other _ _ _ (by simp)]; exact heap_alloc_new _ _
    · rw [hW, heap_alloc_other _ _ _ (by simp)]; have := heap_alloc_new (w.alloc (.cells #[.slice (some ⟨b, o, none⟩) N cap] 27)) (.cells #[.slice none 0 0] 27); simpa using this
    · rw [hW]; have := heap_alloc_new ((w.alloc (.cells #[.slice (some ⟨b, o, none⟩) N cap] 27)).alloc (.cells #[.slice none 0 0] 27)) (.cells #[.slice none 0 0] 27); simpa using this)
  have HY := Lib.hid (show ∀ wx, Below w.heap.size w wx → wx.cell? ⟨b, o + i * 8 + 1, none⟩ = some (.int .i64 d) ∧ b < wx.heap.size from fun wx hx => ⟨(hx.cell (p := ⟨b, _, none⟩) hb).trans y1, Nat.lt_of_lt_of_le hb hx.size⟩)
  obtain ⟨iv, hiv, hzv, hsv, hbv⟩ := info_hid infoNd
  go_enter Try.func80, Try.ntmps80
  go_wp2_with fail
  rw [← hW]
  clear hW y1
  go_loopw [6, 7] (fun c _ wr => ∃ k : Nat, k ≤ m ∧ c = .int .i64 ((i + k : Nat) : Int) ∧ Hid (∃ v, BelRel w W wr (some ⟨b, o, none⟩) N cap v k (((ns.drop i).take k).map (lowerN d)))) (fun c _ _ => N + 1 - (intOf c).toNat)
  case atStart => exact ⟨0, Nat.zero_le _, rfl, Lib.hid ⟨_, by simpa using HR0.out⟩⟩
  case round =>
    obtain ⟨k, hk, rfl, hrel0⟩ := hrel
    obtain ⟨v, hr⟩ := hrel0.out
    have HR := Lib.hid hr
    clear hr hrel0
    obtain ⟨j, hj⟩ : ∃ j, j = i + k := ⟨_, rfl⟩
    have HJ := Lib.hid hj
    rw [← hj]
    have x0 := cell_of_blk HR.out.b0 0
    have hx0 := (Array.getElem?_eq_some_iff.1 HR.out.b0).1
    obtain ⟨yi, hbr⟩ := HY.out wr HR.out.below
    simp at x0
    by_cases hlt : k < m
    · have HX := Lib.hid (show ∃ x, ns[j]? = some x ∧ (0 < k → d < x.depth) by
        rcases Nat.eq_zero_or_pos k with h0 | h0
        · subst h0; exact ⟨u, by rw [hj, Nat.add_zero]; exact HI.out, fun h => absurd h (by omega)⟩
        · obtain ⟨x, h1, h2⟩ := HS1.out k h0 hlt; exact ⟨x, by rw [hj]; exact h1, fun _ => h2⟩)
      obtain ⟨x, hx, hxd⟩ := HX.out
      have hxb := HDX.out x (List.mem_of_getElem? hx)
      have HTK := Lib.hid (show (ns.drop i).take (k + 1) = (ns.drop i).take k ++ [x] by
        have h1 : (ns.drop i)[k]? = some x := by rw [List.getElem?_drop, ← hj]; exact hx
        obtain ⟨h2, h3⟩ := List.getElem?_eq_some_iff.1 h1
        rw [List.take_succ_eq_append_getElem h2, h3])
      obtain ⟨b', o', e, hb', hvx⟩ := (HNS.out.below HR.out.below) j x hx
      injection e with e; injection e with e1 e2; subst e1 e2
      have HVX := Lib.hid hvx
      have hjN : j < N := by omega
      have hg1 : decide (j < N) = true := decide_eq_true hjN
      have z1 := hvx.c1
      obtain ⟨xk, xd, xs, xt, xm, xst, xmn, xmx⟩ := x
      dsimp only at hxd hxb z1
      clear hx hvx hj
      go_upto_region 3 with fail
      go_cut [34] (fun v wx => v = .bool true ∧ Hid (Below wr.heap.size wr wx))
      case first =>
        by_cases h0 : k = 0
        · have hg2 : ((j : Int) == (i : Int)) = true := by have := HJ.out; simp; omega
          clear hxd h0
          refine wp_region_later (by kernel_rfl) (by kernel_rfl) ?_; (repeat (first | go_big_quiet_step (fail) | quiet_step (fail))); refine wpQuiet_nil ?_; rintro _ ⟨s, rfl⟩
          go_wp2_with fail
          go_meet
          exact ⟨rfl, Lib.hid s.below⟩
        · have hg2 : ((j : Int) == (i : Int)) = false := by have := HJ.out; rw [beq_eq_false_iff_ne]; omega
          have hg3 : decide (d < xd) = true := decide_eq_true (hxd (by omega))
          clear hxd h0
          refine wp_region_later (by kernel_rfl) (by kernel_rfl) ?_; (repeat (first | go_big_quiet_step (fail) | quiet_step (fail))); refine wpQuiet_nil ?_; rintro _ ⟨s, rfl⟩
          go_wp2_with fail
          go_meet
          exact ⟨rfl, Lib.hid s.below⟩
      case rest =>
      obtain ⟨rfl, hbc⟩ := hcut
      obtain ⟨w4, rfl⟩ : ∃ w4, w4 = wc := ⟨_, rfl⟩
      have HR4 := Lib.hid (HR.out.later hbc.out)
      obtain ⟨z0, z1, z2, z3, z4, z5, z6, z7⟩ := HVX.out.below hbc.out hb'
      have hb4 : b < w4.heap.size := by have := hbc.out.size; omega
      obtain ⟨yi, -⟩ := HY.out w4 HR4.out.below
      have x0 := cell_of_blk HR4.out.b0 0
      have hx0 := (Array.getElem?_eq_some_iff.1 HR4.out.b0).1
      have hx2 := (Array.getElem?_eq_some_iff.1 HR4.out.b2).1
      dsimp only at z0 z1 z2 z3 z4 z5 z6 z7
      simp at x0
      clear hbc HR hbr
      have hwr : IntKind.i64.wrap (xd - d) = xd - d := IntWalk.i64_in _ (by omega)
      go_wp2_with fail
      refine wp_region_still_tail 10 (by kernel_rfl) (by kernel_rfl) ?_; simp only [List.take_succ_cons, List.take_zero, List.drop_succ_cons, List.drop_zero]; change wpStill _ _ ((w4.alloc (.cells #[.int .i64 xk, .int .i64 xd, .int .i64 xs, .int .i64 xt, .bool xm, .int .i64 xst, .int .i64 xmn, .int .i64 xmx] 78))).drew _ _ _; (repeat still_step); refine wpStill_nil ?_; change wpList _ _ _ _ _ ((w4.alloc (.cells #[.int .i64 xk, .int .i64 xd, .int .i64 xs, .int .i64 xt, .bool xm, .int .i64 xst, .int .i64 xmn, .int .i64 xmx] 78))).drew
      obtain ⟨zs, hzs⟩ : ∃ zs, zs = ((ns.drop i).take k).map (lowerN d) := ⟨_, rfl⟩
      have HZ := Lib.hid (show ((ns.drop i).take (k + 1)).map (lowerN d) = zs ++ [⟨xk, xd - d, xs, xt, xm, xst, xmn, xmx⟩] by rw [HTK.out, List.map_append, ← hzs]; rfl)
      rw [← hzs] at HR4
      obtain ⟨Av, cv, hv, -, -, -, -⟩ := own_slice HR4.out.own
      subst hv
      have q0 := cell_of_blk HR4.out.b2 0
      simp at q0
      clear hzs HTK
      go_wp2_with (first
        | (at_builtin; refine wpList_append_src _ rfl (.tmp 53) (.tmp 55) 25 rfl W.heap.size 78 iv (.agg #[.int .i64 0, .int .i64 0, .int .i64 0, .int .i64 0, .bool false, .int .i64 0, .int .i64 0, .int .i64 0]) 8 64 Try.underlying25 hiv.out hzv.out hsv.out hbv.out rfl (by decide) (.slice Av k cv) k (zs.flatMap Nd.cells) rfl ?own2 (some ⟨w4.heap.size + 1, 0, none⟩) 1 1 (Nd.cells ⟨xk, xd - d, xs, xt, xm, xst, xmn, xmx⟩) rfl ?l2 ?n2 ?c2 ?o2 ?m2 ?b2 ?s2 (k + 1) rfl ?_))
      case own2 => exact ((HR4.out.own.alloc _).alloc _).drew
      case l2 => rfl
      case n2 => intro h; cases h
      case o2 => exact nd_one _
      case c2 =>
        intro ad had jj u' hj
        injection had with had
        subst had
        have := new_cells (w4.alloc (.cells #[.int .i64 xk, .int .i64 (xd - d), .int .i64 xs, .int .i64 xt, .bool xm, .int .i64 xst, .int .i64 xmn, .int .i64 xmx] 78)) (Nd.cells ⟨xk, xd - d, xs, xt, xm, xst, xmn, xmx⟩) 78 jj u' hj
        simpa [Nd.cells] using this
      case m2 => unfold maxLen; omega
      case b2 => omega
      case s2 => have := HR4.out.size; simp; omega
      intro A3 c3 w3 own3 hg3 _
      have HA := Lib.hid (show Below w4.heap.size w4 (((w4.alloc (.cells #[.int .i64 xk, .int .i64 (xd - d), .int .i64 xs, .int .i64 xt, .bool xm, .int .i64 xst, .int .i64 xmn, .int .i64 xmx] 78)).alloc (.cells #[.int .i64 xk, .int .i64 (xd - d), .int .i64 xs, .int .i64 xt, .bool xm, .int .i64 xst, .int .i64 xmn, .int .i64 xmx] 78)).drew) from (two_under _ _ _).drew)
      have HSP := Lib.hid (HR4.out.step (by have := HSZ.out; omega) HA.out own3 hg3)
      have k3 := HR4.out.out2 (by have := HSZ.out; omega) HA.out hg3
      have q0 := cell_of_blk k3 0
      have q1 := free_of_blk k3 0
      have q2 := (Array.getElem?_eq_some_iff.1 k3).1
      simp at q0
      clear own3 hg3 k3 HA
      go_wp2_with fail
      go_roundw
      case rel => exact ⟨k + 1, by omega, by rw [show i + (k + 1) = j + 1 by have := HJ.out; omega]; go_num, Lib.hid ⟨_, by rw [HZ.out]; exact HSP.out⟩⟩
      case measure => simp [intOf]; omega
    · obtain rfl : k = m := by omega
      obtain ⟨Av, cv, hv, -, -, -, -⟩ := own_slice HR.out.own
      subst hv
      have HT := Lib.hid (show belowN ns i = ((ns.drop i).take k).map (lowerN d) from HBN.out)
      have HL := Lib.hid (show (belowN ns i).length = k by rw [HT.out, List.length_map, List.length_take, List.length_drop, ← HN.out]; omega)
      have q0 := cell_of_blk HR.out.b2 0
      have r0 := cell_of_blk HR.out.b1 0
      have r1 := free_of_blk HR.out.b1 0
      have hx1 := (Array.getElem?_eq_some_iff.1 HR.out.b1).1
      have hx2 := (Array.getElem?_eq_some_iff.1 HR.out.b2).1
      simp at q0 r0
      have HG := Lib.hid (fun wx (hb : Below wr.heap.size wr wx) => show GotText w (belowN ns i) (.returned (.agg #[.slice Av k cv])) (wx.setCell ⟨w.heap.size + 1, 0, none⟩ (.slice Av k cv)) from by
        have h5 := HR.out.later hb
        have h6 := ownsRow_of_block (w' := wx.setCell ⟨w.heap.size + 1, 0, none⟩ (.slice Av k cv)) h5.own (fun g hg => heap_setCell_other _ _ _ _ (by have := (h5.own.lt g hg).1; have := HSZ.out; dsimp only; omega))
        refine ⟨Av, cv, by rw [HL.out], ?_, h5.below.setCell (by dsimp only; omega) _⟩
        rw [HL.out, HT.out]
        exact own_base h6 (by have := HSZ.out; omega))
      have HGD := Lib.hid (show (j = N) ∨ (j < N ∧ ∃ xd : Int, xd ≤ d ∧ wr.cell? ⟨b, o + j * 8 + 1, none⟩ = some (.int .i64 xd)) by
        rcases HS2.out with h | ⟨x, h1, h2⟩
        · exact .inl (by have := HJ.out; omega)
        · rw [← hj] at h1
          obtain ⟨b', o', e, hb', hvx⟩ := (HNS.out.below HR.out.below) j x h1
          injection e with e; injection e with e1 e2; subst e1 e2
          exact .inr ⟨by rw [HN.out]; exact (List.getElem?_eq_some_iff.1 h1).1, x.depth, h2, hvx.c1⟩)
      clear hj
      have hne : ((j : Int) == (i : Int)) = false := by have := HJ.out; rw [beq_eq_false_iff_ne]; omega
      rcases HGD.out with h | ⟨hjN, xd, hxd, z1⟩
      · have hg1 : decide (j < N) = false := decide_eq_false (by omega)
        clear h
        go_upto_region 3 with fail
        refine wp_region_later (by kernel_rfl) (by kernel_rfl) ?_; (repeat (first | go_big_quiet_step (fail) | quiet_step (fail))); refine wpQuiet_nil ?_; rintro _ ⟨s, rfl⟩
        have hbs := Lib.hid s.below
        go_wp2
        refine bodyPost_ret (v := .agg #[.slice Av k cv]) (by simp [results, Try.results80, go_sem, r0, hx1, hx2]) rfl (HG.out _ hbs.out)
      · have hg1 : decide (j < N) = true := decide_eq_true hjN
        have hg3 : decide (d < xd) = false := decide_eq_false (by omega)
        go_upto_region 3 with fail
        refine wp_region_later (by kernel_rfl) (by kernel_rfl) ?_; (repeat (first | go_big_quiet_step (fail) | quiet_step (fail))); refine wpQuiet_nil ?_; rintro _ ⟨s, rfl⟩
        have hbs := Lib.hid s.below
        go_wp2
        refine bodyPost_ret (v := .agg #[.slice Av k cv]) (by simp [results, Try.results80, go_sem, r0, hx1, hx2]) rfl (HG.out _ hbs.out)

end Go.Proofs.Ytilagndfohnjnaa

/- The specification's Sub. -/
namespace Go.Proofs.Ytilagndfohnjnaa
open Go.RowKit

set_option maxRecDepth 100000 in
set_option maxHeartbeats 4000000 in
theorem rsub_any (L : Lm) (A : Option Addr) (cap : Nat) (ns : List Nd) (node : Int) (w : World) (hl : LmOk w L) (hn : NdsAt w A ns) (hc1 : ns.length ≤ cap) (hc : cap ≤ maxLen) :
    Calls Try.prog 46 #[.agg #[.int .i64 L.per, .slice L.A L.ms.length L.cap], .agg #[.slice A ns.length cap], .int .i64 node] w (GotTextO w (subQ L.li ns node).1 (subQ L.li ns node).2) := by
  obtain ⟨E, hE⟩ : ∃ E, textErr L.li ns = E := ⟨_, rfl⟩
  obtain ⟨R, hR⟩ : ∃ R, R = subQ L.li ns node := ⟨_, rfl⟩
  have HE1 := Lib.hid (show E ≠ 0 → R = ([], E) by rw [hR]; intro h; unfold subQ placeErr; rw [hE, if_pos h, if_pos h])
  have HE2 := Lib.hid (show E = 0 → (node < 0 ∨ (ns.length : Int) ≤ node) → R = ([], 1) by rw [hR]; intro h h2; unfold subQ placeErr; rw [if_neg (show ¬ textErr L.li ns ≠ 0 by simp [hE, h]), if_pos h2, if_pos (by simp)])
  have HE3 := Lib.hid (show E = 0 → ¬ (node < 0 ∨ (ns.length : Int) ≤ node) → R = (belowN ns node.toNat, 0) by rw [hR]; intro h h2; unfold subQ placeErr; rw [if_neg (show ¬ textErr L.li ns ≠ 0 by simp [hE, h]), if_neg h2, if_neg (by simp)])
  have HEE := Lib.hid hE
  have HNS := Lib.hid hn
  have HCM := Lib.hid hc
  obtain ⟨N, hN⟩ : ∃ N, N = ns.length := ⟨_, rfl⟩
  have HN := Lib.hid hN
  have HCK := Lib.hid (fun wx (hb : Below w.heap.size w wx) => rgcheck_is L A cap ns wx (hl.below hb) (hn.below hb) hc1 hc E hE)
  rw [← hR]
  rw [← hN] at HCK hc1 HE2 HE3 ⊢
  unfold maxLen at hc
  obtain ⟨W, hW⟩ : ∃ W, W = ((w.alloc (.cells #[.int .i64 L.per, .slice L.A L.ms.length L.cap] 24)).alloc (.cells #[.slice A N cap] 27)).alloc (.cells #[.slice none 0 0] 27) := ⟨_, rfl⟩
  have HB := Lib.hid (show Below w.heap.size w W from hW ▸ (((Below.refl _ _).alloc (Nat.le_refl _) _).alloc (by simp) _).alloc (by simp; omega) _)
  have HX1 := Lib.hid (show W.heap[w.heap.size + 1]? = some (.cells #[.slice A N cap] 27 (0, 0)) by
    rw [hW, heap_alloc_other _ _ _ (by simp)]; have := heap_alloc_new (w.alloc (.cells #[.int .i64 L.per, .slice L.A L.ms.length L.cap] 24)) (.cells #[.slice A N cap] 27); simpa using this)
  have HX2 := Lib.hid (show W.heap[w.heap.size + 1 + 1]? = some (.cells #[.slice none 0 0] 27 (0, 0)) by
    rw [hW]; have := heap_alloc_new ((w.alloc (.cells #[.int .i64 L.per, .slice L.A L.ms.length L.cap] 24)).alloc (.cells #[.slice A N cap] 27)) (.cells #[.slice none 0 0] 27); simpa using this)
  clear hl hn hE hN hR
  go_enter Try.func46, Try.ntmps46
  go_wp2_with fail
  rw [← hW]
  refine (HCK.out W HB.out).mono ?_; rintro e w1 ⟨rfl, hb⟩
  have HB1 := Lib.hid (below_more HB.out hb)
  have D1 := Lib.hid (blk_keep hb HX1.out)
  have D2 := Lib.hid (blk_keep hb HX2.out)
  have x0 := cell_of_blk D1.out 0
  have q0 := cell_of_blk D2.out 0
  have q1 := free_of_blk D2.out 0
  have hs2 := (Array.getElem?_eq_some_iff.1 D2.out).1
  have hs1 : w.heap.size + 1 < w1.heap.size := by omega
  have hsz : w.heap.size ≤ w1.heap.size := by omega
  simp at x0 q0
  clear hb hW HX1 HX2 HCK HB
  by_cases h0 : E = 0
  case neg =>
    have hbE : (E != 0) = true := by simpa using h0
    have HF := Lib.hid (HE1.out h0)
    clear h0 HE1 HE2 HE3
    go_wp2
    refine bodyPost_ret (v := .tuple #[.agg #[.slice none 0 0], .int .i64 E]) (by simp [results, Try.results46, go_sem, q0]) rfl ?_
    rw [HF.out]
    exact ⟨none, 0, 0, rfl, Lib.hid rfl, Lib.hid (own_none _ _), HB1.out.setCell (by dsimp only; omega) _⟩
  subst h0
  by_cases h1 : node < 0
  · have HF := Lib.hid (HE2.out rfl (.inl h1))
    clear HE1 HE2 HE3
    go_wp2
    refine bodyPost_ret (v := .tuple #[.agg #[.slice none 0 0], .int .i64 1]) (by simp [results, Try.results46, go_sem, q0]) rfl ?_
    rw [HF.out]
    exact ⟨none, 0, 0, rfl, Lib.hid rfl, Lib.hid (own_none _ _), HB1.out.setCell (by dsimp only; omega) _⟩
  have hd1 : decide (node < 0) = false := decide_eq_false h1
  by_cases h2 : (N : Int) ≤ node
  · have HF := Lib.hid (HE2.out rfl (.inr h2))
    clear HE1 HE2 HE3
    go_wp2
    refine bodyPost_ret (v := .tuple #[.agg #[.slice none 0 0], .int .i64 1]) (by simp [results, Try.results46, go_sem, q0]) rfl ?_
    rw [HF.out]
    exact ⟨none, 0, 0, rfl, Lib.hid rfl, Lib.hid (own_none _ _), HB1.out.setCell (by dsimp only; omega) _⟩
  have hd2 : decide ((N : Int) ≤ node) = false := decide_eq_false h2
  obtain ⟨i, rfl⟩ : ∃ i : Nat, node = i := ⟨node.toNat, by omega⟩
  obtain ⟨u, hu⟩ : ∃ u, ns[i]? = some u := ⟨_, List.getElem?_eq_getElem (by have := HN.out; omega)⟩
  obtain ⟨-, hk2, -, -, hk5, -⟩ := text_ok HEE.out
  have HF := Lib.hid (show R = (belowN ns i, 0) by rw [HE3.out rfl (by omega), Int.toNat_natCast])
  obtain ⟨zs, hzs⟩ : ∃ zs, zs = belowN ns i := ⟨_, rfl⟩
  have HBL := Lib.hid (show Calls Try.prog 80 #[.agg #[.slice A N cap], .int .i64 i] w1 (GotText w1 zs) by
    have := rbelow_any A cap i ns u w1 (HNS.out.below HB1.out) (by rw [← HN.out]; exact hc1) HCM.out (by omega) hu hk5
    rw [← HN.out, ← hzs] at this; exact this)
  rw [← hzs] at HF
  clear HE1 HE2 HE3 hu hk2 hk5 hzs
  go_wp2_with fail
  refine HBL.out.mono ?_; rintro e w2 ⟨A2, c2, rfl, hown, hb⟩
  obtain ⟨m, hm⟩ : ∃ m, m = zs.length := ⟨_, rfl⟩
  have HM := Lib.hid hm
  rw [← hm] at hown ⊢
  have HO := Lib.hid (show (w2.setCell ⟨w.heap.size + 1 + 1, 0, none⟩ (.slice A2 m c2)).ownsRow w.heap.size 78 8 (.slice A2 m c2) m (zs.flatMap Nd.cells) from
    own_base (ownsRow_of_block hown (fun g hg => heap_setCell_other _ _ _ _ (by have := (hown.lt g hg).1; dsimp only; omega))) hsz)
  have HBB := Lib.hid (show Below w.heap.size w (w2.setCell ⟨w.heap.size + 1 + 1, 0, none⟩ (.slice A2 m c2)) from (below_more HB1.out hb).setCell (by dsimp only; omega) _)
  have z0 := cell_of_blk (blk_keep hb D2.out) 0
  have z1 := free_of_blk (blk_keep hb D2.out) 0
  have z2 := (Array.getElem?_eq_some_iff.1 (blk_keep hb D2.out)).1
  simp at z0
  clear hown hb hm HBL x0 q0 q1
  go_wp2
  refine bodyPost_ret (v := .tuple #[.agg #[.slice A2 m c2], .int .i64 0]) (by simp [results, Try.results46, go_sem, z0, z2]) rfl ?_
  rw [HF.out]
  exact ⟨A2, m, c2, rfl, Lib.hid HM.out, Lib.hid HO.out, HBB.out⟩

end Go.Proofs.Ytilagndfohnjnaa
