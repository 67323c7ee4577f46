/-
  The line of a text, the program's and the specification's. And what builds on it.
-/
import Derived.Test.YtilagndfohnjnaaPkI
import Derived.Test.YtilagndfohnjnaaPkG
import Derived.Test.YtilagndfohnjnaaPkE

/- The line of a text, the program's and the specification's. -/
namespace Go.Proofs.Ytilagndfohnjnaa
open Go.RowKit

def lineQ (l : Li) (ns : List Nd) : List Mk × Int :=
  if textErr l ns ≠ 0 then ([], textErr l ns) else (lineR ns, 0)
/-- marks and an error that were made, in memory of the call's own -/
def GotMarksO (w : World) (zs : List Mk) (er : Int) (e : Ending) (w' : World) : Prop :=
  ∃ A k c, e = .returned (.tuple #[.slice A k c, .int .i64 er]) ∧ Hid (k = zs.length) ∧ Hid (w'.ownsRow w.heap.size 69 4 (.slice A k c) k (zs.flatMap Mk.cells)) ∧ Below w.heap.size w w'
/-- marks and an error that were made -/
def GotMarksX (w : World) (zs : List Mk) (er : Int) (e : Ending) (w' : World) : Prop :=
  ∃ A k c, e = .returned (.tuple #[.slice A k c, .int .i64 er]) ∧ Hid (k = zs.length) ∧ Hid (MksAt w' A zs) ∧ Below w.heap.size w w'
theorem GotMarksO.x {w : World} {zs : List Mk} {er : Int} {e : Ending} {w' : World} (h : GotMarksO w zs er e w') : GotMarksX w zs er e w' := by
  obtain ⟨A, k, c, rfl, hk, h1, h2⟩ := h
  exact ⟨A, k, c, rfl, hk, Lib.hid (own_marks h1.out), h2⟩
def Mk.val (m : Mk) : Value := .agg #[.int .i64 m.sign, .int .i64 m.state, .int .i64 m.min, .int .i64 m.max]
def mkEq (u v : Mk) : Bool := u.sign == v.sign && u.state == v.state && u.min == v.min && u.max == v.max
theorem mkEq_refl (u : Mk) : mkEq u u = true := by simp [mkEq]
theorem eqMk (k k2 f f2 u u2 t t2 : Int) (w : World) : (binOp .neq 69 (.agg #[.int .i64 k, .int .i64 t, .int .i64 f, .int .i64 u]) (.agg #[.int .i64 k2, .int .i64 t2, .int .i64 f2, .int .i64 u2])).run Try.prog w = .ok (.bool (!(k == k2 && t == t2 && f == f2 && u == u2))) w := by
  rw [run_neq_struct]
  simp [go_sem]
  by_cases h1 : k = k2
  case neg => simp [h1]
  by_cases h2 : t = t2
  case neg => simp [h1, h2]
  by_cases h3 : f = f2
  case neg => simp [h1, h2, h3]
  by_cases h4 : u = u2 <;> simp [h1, h2, h3, h4]

theorem line_bound {ns : List Nd} (h : Shape ns) (hl : ns.length ≤ 250) : (lineR ns).length ≤ 2000000 ∧ (allLeaves ns).length = (lineR ns).length := by
  have e : (lineR ns).length = (allLeaves ns).length := by rw [line_is h, List.length_map]; unfold pickN; rw [List.length_map]
  refine ⟨?_, e.symm⟩
  rw [e]
  unfold allLeaves
  have hf : ∀ l : List Nat, (l.flatMap (leavesF ns 5)).length ≤ l.length * 7776 := by
    intro l
    induction l with
    | nil => simp
    | cons a r ih =>
      have := leavesF_len (vis_of h).1 5 a
      rw [List.flatMap_cons, List.length_append, List.length_cons]
      have h6 : (6 : Nat) ^ 5 = 7776 := by decide
      omega
  have h1 := hf (topsL ns)
  have h2 := tops_len ns
  omega

set_option maxRecDepth 100000 in
theorem rmark_any (u : Nd) (w : World) (m : Mk) (hm : markR u = m) :
    Calls Try.prog 70 #[.agg #[.int .i64 u.kind, .int .i64 u.depth, .int .i64 u.sign, .int .i64 u.turn, .bool u.mirror, .int .i64 u.state, .int .i64 u.min, .int .i64 u.max]] w fun e w' => e = .returned (.agg #[.int .i64 m.sign, .int .i64 m.state, .int .i64 m.min, .int .i64 m.max]) ∧ Below w.heap.size w w' := by
  obtain ⟨kind, depth, sign, turn, mirror, state, mn, mx⟩ := u
  have HM := Lib.hid hm
  clear hm
  by_cases hk : kind = 6
  · have hkb : (kind == 6) = true := by simpa using hk
    have HV := Lib.hid (show m = ⟨-1, 0, mn, mx⟩ by rw [← HM.out]; unfold markR; rw [if_pos hk])
    clear hk
    go_enter Try.func70, Try.ntmps70
    go_wp2
    refine bodyPost_ret (v := .agg #[.int .i64 (-1), .int .i64 0, .int .i64 mn, .int .i64 mx]) (by simp [results, Try.results70, go_sem]) rfl ⟨by rw [HV.out], two_under _ _ _⟩
  · have hkb : (kind == 6) = false := by simpa using hk
    have HV := Lib.hid (show m = ⟨sign, state, 0, 0⟩ by rw [← HM.out]; unfold markR; rw [if_neg hk])
    clear hk
    go_enter Try.func70, Try.ntmps70
    go_wp2
    refine bodyPost_ret (v := .agg #[.int .i64 sign, .int .i64 state, .int .i64 0, .int .i64 0]) (by simp [results, Try.results70, go_sem]) rfl ⟨by rw [HV.out], two_under _ _ _⟩

set_option maxRecDepth 100000 in
set_option maxHeartbeats 4000000 in
theorem lineP_any (L : Lm) (A : Option Addr) (cap : Nat) (ns : List Nd) (w : World) (hl : LmOk w L) (hn : NdsAt w A ns) (hc1 : ns.length ≤ cap) (hc : cap ≤ maxLen) :
    Calls Try.prog 28 #[.agg #[.int .i64 L.per, .slice L.A L.ms.length L.cap], .agg #[.slice A ns.length cap]] w (GotMarksO w (lineQ L.li ns).1 (lineQ L.li ns).2) := by
  obtain ⟨E, hE⟩ : ∃ E, textErr L.li ns = E := ⟨_, rfl⟩
  obtain ⟨R, hR⟩ : ∃ R, R = lineQ L.li ns := ⟨_, rfl⟩
  have HE := Lib.hid (show R = if E ≠ 0 then ([], E) else (lineR ns, 0) by rw [hR, ← hE]; rfl)
  have HEE := Lib.hid hE
  have HNS := Lib.hid hn
  have HCM := Lib.hid hc
  obtain ⟨N, hN⟩ : ∃ N, N = ns.length := ⟨_, rfl⟩
  have HN := Lib.hid hN
  have HCK := Lib.hid (fun wx (hb : Below w.heap.size w wx) => gcheck_is L A cap ns wx (hl.below hb) (hn.below hb) hc1 hc E hE)
  rw [← hR]
  rw [← hN] at HCK hc1 ⊢
  unfold maxLen at hc
  obtain ⟨W, hW⟩ : ∃ W, W = (w.alloc (.cells #[.int .i64 L.per, .slice L.A L.ms.length L.cap] 24)).alloc (.cells #[.slice A N cap] 27) := ⟨_, rfl⟩
  have HB := Lib.hid (show Below w.heap.size w W from hW ▸ two_under _ _ _)
  have HX1 := Lib.hid (show W.heap[w.heap.size + 1]? = some (.cells #[.slice A N cap] 27 (0, 0)) by
    rw [hW]; have := heap_alloc_new (w.alloc (.cells #[.int .i64 L.per, .slice L.A L.ms.length L.cap] 24)) (.cells #[.slice A N cap] 27); simpa using this)
  clear hl hn hE hN hR
  go_enter Try.func28, Try.ntmps28
  go_wp2_with fail
  rw [← hW]
  refine (HCK.out W HB.out).mono ?_; rintro e w1 ⟨rfl, hb⟩
  have HB1 := Lib.hid (below_more HB.out hb)
  have x0 := cell_of_blk (blk_keep hb HX1.out) 0
  simp at x0
  clear hb hW HX1 HCK HB
  by_cases h0 : E = 0
  case neg =>
    have hbE : (E != 0) = true := by simpa using h0
    have HF := Lib.hid (show R = ([], E) by rw [HE.out, if_pos h0])
    clear h0 HE
    go_wp2_with fail
    go_ret2
    rw [HF.out]
    exact ⟨none, 0, 0, rfl, Lib.hid rfl, Lib.hid (World.ownsRow_nil _ _ _ _), HB1.out⟩
  subst h0
  obtain ⟨-, hk2, -, -, -, hk6⟩ := text_ok HEE.out
  obtain ⟨ms, hms⟩ : ∃ ms, ms = lineR ns := ⟨_, rfl⟩
  have HLN := Lib.hid (show Calls Try.prog 68 #[.agg #[.slice A N cap]] w1 (GotRow w1 69 4 ms.length (ms.flatMap Mk.cells)) by
    have := line_any A cap ns hk6 (by rw [← HN.out]; exact hc1) HCM.out (by omega) w1 (HNS.out.below HB1.out)
    rw [← HN.out, ← hms] at this; exact this)
  have HF := Lib.hid (show R = (ms, 0) by rw [HE.out, if_neg (by simp), hms])
  obtain ⟨n, hnn⟩ : ∃ n, n = ms.length := ⟨_, rfl⟩
  have HNM := Lib.hid hnn
  rw [← hnn] at HLN
  clear HE hk2 hk6 hms hnn
  go_wp2_with fail
  refine HLN.out.mono ?_; rintro e w2 ⟨A2, c2, rfl, hown, hb⟩
  have HO := Lib.hid (own_base hown HB1.out.size)
  have HB2 := Lib.hid (below_more HB1.out hb)
  clear hown hb x0
  go_wp2_with fail
  go_ret2
  rw [HF.out]
  exact ⟨A2, n, c2, rfl, HNM, HO, HB2.out⟩

set_option maxHeartbeats 1600000 in
theorem sameM_eq (A B : Option Addr) (n m c d : Nat) (zs : List Mk) (w : World) (hn : n = zs.length) (hm : m = zs.length) (hA : MksAt w A zs) (hB : MksAt w B zs) (hz : zs.length ≤ 2000000) :
    Calls Try.prog 34 #[.slice A n c, .slice B m d] w fun e w' => e = .returned (.bool true) ∧ Below w.heap.size w w' := by
  obtain rfl : m = n := hm.trans hn.symm
  have HN := Lib.hid hn
  rw [← hn] at hz
  clear hn hm
  go_enter Try.func34, Try.ntmps34
  go_wp2
  go_loopw [5] (fun i wr => ∃ k : Nat, k ≤ m ∧ i = .int .i64 k ∧ Hid (Below w.heap.size w wr)) (fun i _ => m - (intOf i).toNat)
  case atStart => exact ⟨0, Nat.zero_le _, rfl, Lib.hid (Below.refl _ _)⟩
  case round =>
    obtain ⟨k, hk, rfl, hb⟩ := hrel
    by_cases hlt : k < m
    · obtain ⟨z, hz⟩ : ∃ z, zs[k]? = some z := ⟨_, List.getElem?_eq_getElem (by have := HN.out; omega)⟩
      obtain ⟨g, o, e1, hg, y0, y1, y2, y3⟩ := (hA.below hb.out) k z hz
      obtain ⟨g', o', e2, hg', z0, z1, z2, z3⟩ := (hB.below hb.out) k z hz
      subst e1 e2
      obtain ⟨za, zb, zc, zd⟩ := z
      dsimp only at y0 y1 y2 y3 z0 z1 z2 z3
      have he := fun w => eqMk za za zc zc zd zd zb zb w
      rw [show (!(za == za && zb == zb && zc == zc && zd == zd)) = false by simp] at he
      clear hz hA hB
      go_wp2
      refine wp_region_later (by kernel_rfl) (by kernel_rfl) ?_; (repeat (first | go_big_quiet_step (fail) | quiet_step (fail))); refine wpQuiet_nil ?_; rintro _ ⟨s, rfl⟩
      go_wp2
      go_roundw
      case rel => exact ⟨k + 1, by omega, by go_num, Lib.hid (hb.out.trans (s.below.mono hb.out.size))⟩
      case measure => simp [intOf]; omega
    · obtain rfl : k = m := by omega
      go_wp2
      go_ret
      exact ⟨rfl, hb.out⟩

set_option maxRecDepth 100000 in
set_option maxHeartbeats 8000000 in
theorem rline3_any (L : Lm) (A : Option Addr) (cap : Nat) (ns : List Nd) (w : World) (hl : LmOk w L) (hn : NdsAt w A ns) (hc1 : ns.length ≤ cap) (hc : cap ≤ maxLen) :
    Calls Try.prog 29 #[.agg #[.int .i64 L.per, .slice L.A L.ms.length L.cap], .agg #[.slice A ns.length cap]] w (GotMarksO w (lineQ L.li ns).1 (lineQ L.li ns).2) := by
  obtain ⟨E, hE⟩ : ∃ E, textErr L.li ns = E := ⟨_, rfl⟩
  obtain ⟨R, hR⟩ : ∃ R, R = lineQ L.li ns := ⟨_, rfl⟩
  have HE := Lib.hid (show R = if E ≠ 0 then ([], E) else (lineR ns, 0) by rw [hR, ← hE]; rfl)
  have HEE := Lib.hid hE
  have HNS := Lib.hid hn
  have HCM := Lib.hid hc
  obtain ⟨N, hN⟩ : ∃ N, N = ns.length := ⟨_, rfl⟩
  have HN := Lib.hid hN
  have HCK := Lib.hid (fun wx (hb : Below w.heap.size w wx) => rgcheck_is L A cap ns wx (hl.below hb) (hn.below hb) hc1 hc E hE)
  rw [← hR]
  rw [← hN] at HCK hc1 ⊢
  unfold maxLen at hc
  obtain ⟨W, hW⟩ : ∃ W, W = (w.alloc (.cells #[.int .i64 L.per, .slice L.A L.ms.length L.cap] 24)).alloc (.cells #[.slice A N cap] 27) := ⟨_, rfl⟩
  have HB := Lib.hid (show Below w.heap.size w W from hW ▸ two_under _ _ _)
  have HX1 := Lib.hid (show W.heap[w.heap.size + 1]? = some (.cells #[.slice A N cap] 27 (0, 0)) by
    rw [hW]; have := heap_alloc_new (w.alloc (.cells #[.int .i64 L.per, .slice L.A L.ms.length L.cap] 24)) (.cells #[.slice A N cap] 27); simpa using this)
  obtain ⟨iv, hiv, hzv, hsv, hbv⟩ := info_hid infoMk
  clear hl hn hE hN hR
  go_enter Try.func29, Try.ntmps29
  go_wp2_with fail
  rw [← hW]
  refine (HCK.out W HB.out).mono ?_; rintro e w1 ⟨rfl, hb⟩
  have HB1 := Lib.hid (below_more HB.out hb)
  have D1 := Lib.hid (blk_keep hb HX1.out)
  have x0 := cell_of_blk D1.out 0
  simp at x0
  clear hb hW HX1 HCK HB
  by_cases h0 : E = 0
  case neg =>
    have hbE : (E != 0) = true := by simpa using h0
    have HF := Lib.hid (show R = ([], E) by rw [HE.out, if_pos h0])
    clear h0 HE
    go_wp2_with fail
    go_ret2
    rw [HF.out]
    exact ⟨none, 0, 0, rfl, Lib.hid rfl, Lib.hid (World.ownsRow_nil _ _ _ _), HB1.out⟩
  subst h0
  have hsh := shape_of HEE.out
  have hk2 := (text_ok HEE.out).2.1
  obtain ⟨hlb, hal⟩ := line_bound hsh (by omega)
  have HF := Lib.hid (show R = ((pickN ns (allLeaves ns)).map markR, 0) by rw [HE.out, if_neg (by simp), line_is hsh])
  have HLT := Lib.hid (show ∀ j ∈ allLeaves ns, j < ns.length from fun j hj => by
    unfold allLeaves at hj
    obtain ⟨k, _, hk⟩ := List.mem_flatMap.1 hj
    exact leaves_lt 5 k j hk)
  obtain ⟨al, hall⟩ : ∃ al, al = allLeaves ns := ⟨_, rfl⟩
  have HLV := Lib.hid (show Calls Try.prog 69 #[.agg #[.slice A N cap], .int .i64 (-1)] w1 (GotRow w1 3 1 al.length (intsV al)) by
    have := rleavesT_any A cap ns hsh (by rw [← HN.out]; exact hc1) HCM.out (by omega) w1 (HNS.out.below HB1.out)
    rw [← HN.out, ← hall] at this; exact this)
  rw [← hall] at HF HLT hal
  obtain ⟨n, hnn⟩ : ∃ n, n = al.length := ⟨_, rfl⟩
  have HNA := Lib.hid hnn
  rw [← hnn] at HLV hal
  have hn2 : n ≤ 2000000 := by omega
  clear HE hk2 hsh hlb hal hall hnn
  go_wp2_with fail
  refine HLV.out.mono ?_; rintro e w2 ⟨A2, c2, rfl, hown, hb⟩
  have HB2 := Lib.hid (below_more HB1.out hb)
  have D2 := Lib.hid (blk_keep hb D1.out)
  have HRI := Lib.hid (row_ints hown)
  have hol := own_len hown
  have hnc := hol.1
  have hcm := hol.2.1
  unfold maxLen at hcm
  clear hown hb hol x0 HLV D1
  go_wp2_with fail
  go_loopw [7, 9] (fun v c wr => ∃ (k : Nat), k ≤ n ∧ c = .int .i64 k ∧ Hid (wr.ownsRow w2.heap.size 69 4 v k (((pickN ns (al.take k)).map markR).flatMap Mk.cells)) ∧ Hid (Below w2.heap.size w2 wr)) (fun _ c _ => n - (intOf c).toNat)
  case atStart => exact ⟨0, Nat.zero_le _, rfl, Lib.hid (by simpa [pickN] using World.ownsRow_nil _ _ _ _), Lib.hid (Below.refl _ _)⟩
  case round =>
    obtain ⟨k, hk, rfl, hown, hbw⟩ := hrel
    have HOW := Lib.hid hown.out
    have HBW := Lib.hid hbw.out
    clear hown hbw
    by_cases hlt : k < n
    · obtain ⟨j, hj⟩ : ∃ j, al[k]? = some j := ⟨_, List.getElem?_eq_getElem (by have := HNA.out; omega)⟩
      have hjN : j < N := by rw [HN.out]; exact HLT.out j (List.mem_of_getElem? hj)
      obtain ⟨x, hx⟩ : ∃ x, ns[j]? = some x := ⟨_, List.getElem?_eq_getElem (by have := HN.out; omega)⟩
      have HTK := Lib.hid (show (pickN ns (al.take (k + 1))).map markR = (pickN ns (al.take k)).map markR ++ [markR x] by
        obtain ⟨hk', e⟩ := List.getElem?_eq_some_iff.1 hj
        rw [List.take_succ_eq_append_getElem hk', e]; unfold pickN; rw [List.map_append, List.map_append]; simp [getN_at hx])
      obtain ⟨g, o2, rfl, hg, hcell⟩ := HRI.out k j hj
      obtain ⟨b, o, rfl, hblt, hva⟩ := HNS.out j x hx
      obtain ⟨ms, hms⟩ : ∃ ms, ms = (pickN ns (al.take k)).map markR := ⟨_, rfl⟩
      rw [← hms] at HTK HOW
      obtain ⟨Av, cv, hv, -, -, -, -⟩ := own_slice HOW.out
      subst hv
      have hs2 := HBW.out.size
      have HVA := Lib.hid (fun wx (hb : Below w2.heap.size w2 wx) => hva.below (below_more HB2.out hb) hblt)
      obtain ⟨mk, hmk⟩ : ∃ m, markR x = m := ⟨_, rfl⟩
      have HMK := Lib.hid (fun wx => rmark_any x wx mk hmk)
      rw [hmk] at HTK
      obtain ⟨xk, xd, xs, xt, xm, xst, xmn, xmx⟩ := x
      dsimp only at HMK
      have HK := Lib.hid (fun wx (hb : Below w2.heap.size w2 wx) => show wx.cell? ⟨w.heap.size + 1, 0, none⟩ = some (.slice (some ⟨b, o, none⟩) N cap) ∧ wx.cell? ⟨g, o2 + k, none⟩ = some (.int .i64 (j : Nat)) ∧ wx.cell? ⟨b, o + j * 8, none⟩ = some (.int .i64 xk) ∧ wx.cell? ⟨b, o + j * 8 + 1, none⟩ = some (.int .i64 xd) ∧ wx.cell? ⟨b, o + j * 8 + 2, none⟩ = some (.int .i64 xs) ∧ wx.cell? ⟨b, o + j * 8 + 3, none⟩ = some (.int .i64 xt) ∧ wx.cell? ⟨b, o + j * 8 + 4, none⟩ = some (.bool xm) ∧ wx.cell? ⟨b, o + j * 8 + 5, none⟩ = some (.int .i64 xst) ∧ wx.cell? ⟨b, o + j * 8 + 6, none⟩ = some (.int .i64 xmn) ∧ wx.cell? ⟨b, o + j * 8 + 7, none⟩ = some (.int .i64 xmx) from
        ⟨by have := cell_of_blk (blk_keep hb D2.out) 0; simpa using this, (hb.cell (p := ⟨g, o2 + k, none⟩) hg).trans hcell, (HVA.out wx hb).c0, (HVA.out wx hb).c1, (HVA.out wx hb).c2, (HVA.out wx hb).c3, (HVA.out wx hb).c4, (HVA.out wx hb).c5, (HVA.out wx hb).c6, (HVA.out wx hb).c7⟩)
      have HDR := Lib.hid (show Below w2.heap.size w2 wr.drew from HBW.out.drew)
      have hkn : (k : Int) < (n : Int) := by omega
      have hk0 : (0 : Int) ≤ (k : Int) := by omega
      have hj0 : (0 : Int) ≤ (j : Int) := by omega
      have hjn : (j : Int) < (N : Int) := by omega
      clear hj hx hcell hva hms hmk
      go_wp2_with fail
      go_region_held3 (fun wx => wx.cell? ⟨w.heap.size + 1, 0, none⟩ = some (.slice (some ⟨b, o, none⟩) N cap) ∧ wx.cell? ⟨g, o2 + k, none⟩ = some (.int .i64 (j : Nat)) ∧ wx.cell? ⟨b, o + j * 8, none⟩ = some (.int .i64 xk) ∧ wx.cell? ⟨b, o + j * 8 + 1, none⟩ = some (.int .i64 xd) ∧ wx.cell? ⟨b, o + j * 8 + 2, none⟩ = some (.int .i64 xs) ∧ wx.cell? ⟨b, o + j * 8 + 3, none⟩ = some (.int .i64 xt) ∧ wx.cell? ⟨b, o + j * 8 + 4, none⟩ = some (.bool xm) ∧ wx.cell? ⟨b, o + j * 8 + 5, none⟩ = some (.int .i64 xst) ∧ wx.cell? ⟨b, o + j * 8 + 6, none⟩ = some (.int .i64 xmn) ∧ wx.cell? ⟨b, o + j * 8 + 7, none⟩ = some (.int .i64 xmx))
        ((refine HK.out _ ?_; first | assumption | exact HDR.out | (refine Below.alloc ?_ (by first | omega | (simp; omega) | simp) _; assumption)))
        (first
          | (go_at_call 70; refine (HMK.out _).mono ?_; rintro e w3 ⟨rfl, hb3⟩; have hbw3 := below_more HDR.out hb3; have hz3 := hbw3.size)
          | (refine step_append_src _ rfl (.tmp 24) (.tmp 34) 44 rfl w2.heap.size 69 iv (.agg #[.int .i64 0, .int .i64 0, .int .i64 0, .int .i64 0]) 4 32 Try.underlying44 hiv.out hzv.out hsv.out hbv.out rfl (by decide) (.slice Av k cv) k (ms.flatMap Mk.cells) rfl ((ownsRow_of_block HOW.out (fun g hg => hb3.block g (HOW.out.lt g hg).2)).alloc _) (some ⟨w3.heap.size, 0, none⟩) 1 1 mk.cells rfl rfl (by intro h; cases h) (fun ad e jj u hj => by have e := Option.some.inj e; subst e; exact new_cells w3 mk.cells 69 jj u hj) (mk_one _) (by unfold maxLen; omega) (by omega) (by first | omega | (simp; omega)) (k + 1) rfl ?_; intro A4 c4 w4 own4 hg4; have hbw4 : Below w2.heap.size w2 w4 := Below.grown (Below.alloc hbw3 hbw3.size _) hg4 (by first | omega | (simp; omega)) (fun g' e => (HOW.out.lt g' e).1)))
      have HO4 := Lib.hid own4
      have HB4 := Lib.hid hbw4
      clear own4 hg4 hbw4 hb3 hbw3 HK HDR
      go_wp2_with fail
      go_roundw
      case rel => exact ⟨k + 1, by omega, by go_num, Lib.hid (by rw [HTK.out, List.flatMap_append]; simpa using HO4.out), HB4⟩
      case measure => simp [intOf]; omega
    · obtain rfl : k = n := by omega
      have HT := Lib.hid (show al.take k = al by rw [HNA.out, List.take_length])
      have h1 := HOW.out
      rw [HT.out] at h1
      obtain ⟨Av, cv, hv, -, -, -, -⟩ := own_slice h1
      subst hv
      have HO := Lib.hid (own_base h1 HB2.out.size)
      clear h1
      go_wp2_with fail
      go_ret2
      rw [HF.out]
      exact ⟨Av, k, cv, rfl, Lib.hid (by unfold pickN; rw [List.length_map, List.length_map]; exact HNA.out), HO, below_more HB2.out HBW.out⟩

end Go.Proofs.Ytilagndfohnjnaa

/- The specification's Order of a text; the comparison of long rows of ints. -/
namespace Go.Proofs.Ytilagndfohnjnaa
open Go.RowKit

theorem lineR_len {l : Li} {ns : List Nd} (h : textErr l ns = 0) : (lineR ns).length ≤ 2000000 := (line_bound (shape_of h) (by have := (text_ok h).2.1; omega)).1

set_option maxRecDepth 100000 in
set_option maxHeartbeats 8000000 in
theorem rorder_any (L : Lm) (A : Option Addr) (cap : Nat) (ns : List Nd) (w : World) (hl : LmOk w L) (hn : NdsAt w A ns) (hc1 : ns.length ≤ cap) (hc : cap ≤ maxLen) :
    Calls Try.prog 31 #[.agg #[.int .i64 L.per, .slice L.A L.ms.length L.cap], .agg #[.slice A ns.length cap]] w (GotIntsX w (orderR L.li ns).1 (orderR L.li ns).2) := by
  obtain ⟨E, hE⟩ : ∃ E, textErr L.li ns = E := ⟨_, rfl⟩
  obtain ⟨R, hR⟩ : ∃ R, R = orderR L.li ns := ⟨_, rfl⟩
  have HE := Lib.hid (show R = if E ≠ 0 then ([], E) else if (lineR ns).any gapM then ([], 22) else ((lineR ns).map (·.sign), 0) by rw [hR, ← hE]; rfl)
  have HLQ := Lib.hid (show lineQ L.li ns = if E ≠ 0 then ([], E) else (lineR ns, 0) by rw [← hE]; rfl)
  have HEE := Lib.hid hE
  have HLN := Lib.hid (fun wx (hb : Below w.heap.size w wx) => rline3_any L A cap ns wx (hl.below hb) (hn.below hb) hc1 hc)
  rw [← hR]
  obtain ⟨N, hN⟩ : ∃ N, N = ns.length := ⟨_, rfl⟩
  rw [← hN] at HLN ⊢
  obtain ⟨W, hW⟩ : ∃ W, W = (w.alloc (.cells #[.int .i64 L.per, .slice L.A L.ms.length L.cap] 24)).alloc (.cells #[.slice A N cap] 27) := ⟨_, rfl⟩
  have HB := Lib.hid (show Below w.heap.size w W from hW ▸ two_under _ _ _)
  obtain ⟨iv, hiv, hzv, hsv, hbv⟩ := info_hid infoInt
  clear hl hn hE hN hR hc1 hc
  go_enter Try.func31, Try.ntmps31
  go_wp2_with fail
  rw [← hW]
  refine (HLN.out W HB.out).mono ?_; rintro e w1 ⟨Am, n, cm, rfl, hnn, hown, hb⟩
  have HB1 := Lib.hid (below_more HB.out hb)
  rw [HLQ.out] at hnn hown ⊢
  have HOWM := Lib.hid hown.out
  clear hown hb hW HB HLQ HLN
  by_cases h0 : E = 0
  case neg =>
    have hbE : (E != 0) = true := by simpa using h0
    have HF := Lib.hid (show R = ([], E) by rw [HE.out, if_pos h0])
    rw [if_pos h0] at hnn ⊢
    clear h0 HE HOWM
    go_wp2_with fail
    go_ret2
    rw [HF.out]
    exact ⟨none, 0, 0, rfl, Lib.hid rfl, Lib.hid (fun k z hk => by simp at hk), HB1.out⟩
  subst h0
  rw [if_neg (by simp)] at hnn ⊢
  have HMA := Lib.hid (show MksAt w1 Am (lineR ns) by
    have := HOWM.out; rw [if_neg (by simp)] at this; exact own_marks this)
  have hll := lineR_len HEE.out
  have HE2 := Lib.hid (show R = if (lineR ns).any gapM then ([], 22) else ((lineR ns).map (·.sign), 0) by rw [HE.out, if_neg (by simp)])
  obtain ⟨ms, hms⟩ : ∃ ms, ms = lineR ns := ⟨_, rfl⟩
  rw [← hms] at HMA HE2 hll hnn
  have HNM := Lib.hid (show n = ms.length from hnn.out)
  have hnl : n ≤ 2000000 := by rw [HNM.out]; exact hll
  clear hms HE HOWM HEE hnn hll
  dsimp only
  go_wp2_with fail
  go_loopw [8, 9] (fun v i wr => ∃ (k : Nat), k ≤ n ∧ i = .int .i64 k ∧ Hid ((ms.take k).any gapM = false) ∧ Hid (wr.ownsRow w1.heap.size 3 1 v k (intsZ ((ms.take k).map (·.sign)))) ∧ Hid (Below w1.heap.size w1 wr)) (fun _ i _ => n - (intOf i).toNat)
  case atStart => exact ⟨0, Nat.zero_le _, rfl, Lib.hid (by simp), Lib.hid (World.ownsRow_nil _ _ _ _), Lib.hid (Below.refl _ _)⟩
  case round =>
    obtain ⟨k, hk, rfl, hgp, hown, hbw⟩ := hrel
    have HBW := Lib.hid hbw.out
    have HGP := Lib.hid hgp.out
    have HOW := Lib.hid hown.out
    clear hbw hgp hown
    by_cases hlt : k < n
    · obtain ⟨m, hm⟩ : ∃ m, ms[k]? = some m := ⟨_, List.getElem?_eq_getElem (by have := HNM.out; omega)⟩
      obtain ⟨b, o, hA, hblt, hva⟩ := (HMA.out.below HBW.out) k m hm
      subst hA
      obtain ⟨y0, y1, y2, y3⟩ := hva
      have HSN := Lib.hid (show ms.take (k + 1) = ms.take k ++ [m] by
        obtain ⟨hk', e⟩ := List.getElem?_eq_some_iff.1 hm
        rw [List.take_succ_eq_append_getElem hk', e])
      have HMM := Lib.hid (List.mem_of_getElem? hm)
      obtain ⟨ms0, mt, mn, mx⟩ := m
      dsimp only at y0 y1 y2 y3
      clear hm
      by_cases hneg : ms0 < 0
      · have HF := Lib.hid (show R = ([], 22) by
          rw [HE2.out, if_pos]
          exact List.any_eq_true.2 ⟨_, HMM.out, decide_eq_true hneg⟩)
        go_wp2_with fail
        go_ret2
        rw [HF.out]
        exact ⟨none, 0, 0, rfl, Lib.hid rfl, Lib.hid (fun k z hk => by simp at hk), below_more HB1.out HBW.out⟩
      · have HG2 := Lib.hid (show (ms.take (k + 1)).any gapM = false by
          rw [HSN.out, List.any_append, HGP.out]
          simp [gapM]; omega)
        have HI2 := Lib.hid (show intsZ ((ms.take (k + 1)).map (·.sign)) = intsZ ((ms.take k).map (·.sign)) ++ [.int .i64 ms0] by rw [HSN.out, List.map_append]; simp [intsZ])
        obtain ⟨xs, hxs⟩ : ∃ xs, xs = intsZ ((ms.take k).map (·.sign)) := ⟨_, rfl⟩
        rw [← hxs] at HOW HI2
        obtain ⟨Av, cv, hv, -, -, -, -⟩ := own_slice HOW.out
        subst hv
        clear hxs
        have hsw := HBW.out.size
        have hneg2 : decide (ms0 < 0) = false := decide_eq_false hneg
        go_wp2_with (first
          | (at_builtin; refine wpList_append_src _ rfl (.tmp 31) (.tmp 37) 38 rfl w1.heap.size 3 iv (.int .i64 0) 1 8 Try.underlying38 hiv.out hzv.out hsv.out hbv.out rfl (by decide) (.slice Av k cv) k xs rfl ?own2 (some ⟨wr.heap.size, 0, none⟩) 1 1 [.int .i64 ms0] rfl ?l2 ?n2 ?c2 ?o2 ?m2 ?b2 ?s2 (k + 1) rfl ?_))
        case own2 => exact HOW.out.alloc _
        case o2 => rfl
        case m2 => unfold maxLen; omega
        case b2 => omega
        case s2 => omega
        intro A3 c3 w3 own3 hg3 _
        have HB3 := Lib.hid ((HBW.out.alloc hsw _).grown hg3 (by rw [World.size_alloc]; omega) (fun g hg => (HOW.out.lt g hg).1))
        have HO3 := Lib.hid own3
        clear own3 hg3
        go_wp2_with fail
        go_roundw
        case rel => exact ⟨k + 1, by omega, by go_num, HG2, Lib.hid (by rw [HI2.out]; exact HO3.out), HB3⟩
        case measure => simp [intOf]; omega
    · obtain rfl : k = n := by omega
      have HT := Lib.hid (show ms.take k = ms by rw [HNM.out, List.take_length])
      have HF := Lib.hid (show R = (ms.map (·.sign), 0) by
        rw [HE2.out, if_neg]
        have := HGP.out
        rw [HT.out] at this
        rw [this]; simp)
      have h1 := HOW.out
      rw [HT.out] at h1
      obtain ⟨Av, cv, hv, -, -, -, -⟩ := own_slice h1
      subst hv
      have HO3 := Lib.hid (own_base h1 HB1.out.size)
      clear h1
      go_wp2_with fail
      go_ret2
      rw [HF.out]
      have h2 : k = (ms.map (·.sign)).length := by rw [List.length_map]; exact HNM.out
      refine ⟨Av, k, cv, rfl, Lib.hid h2, Lib.hid (own_ints (l := ms.map (·.sign)) HO3.out), below_more HB1.out HBW.out⟩

end Go.Proofs.Ytilagndfohnjnaa

/- The stretches of the rings of a text (rings): the program's. -/
namespace Go.Proofs.Ytilagndfohnjnaa
open Go.RowKit

def offG (sz : Nat → Nat) : Nat → Nat
  | 0 => 0
  | k + 1 => offG sz k + sz k
def ringsG (sz : Nat → Nat) (isR : Nat → Bool) : Nat → List (Nat × Nat)
  | 0 => []
  | k + 1 => ringsG sz isR k ++ (if isR k then [(offG sz k, offG sz (k + 1))] else [])
theorem ringsG_len (sz : Nat → Nat) (isR : Nat → Bool) : ∀ k, (ringsG sz isR k).length ≤ k
  | 0 => Nat.le_refl _
  | k + 1 => by
    have := ringsG_len sz isR k
    rw [ringsG, List.length_append]
    split <;> simp <;> omega
theorem offG_le {sz : Nat → Nat} (h : ∀ k, sz k ≤ 7776) : ∀ k, offG sz k ≤ k * 7776
  | 0 => by simp [offG]
  | k + 1 => by have := offG_le h k; have := h k; rw [offG]; omega
def szT (ns : List Nd) (k : Nat) : Nat := match (topsL ns)[k]? with | some i => (leavesF ns 5 i).length | none => 0
def isRT (ns : List Nd) (k : Nat) : Bool := match (topsL ns)[k]? with | some i => (getN ns i).kind == 5 | none => false
def ringsR (ns : List Nd) : List (Nat × Nat) := ringsG (szT ns) (isRT ns) (topsL ns).length
def rgCells (p : Nat × Nat) : List Value := [.int .i64 p.1, .int .i64 p.2]
theorem rg_one (p : Nat × Nat) : ∀ u ∈ rgCells p, u.oneCell' = true := fun u hu => by
  simp [rgCells] at hu
  rcases hu with rfl | rfl <;> rfl
theorem szT_le {ns : List Nd} (h : Shape ns) (k : Nat) : szT ns k ≤ 7776 := by
  unfold szT
  split
  · have := leavesF_len (vis_of h).1 5 (by assumption)
    rw [pow_five] at this; exact this
  · omega
theorem infoSpan : (Try.prog.info? 92).map (fun i => (i.zero, i.size, i.bytes)) = some (some (.agg #[.int .i64 0, .int .i64 0]), 2, 16) := by kernel_rfl

set_option maxRecDepth 100000 in
set_option maxHeartbeats 8000000 in
theorem rings_any (A : Option Addr) (cap : Nat) (ns : List Nd) (hsh : Shape ns) (hok : LinOk ns) (hl : ns.length ≤ cap) (hc : cap ≤ maxLen) (hsm : ns.length ≤ 250) (w : World) (hns : NdsAt w A ns) :
    Calls Try.prog 71 #[.agg #[.slice A ns.length cap]] w (GotRow w 92 2 (ringsR ns).length ((ringsR ns).flatMap rgCells)) := by
  obtain ⟨iv, hiv, hzv, hsv, hbv⟩ := info_hid infoSpan
  have HSP := Lib.hid (fun wx (hb : Below w.heap.size w wx) => split_any A cap ns wx (hns.below hb) hl hc (by omega))
  have HNS := Lib.hid hns
  have HOK := Lib.hid hok
  have HPP := Lib.hid (partsW_pos ns.length 0 ns (Nat.le_refl _))
  have HGR := Lib.hid (fun p (hp : p ∈ partsW 0 ns) => (⟨by
    have h := leaves_grp hp 5 0 (parts_pos hp)
    rw [Nat.add_zero] at h
    rw [h, List.length_map], node_grp hp (parts_pos hp)⟩ : (leavesF ns 5 p.1).length = (leavesF p.2 5 0).length ∧ ns[p.1 + 0]? = p.2[0]?))
  have HSZ := Lib.hid (offG_le (szT_le hsh))
  have HTP := Lib.hid (tops_is hsh)
  have hlen := hsm
  obtain ⟨N, hN⟩ : ∃ N, N = ns.length := ⟨_, rfl⟩
  rw [← hN] at HSP hl ⊢
  clear hns hok hN hsm hsh
  have HB0 := Lib.hid (below_alloc w (.cells #[.slice A N cap] 27))
  go_enter Try.func71, Try.ntmps71
  go_wp2_with fail
  refine (HSP.out _ HB0.out).mono ?_; rintro e w1 ⟨Ap, cp, rfl, hown, hb⟩
  have HB1 := Lib.hid (below_more HB0.out hb)
  have HRP := Lib.hid (row_parts hown)
  have HOL := Lib.hid (own_len hown)
  clear hown hb HSP HB0
  obtain ⟨n, hn⟩ : ∃ n, n = (partsW 0 ns).length := ⟨_, rfl⟩
  have HN := Lib.hid hn
  rw [← hn] at HOL ⊢
  have hcp := HOL.out.1
  have hmp := HOL.out.2.1
  unfold maxLen at hmp
  clear hn
  have HPS := Lib.hid (partsW_sub ns.length 0 ns (Nat.le_refl _))
  have hnl : n ≤ 250 := by rw [HN.out]; have := partsW_len ns.length 0 ns (Nat.le_refl _); omega
  obtain ⟨ps, hps⟩ : ∃ ps, ps = partsW 0 ns := ⟨_, rfl⟩
  have HTN := Lib.hid (show (topsL ns).length = n by rw [HTP.out, List.length_map, HN.out])
  have HTK := Lib.hid (fun (k : Nat) (p : Nat × List Nd) (h : (partsW 0 ns)[k]? = some p) => show (topsL ns)[k]? = some p.1 by rw [HTP.out, List.getElem?_map, h]; rfl)
  unfold LinOk at HOK
  rw [← hps] at HPS HOK HRP HN HPP HGR HTK
  clear hps HTP
  go_wp2_with fail
  go_loopw [3, 4, 12] (fun v a i wr => ∃ (k c : Nat), k ≤ n ∧ c ≤ k ∧ a = .int .i64 (offG (szT ns) k) ∧ i = .int .i64 k ∧ Hid (c = (ringsG (szT ns) (isRT ns) k).length) ∧ Hid (wr.ownsRow w1.heap.size 92 2 v c ((ringsG (szT ns) (isRT ns) k).flatMap rgCells)) ∧ Hid (Below w1.heap.size w1 wr)) (fun _ _ i _ => n - (intOf i).toNat)
  case atStart => exact ⟨0, 0, Nat.zero_le _, Nat.le_refl _, rfl, rfl, Lib.hid rfl, Lib.hid (World.ownsRow_nil _ _ _ _), Lib.hid (Below.refl _ _)⟩
  case round =>
    obtain ⟨k, c, hk, hck, rfl, rfl, hcl, hown, hbw⟩ := hrel
    have HBW := Lib.hid hbw.out
    have HCL := Lib.hid hcl.out
    have HOW := Lib.hid hown.out
    clear hcl hown hbw
    by_cases hlt : k < n
    · obtain ⟨p, hp⟩ : ∃ p, ps[k]? = some p := ⟨_, List.getElem?_eq_getElem (by have := HN.out; omega)⟩
      obtain ⟨g, hAp, hg1, hg2, hgc⟩ := HRP.out k (partV A p) (by unfold partsV; rw [List.getElem?_map, hp]; rfl)
      subst hAp
      have hpm := List.mem_of_getElem? hp
      obtain ⟨hp0, hpl⟩ := HPP.out p hpm
      obtain ⟨q, hq, hps⟩ := HPS.out p hpm
      rw [Nat.zero_add] at hq
      obtain ⟨b, o, hA, hblt, hva0⟩ := HNS.out 0 _ (List.getElem?_eq_getElem (by omega))
      have HVO := Lib.hid (HOK.out p hpm)
      have HPV := Lib.hid (show partV A p = .slice (some ⟨b, o + p.1 * 8, none⟩) p.2.length p.2.length by rw [hA]; rfl)
      rw [HPV.out] at hgc
      have y1 := (HBW.out.cell (p := ⟨g, k, none⟩) hg2).trans hgc
      have hgw : g < wr.heap.size := by have := HBW.out.size; omega
      have HNP := Lib.hid (show NdsAt w (some ⟨b, o + p.1 * 8, none⟩) p.2 by
        have h1 := HNS.out
        rw [hA] at h1
        have h2 := (h1.drop q).take p.2.length
        rw [← hps, ← hq] at h2
        exact h2)
      have HLV := Lib.hid (leaves_any (some ⟨b, o + p.1 * 8, none⟩) p.2.length p.2 HVO.out hp0 (Nat.le_refl _) (by unfold maxLen; omega) (by omega) wr (HNP.out.below (below_more HB1.out HBW.out)))
      obtain ⟨h1, h2⟩ := HGR.out p hpm
      rw [Nat.add_zero] at h2
      obtain ⟨x, hx⟩ : ∃ x, p.2[0]? = some x := ⟨_, List.getElem?_eq_getElem hp0⟩
      have h3 := HTK.out k p hp
      obtain ⟨m, hm⟩ : ∃ m, m = (leavesF p.2 5 0).length := ⟨_, rfl⟩
      have hszk : szT ns k = m := by unfold szT; rw [h3, hm]; exact h1
      have hirk : isRT ns k = (x.kind == 5) := by unfold isRT getN; rw [h3]; dsimp only; rw [h2, hx]; rfl
      have HOF := Lib.hid (show offG (szT ns) (k + 1) = offG (szT ns) k + m by rw [offG, hszk])
      have HRS := Lib.hid (show ringsG (szT ns) (isRT ns) (k + 1) = ringsG (szT ns) (isRT ns) k ++ (if x.kind == 5 then [(offG (szT ns) k, offG (szT ns) k + m)] else []) by rw [ringsG, hirk, HOF.out])
      have hm7 : offG (szT ns) k + m ≤ 2000000 := by have := HSZ.out (k + 1); rw [HOF.out] at this; omega
      rw [← hm] at HLV
      obtain ⟨bx, ox, hA2, hbl2, hvx⟩ := HNP.out 0 x hx
      injection hA2 with hA2
      injection hA2 with e1 e2
      subst e1 e2
      have HVX := Lib.hid (fun wx (hb : Below w1.heap.size w1 wx) => hvx.below (below_more HB1.out hb) hbl2)
      obtain ⟨P2, hP2⟩ : ∃ P2, P2 = p.2.length := ⟨_, rfl⟩
      obtain ⟨P1, hP1⟩ : ∃ P1, P1 = p.1 := ⟨_, rfl⟩
      rw [← hP1] at HVX
      rw [← hP1, ← hP2] at y1 HLV
      have hP20 : 0 < P2 := by omega
      have hP3 : P2 ≤ 250 := by omega
      obtain ⟨of, hof⟩ : ∃ of, of = offG (szT ns) k := ⟨_, rfl⟩
      obtain ⟨rs, hrs⟩ : ∃ rs, rs = ringsG (szT ns) (isRT ns) k := ⟨_, rfl⟩
      rw [← hof] at HOF HRS hm7 ⊢
      rw [← hrs] at HRS HCL HOW
      clear hp hpm hgc hps hq hva0 hm hP1 hP2 hA hp0 hpl HNP HPV h1 h2 h3 hszk hirk hx hvx hof hrs HVO
      go_wp2_with fail
      refine HLV.out.mono ?_; rintro e w2 ⟨Al, cl, rfl, hown, hb⟩
      have HBW2 := Lib.hid (HBW.out.trans (hb.mono HBW.out.size))
      have HOW2 := Lib.hid (ownsRow_of_block HOW.out (fun g hg => hb.block g (HOW.out.lt g hg).2))
      have hsw := HBW2.out.size
      obtain ⟨xk, xd, xs, xt, xm, xst, xmn, xmx⟩ := x
      have z0 := (HVX.out w2 HBW2.out).c0
      dsimp only at z0 HRS
      simp only [Nat.zero_mul, Nat.add_zero] at z0
      obtain ⟨Av, cv, hv, -, -, -, -⟩ := own_slice HOW2.out
      subst hv
      clear hown hb y1 HLV HOW HVX HBW
      by_cases hr : xk = 5
      · have hrb : (xk == 5) = true := by simpa using hr
        have HR2 := Lib.hid (show ringsG (szT ns) (isRT ns) (k + 1) = rs ++ [(of, of + m)] by rw [HRS.out, hrb]; rfl)
        clear hr HRS
        go_wp2_with (first
          | (at_builtin; refine wpList_append_src _ rfl (.tmp 26) (.tmp 30) 47 rfl w1.heap.size 92 iv (.agg #[.int .i64 0, .int .i64 0]) 2 16 Try.underlying47 hiv.out hzv.out hsv.out hbv.out rfl (by decide) (.slice Av c cv) c (rs.flatMap rgCells) rfl ?own2 (some ⟨w2.heap.size, 0, none⟩) 1 1 [.int .i64 of, .int .i64 (of + m : Int)] rfl ?l2 ?n2 ?c2 ?o2 ?m2 ?b2 ?s2 (c + 1) rfl ?_))
        case own2 => exact HOW2.out.alloc _
        case l2 => rfl
        case n2 => intro h; cases h
        case o2 => intro u hu; simp at hu; rcases hu with rfl | rfl <;> rfl
        case c2 => intro ad had i u' hj; injection had with had; subst had; exact World.news_of_block (cs := #[.int .i64 of, .int .i64 (of + m : Int)]) (heap_alloc_new w2 _) i u' hj
        case m2 => unfold maxLen; omega
        case b2 => omega
        case s2 => rw [World.size_alloc]; omega
        intro A3 c3 w3 own3 hg3 _
        have HB3 := Lib.hid ((HBW2.out.alloc hsw _).grown hg3 (by rw [World.size_alloc]; omega) (fun g hg => (HOW2.out.lt g hg).1))
        have HO3 := Lib.hid own3
        clear own3 hg3
        go_wp2_with fail
        go_roundw
        case rel =>
          refine ⟨k + 1, c + 1, by omega, by omega, ?_, by go_num, Lib.hid (by rw [HR2.out, List.length_append, ← HCL.out]; rfl), Lib.hid ?_, HB3⟩
          · rw [HOF.out]; push_cast; rfl
          · rw [HR2.out, List.flatMap_append]
            have := HO3.out
            simpa [rgCells] using this
        case measure => simp [intOf]; omega
      · have hrb : (xk == 5) = false := by simpa using hr
        have HR2 := Lib.hid (show ringsG (szT ns) (isRT ns) (k + 1) = rs by rw [HRS.out, hrb]; simp)
        clear hr HRS
        go_wp2_with fail
        go_roundw
        case rel =>
          refine ⟨k + 1, c, by omega, by omega, ?_, by go_num, Lib.hid (by rw [HR2.out]; exact HCL.out), Lib.hid ?_, HBW2⟩
          · rw [HOF.out]; push_cast; rfl
          · rw [HR2.out]; exact HOW2.out
        case measure => simp [intOf]; omega
    · obtain rfl : k = n := by omega
      have HX := Lib.hid (show GotRow w 92 2 (ringsR ns).length ((ringsR ns).flatMap rgCells) (.returned u3) wr from by
        have h1 := HOW.out
        have e : ringsR ns = ringsG (szT ns) (isRT ns) k := by unfold ringsR; rw [HTN.out]
        rw [e, ← HCL.out]
        obtain ⟨A2, c2, hv, -, -, -, -⟩ := own_slice h1
        exact ⟨A2, c2, by rw [hv], own_base (by rw [← hv]; exact h1) HB1.out.size, below_more HB1.out HBW.out⟩)
      go_wp2_with fail
      go_ret
      exact HX.out

end Go.Proofs.Ytilagndfohnjnaa

/- The stretches of the rings of a text (Rings): both sides. -/
namespace Go.Proofs.Ytilagndfohnjnaa
open Go.RowKit

def ringQ (l : Li) (ns : List Nd) : List (Nat × Nat) × Int :=
  if textErr l ns ≠ 0 then ([], textErr l ns) else (ringsR ns, 0)
def RgsAt (w : World) (A : Option Addr) (zs : List (Nat × Nat)) : Prop := ∀ k p, zs[k]? = some p → ∃ b o, A = some ⟨b, o, none⟩ ∧ b < w.heap.size ∧ w.cell? ⟨b, o + k * 2, none⟩ = some (.int .i64 p.1) ∧ w.cell? ⟨b, o + k * 2 + 1, none⟩ = some (.int .i64 p.2)
theorem RgsAt.below {w w' : World} {A : Option Addr} {zs : List (Nat × Nat)} (h : RgsAt w A zs) (hb : Below w.heap.size w w') : RgsAt w' A zs := fun k p hk => by
  obtain ⟨b, o, e, hlt, h0, h1⟩ := h k p hk
  exact ⟨b, o, e, Nat.lt_of_lt_of_le hlt hb.size, (hb.cell (p := ⟨b, _, none⟩) hlt).trans h0, (hb.cell (p := ⟨b, _, none⟩) hlt).trans h1⟩
theorem own_rings {w : World} {base : Nat} {t : TypeId} {A : Option Addr} {n c : Nat} {l : List (Nat × Nat)} (h : w.ownsRow base t 2 (.slice A n c) n (l.flatMap rgCells)) : RgsAt w A l := fun k x hk => by
  obtain ⟨A2, c2, hv, -, -, h3, h4⟩ := own_slice h
  injection hv with e1 e2 e3
  subst e1 e3
  have hlen : l.length = n := by
    have h1 := h.1
    have : (l.flatMap rgCells).length = l.length * 2 := flat_len (f := rgCells) (fun _ => rfl) _
    omega
  cases A with
  | none => have := h4 rfl; have := (List.getElem?_eq_some_iff.1 hk).1; omega
  | some ad =>
    obtain ⟨g, rfl, _, hg, hc⟩ := h3 ad rfl
    have ha : ∀ i, i < 2 → w.cell? ⟨g, k * 2 + i, none⟩ = (rgCells x)[i]? := fun i hi => by
      have hi' : i < (rgCells x).length := hi
      rw [hc (k * 2 + i) ((rgCells x)[i]) (by rw [flat_at (c := 2) (fun _ => rfl) _ _ _ hk i hi]; exact List.getElem?_eq_getElem hi'), List.getElem?_eq_getElem hi']
    refine ⟨g, 0, rfl, hg, ?_⟩
    rw [Nat.zero_add]
    exact ⟨ha 0 (by omega), ha 1 (by omega)⟩
/-- stretches and an error that were made, in memory of the call's own -/
def GotRgO (t : TypeId) (w : World) (zs : List (Nat × Nat)) (er : Int) (e : Ending) (w' : World) : Prop :=
  ∃ A k c, e = .returned (.tuple #[.slice A k c, .int .i64 er]) ∧ Hid (k = zs.length) ∧ Hid (w'.ownsRow w.heap.size t 2 (.slice A k c) k (zs.flatMap rgCells)) ∧ Below w.heap.size w w'
def GotRgX (w : World) (zs : List (Nat × Nat)) (er : Int) (e : Ending) (w' : World) : Prop :=
  ∃ A k c, e = .returned (.tuple #[.slice A k c, .int .i64 er]) ∧ Hid (k = zs.length) ∧ Hid (RgsAt w' A zs) ∧ Below w.heap.size w w'
theorem GotRgO.x {t : TypeId} {w : World} {zs : List (Nat × Nat)} {er : Int} {e : Ending} {w' : World} (h : GotRgO t w zs er e w') : GotRgX w zs er e w' := by
  obtain ⟨A, k, c, rfl, hk, h1, h2⟩ := h
  exact ⟨A, k, c, rfl, hk, Lib.hid (own_rings h1.out), h2⟩
theorem infoR2 : (Try.prog.info? 71).map (fun i => (i.zero, i.size, i.bytes)) = some (some (.agg #[.int .i64 0, .int .i64 0]), 2, 16) := by kernel_rfl

set_option maxRecDepth 100000 in
set_option maxHeartbeats 4000000 in
theorem ringsP_any (L : Lm) (A : Option Addr) (cap : Nat) (ns : List Nd) (w : World) (hl : LmOk w L) (hn : NdsAt w A ns) (hc1 : ns.length ≤ cap) (hc : cap ≤ maxLen) :
    Calls Try.prog 32 #[.agg #[.int .i64 L.per, .slice L.A L.ms.length L.cap], .agg #[.slice A ns.length cap]] w (GotRgO 92 w (ringQ L.li ns).1 (ringQ L.li ns).2) := by
  obtain ⟨E, hE⟩ : ∃ E, textErr L.li ns = E := ⟨_, rfl⟩
  obtain ⟨R, hR⟩ : ∃ R, R = ringQ L.li ns := ⟨_, rfl⟩
  have HE := Lib.hid (show R = if E ≠ 0 then ([], E) else (ringsR ns, 0) by rw [hR, ← hE]; rfl)
  have HEE := Lib.hid hE
  have HNS := Lib.hid hn
  have HCM := Lib.hid hc
  obtain ⟨N, hN⟩ : ∃ N, N = ns.length := ⟨_, rfl⟩
  have HN := Lib.hid hN
  have HCK := Lib.hid (fun wx (hb : Below w.heap.size w wx) => gcheck_is L A cap ns wx (hl.below hb) (hn.below hb) hc1 hc E hE)
  rw [← hR]
  rw [← hN] at HCK hc1 ⊢
  unfold maxLen at hc
  obtain ⟨W, hW⟩ : ∃ W, W = (w.alloc (.cells #[.int .i64 L.per, .slice L.A L.ms.length L.cap] 24)).alloc (.cells #[.slice A N cap] 27) := ⟨_, rfl⟩
  have HB := Lib.hid (show Below w.heap.size w W from hW ▸ two_under _ _ _)
  have HX1 := Lib.hid (show W.heap[w.heap.size + 1]? = some (.cells #[.slice A N cap] 27 (0, 0)) by
    rw [hW]; have := heap_alloc_new (w.alloc (.cells #[.int .i64 L.per, .slice L.A L.ms.length L.cap] 24)) (.cells #[.slice A N cap] 27); simpa using this)
  clear hl hn hE hN hR
  go_enter Try.func32, Try.ntmps32
  go_wp2_with fail
  rw [← hW]
  refine (HCK.out W HB.out).mono ?_; rintro e w1 ⟨rfl, hb⟩
  have HB1 := Lib.hid (below_more HB.out hb)
  have x0 := cell_of_blk (blk_keep hb HX1.out) 0
  simp at x0
  clear hb hW HX1 HCK HB
  by_cases h0 : E = 0
  case neg =>
    have hbE : (E != 0) = true := by simpa using h0
    have HF := Lib.hid (show R = ([], E) by rw [HE.out, if_pos h0])
    clear h0 HE
    go_wp2_with fail
    go_ret2
    rw [HF.out]
    exact ⟨none, 0, 0, rfl, Lib.hid rfl, Lib.hid (World.ownsRow_nil _ _ _ _), HB1.out⟩
  subst h0
  obtain ⟨-, hk2, -, -, -, hk6⟩ := text_ok HEE.out
  obtain ⟨ms, hms⟩ : ∃ ms, ms = ringsR ns := ⟨_, rfl⟩
  have HLN := Lib.hid (show Calls Try.prog 71 #[.agg #[.slice A N cap]] w1 (GotRow w1 92 2 ms.length (ms.flatMap rgCells)) by
    have := rings_any A cap ns (shape_of HEE.out) hk6 (by rw [← HN.out]; exact hc1) HCM.out (by omega) w1 (HNS.out.below HB1.out)
    rw [← HN.out, ← hms] at this; exact this)
  have HF := Lib.hid (show R = (ms, 0) by rw [HE.out, if_neg (by simp), hms])
  obtain ⟨n, hnn⟩ : ∃ n, n = ms.length := ⟨_, rfl⟩
  have HNM := Lib.hid hnn
  rw [← hnn] at HLN
  clear HE hk2 hk6 hms hnn
  go_wp2_with fail
  refine HLN.out.mono ?_; rintro e w2 ⟨A2, c2, rfl, hown, hb⟩
  have HO := Lib.hid (own_base hown HB1.out.size)
  have HB2 := Lib.hid (below_more HB1.out hb)
  clear hown hb x0
  go_wp2_with fail
  go_ret2
  rw [HF.out]
  exact ⟨A2, n, c2, rfl, HNM, HO, HB2.out⟩

set_option maxRecDepth 100000 in
set_option maxHeartbeats 16000000 in
theorem rrings_any (L : Lm) (A : Option Addr) (cap : Nat) (ns : List Nd) (w : World) (hl : LmOk w L) (hn : NdsAt w A ns) (hc1 : ns.length ≤ cap) (hc : cap ≤ maxLen) :
    Calls Try.prog 33 #[.agg #[.int .i64 L.per, .slice L.A L.ms.length L.cap], .agg #[.slice A ns.length cap]] w (GotRgO 71 w (ringQ L.li ns).1 (ringQ L.li ns).2) := by
  obtain ⟨E, hE⟩ : ∃ E, textErr L.li ns = E := ⟨_, rfl⟩
  obtain ⟨R, hR⟩ : ∃ R, R = ringQ L.li ns := ⟨_, rfl⟩
  have HE := Lib.hid (show R = if E ≠ 0 then ([], E) else (ringsR ns, 0) by rw [hR, ← hE]; rfl)
  have HEE := Lib.hid hE
  have HNS := Lib.hid hn
  have HCM := Lib.hid hc
  obtain ⟨N, hN⟩ : ∃ N, N = ns.length := ⟨_, rfl⟩
  have HN := Lib.hid hN
  have HCK := Lib.hid (fun wx (hb : Below w.heap.size w wx) => rgcheck_is L A cap ns wx (hl.below hb) (hn.below hb) hc1 hc E hE)
  rw [← hR]
  rw [← hN] at HCK hc1 ⊢
  unfold maxLen at hc
  obtain ⟨W, hW⟩ : ∃ W, W = (w.alloc (.cells #[.int .i64 L.per, .slice L.A L.ms.length L.cap] 24)).alloc (.cells #[.slice A N cap] 27) := ⟨_, rfl⟩
  have HB := Lib.hid (show Below w.heap.size w W from hW ▸ two_under _ _ _)
  have HX1 := Lib.hid (show W.heap[w.heap.size + 1]? = some (.cells #[.slice A N cap] 27 (0, 0)) by
    rw [hW]; have := heap_alloc_new (w.alloc (.cells #[.int .i64 L.per, .slice L.A L.ms.length L.cap] 24)) (.cells #[.slice A N cap] 27); simpa using this)
  obtain ⟨iv, hiv, hzv, hsv, hbv⟩ := info_hid infoR2
  clear hl hn hE hN hR
  go_enter Try.func33, Try.ntmps33
  go_wp2_with fail
  rw [← hW]
  refine (HCK.out W HB.out).mono ?_; rintro e w1 ⟨rfl, hb⟩
  have HB1 := Lib.hid (below_more HB.out hb)
  have D1 := Lib.hid (blk_keep hb HX1.out)
  have x0 := cell_of_blk D1.out 0
  simp at x0
  clear hb hW HX1 HCK HB
  by_cases h0 : E = 0
  case neg =>
    have hbE : (E != 0) = true := by simpa using h0
    have HF := Lib.hid (show R = ([], E) by rw [HE.out, if_pos h0])
    clear h0 HE
    go_wp2_with fail
    go_ret2
    rw [HF.out]
    exact ⟨none, 0, 0, rfl, Lib.hid rfl, Lib.hid (World.ownsRow_nil _ _ _ _), HB1.out⟩
  subst h0
  have hsh := shape_of HEE.out
  obtain ⟨hok, hon2⟩ := vis_of hsh
  have hk2 := (text_ok HEE.out).2.1
  have HF := Lib.hid (show R = (ringsG (szT ns) (isRT ns) (topsL ns).length, 0) by rw [HE.out, if_neg (by simp)]; rfl)
  have HSZ := Lib.hid (offG_le (szT_le hsh))
  have HIH := Lib.hid (fun (j : Nat) (x : Nd) (wx : World) (hb : Below w.heap.size w wx) (hj : ns[j]? = some x) (hd : 5 ≤ x.depth + 5) => rleaves_any A cap ns hok hon2 (by rw [← HN.out]; exact hc1) HCM.out (by omega) 5 j x wx hj hd (by omega) (HNS.out.below hb))
  have HKD := Lib.hid (fun wx (hbx : Below w.heap.size w wx) => show Calls Try.prog 67 #[.agg #[.slice A N cap], .int .i64 (-1)] wx (GotRow wx 3 1 (topsL ns).length (intsV (topsL ns))) by
    have := rkids_any A cap ns (-1) 0 0 wx (HNS.out.below hbx) (by rw [← HN.out]; exact hc1) HCM.out (by omega) (.inr ⟨rfl, rfl, rfl⟩)
    rw [tops_kids (fun x hx => (hsh.depth x hx).1), ← HN.out] at this; exact this)
  have HAT := Lib.hid (fun j (hj : j ∈ topsL ns) => tops_at hj)
  have htl := tops_len ns
  have HST := Lib.hid (fun (k j : Nat) (x : Nd) (hj : (topsL ns)[k]? = some j) (hx : ns[j]? = some x) => (⟨by unfold szT; rw [hj], by unfold isRT getN; rw [hj]; dsimp only; rw [hx]; rfl⟩ : szT ns k = (leavesF ns 5 j).length ∧ isRT ns k = (x.kind == 5)))
  obtain ⟨kO, hkO⟩ : ∃ kO, kO = topsL ns := ⟨_, rfl⟩
  rw [← hkO] at HKD HAT htl HF HST
  rw [← HN.out] at htl HIH hk2
  obtain ⟨n, hn2⟩ : ∃ n, n = kO.length := ⟨_, rfl⟩
  have HKL2 := Lib.hid hn2
  rw [← hn2] at HKD htl HF
  clear HE hsh hok hon2 hkO hn2
  go_wp2_with fail
  refine (HKD.out w1 HB1.out).mono ?_; rintro e w2 ⟨Ak, ck, rfl, hown, hb⟩
  have HB2 := Lib.hid (below_more HB1.out hb)
  have D2 := Lib.hid (blk_keep hb D1.out)
  have HRI := Lib.hid (row_ints hown)
  have hol := own_len hown
  have hnc := hol.1
  have hcm := hol.2.1
  unfold maxLen at hcm
  clear hown hb hol x0 HKD D1
  go_wp2_with fail
  go_loopw [7, 9, 10] (fun v a i wr => ∃ (k c : Nat), k ≤ n ∧ c ≤ k ∧ a = .int .i64 (offG (szT ns) k) ∧ i = .int .i64 k ∧ Hid (c = (ringsG (szT ns) (isRT ns) k).length) ∧ Hid (wr.ownsRow w2.heap.size 71 2 v c ((ringsG (szT ns) (isRT ns) k).flatMap rgCells)) ∧ Hid (Below w2.heap.size w2 wr)) (fun _ _ i _ => n - (intOf i).toNat)
  case atStart => exact ⟨0, 0, Nat.zero_le _, Nat.le_refl _, rfl, rfl, Lib.hid rfl, Lib.hid (World.ownsRow_nil _ _ _ _), Lib.hid (Below.refl _ _)⟩
  case round =>
    obtain ⟨k, c, hk, hck, rfl, rfl, hcl, hown, hbw⟩ := hrel
    have HBW := Lib.hid hbw.out
    have HCL := Lib.hid hcl.out
    have HOW := Lib.hid hown.out
    clear hcl hown hbw
    by_cases hlt : k < n
    · obtain ⟨j, hj⟩ : ∃ j, kO[k]? = some j := ⟨_, List.getElem?_eq_getElem (by have := HKL2.out; omega)⟩
      obtain ⟨x, hx, hxd⟩ := HAT.out j (List.mem_of_getElem? hj)
      have hjN : j < N := by have := (List.getElem?_eq_some_iff.1 hx).1; have := HN.out; omega
      have HIJ := Lib.hid (fun wx (hb : Below w.heap.size w wx) => HIH.out j x wx hb hx (by omega))
      obtain ⟨h1, h2⟩ := HST.out k j x hj hx
      obtain ⟨m, hm⟩ : ∃ m, m = (leavesF ns 5 j).length := ⟨_, rfl⟩
      rw [← hm] at HIJ h1
      have HOF := Lib.hid (show offG (szT ns) (k + 1) = offG (szT ns) k + m by rw [offG, h1])
      have HRS := Lib.hid (show ringsG (szT ns) (isRT ns) (k + 1) = ringsG (szT ns) (isRT ns) k ++ (if x.kind == 5 then [(offG (szT ns) k, offG (szT ns) k + m)] else []) by rw [ringsG, h2, HOF.out])
      have hm7 : offG (szT ns) k + m ≤ 2000000 := by have := HSZ.out (k + 1); rw [HOF.out] at this; omega
      obtain ⟨g, o2, rfl, hg, hcell⟩ := HRI.out k j hj
      obtain ⟨b, o, rfl, hblt, hva⟩ := HNS.out j x hx
      have HVA := Lib.hid (fun wx (hb : Below w2.heap.size w2 wx) => (hva.below (below_more HB2.out hb) hblt).c0)
      obtain ⟨of, hof⟩ : ∃ of, of = offG (szT ns) k := ⟨_, rfl⟩
      obtain ⟨rs, hrs⟩ : ∃ rs, rs = ringsG (szT ns) (isRT ns) k := ⟨_, rfl⟩
      rw [← hof] at HOF HRS hm7 ⊢
      rw [← hrs] at HRS HCL HOW
      obtain ⟨Av, cv, hv, -, -, -, -⟩ := own_slice HOW.out
      subst hv
      obtain ⟨xk, xd, xs, xt, xm, xst, xmn, xmx⟩ := x
      dsimp only at HVA HRS
      have hs2 := HBW.out.size
      have HK := Lib.hid (fun wx (hb : Below w2.heap.size w2 wx) => show wx.cell? ⟨w.heap.size + 1, 0, none⟩ = some (.slice (some ⟨b, o, none⟩) N cap) ∧ wx.cell? ⟨g, o2 + k, none⟩ = some (.int .i64 (j : Nat)) ∧ wx.cell? ⟨b, o + j * 8, none⟩ = some (.int .i64 xk) from
        ⟨by have := cell_of_blk (blk_keep hb D2.out) 0; simpa using this, (hb.cell (p := ⟨g, o2 + k, none⟩) hg).trans hcell, HVA.out wx hb⟩)
      have hkn : (k : Int) < (n : Int) := by omega
      have hk0' : (0 : Int) ≤ (k : Int) := by omega
      have hj0 : (0 : Int) ≤ (j : Int) := by omega
      have hjn : (j : Int) < (N : Int) := by omega
      have HDR := Lib.hid (show Below w2.heap.size w2 wr.drew from HBW.out.drew)
      clear hj hx hxd hcell hva h1 h2 hm hof hrs HVA
      go_wp2_with fail
      go_region_held3 (fun w' => w'.cell? ⟨w.heap.size + 1, 0, none⟩ = some (.slice (some ⟨b, o, none⟩) N cap) ∧ w'.cell? ⟨g, o2 + k, none⟩ = some (.int .i64 (j : Nat)) ∧ w'.cell? ⟨b, o + j * 8, none⟩ = some (.int .i64 xk))
        ((refine HK.out _ ?_; first | assumption | exact HDR.out))
        (first
          | (go_at_call 69; refine (HIJ.out _ (below_more HB2.out HDR.out)).mono ?_; rintro e w3 ⟨A3, c3, rfl, hown3, hb3⟩; have hbw3 := below_more HDR.out hb3; have hz3 := hbw3.size))
      have HB3 := Lib.hid hbw3
      have HO3 := Lib.hid (ownsRow_of_block HOW.out (fun g hg => hb3.block g (HOW.out.lt g hg).2))
      clear hown3 hb3 hbw3 HDR HOW HIJ
      have HOd := Lib.hid (ownsRow_of_block (w' := w3.drew) HO3.out (fun g hg => rfl))
      have HD3 := Lib.hid (show Below w2.heap.size w2 w3.drew from HB3.out.drew)
      by_cases hr : xk = 5
      · have hrb : (xk == 5) = true := by simpa using hr
        have HR2 := Lib.hid (show ringsG (szT ns) (isRT ns) (k + 1) = rs ++ [(of, of + m)] by rw [HRS.out, hrb]; rfl)
        clear hr HRS
        go_wp2_with fail
        go_region_held3 (fun w' => w'.cell? ⟨w.heap.size + 1, 0, none⟩ = some (.slice (some ⟨b, o, none⟩) N cap) ∧ w'.cell? ⟨g, o2 + k, none⟩ = some (.int .i64 (j : Nat)) ∧ w'.cell? ⟨b, o + j * 8, none⟩ = some (.int .i64 xk))
          ((refine HK.out _ ?_; first | assumption | exact HD3.out))
          (fail)
        have hsw := HD3.out.size
        go_wp2_with (first
          | (at_builtin; refine wpList_append_src _ rfl (.tmp 43) (.tmp 49) 50 rfl w2.heap.size 71 iv (.agg #[.int .i64 0, .int .i64 0]) 2 16 Try.underlying50 hiv.out hzv.out hsv.out hbv.out rfl (by decide) (.slice Av c cv) c (rs.flatMap rgCells) rfl ?own2 (some ⟨w3.drew.heap.size, 0, none⟩) 1 1 [.int .i64 of, .int .i64 (of + m : Int)] rfl ?l2 ?n2 ?c2 ?o2 ?m2 ?b2 ?s2 (c + 1) rfl ?_))
        case own2 => exact HOd.out.alloc _
        case l2 => rfl
        case n2 => intro h; cases h
        case o2 => intro u hu; simp at hu; rcases hu with rfl | rfl <;> rfl
        case c2 => intro ad had i u' hj; injection had with had; subst had; exact World.news_of_block (cs := #[.int .i64 of, .int .i64 (of + m : Int)]) (heap_alloc_new w3.drew _) i u' hj
        case m2 => unfold maxLen; omega
        case b2 => omega
        case s2 => exact Nat.le_trans hsw (Nat.le_trans (Nat.le_succ _) (Nat.le_of_eq (by simp)))
        intro A4 c4 w4 own4 hg4 _
        have HB4 := Lib.hid ((HD3.out.alloc hsw _).grown hg4 (by rw [World.size_alloc]; omega) (fun g hg => (HOd.out.lt g hg).1))
        have HO4 := Lib.hid own4
        clear own4 hg4
        go_wp2_with fail
        go_roundw
        case rel =>
          refine ⟨k + 1, c + 1, by omega, by omega, ?_, by go_num, Lib.hid (by rw [HR2.out, List.length_append, ← HCL.out]; rfl), Lib.hid ?_, HB4⟩
          · rw [HOF.out]; push_cast; rfl
          · rw [HR2.out, List.flatMap_append]
            have := HO4.out
            simpa [rgCells] using this
        case measure => simp [intOf]; omega
      · have hrb : (xk == 5) = false := by simpa using hr
        have HR2 := Lib.hid (show ringsG (szT ns) (isRT ns) (k + 1) = rs by rw [HRS.out, hrb]; simp)
        clear hr HRS
        go_wp2_with fail
        go_region_held3 (fun w' => w'.cell? ⟨w.heap.size + 1, 0, none⟩ = some (.slice (some ⟨b, o, none⟩) N cap) ∧ w'.cell? ⟨g, o2 + k, none⟩ = some (.int .i64 (j : Nat)) ∧ w'.cell? ⟨b, o + j * 8, none⟩ = some (.int .i64 xk))
          ((refine HK.out _ ?_; first | assumption | exact HD3.out))
          (fail)
        go_wp2_with fail
        go_roundw
        case rel =>
          refine ⟨k + 1, c, by omega, by omega, ?_, by go_num, Lib.hid (by rw [HR2.out]; exact HCL.out), Lib.hid ?_, HD3⟩
          · rw [HOF.out]; push_cast; rfl
          · rw [HR2.out]; exact HOd.out
        case measure => simp [intOf]; omega
    · obtain rfl : k = n := by omega
      have h1 := HOW.out
      obtain ⟨Av, cv, hv, -, -, -, -⟩ := own_slice h1
      subst hv
      have HO := Lib.hid (own_base h1 HB2.out.size)
      clear h1
      go_wp2_with fail
      go_ret2
      rw [HF.out]
      exact ⟨Av, c, cv, rfl, HCL, HO, below_more HB2.out HBW.out⟩

end Go.Proofs.Ytilagndfohnjnaa

/- The law's look at stretches (spans, SameRings), and at long rows of ints. -/
namespace Go.Proofs.Ytilagndfohnjnaa
open Go.RowKit

theorem two_one (p : Nat × Nat) (w : World) : ∀ (ad : Addr), some ad = some (⟨w.heap.size, 0, none⟩ : Addr) → ∀ j u, (rgCells p)[j]? = some u → (w.alloc (.cells #[.int .i64 p.1, .int .i64 p.2] 71)).cell? (ad.add j) = some u := fun ad e j u hj => by
  have e := Option.some.inj e
  subst e
  exact World.news_of_block (cs := #[.int .i64 p.1, .int .i64 p.2]) (heap_alloc_new w _) j u hj

set_option maxRecDepth 100000 in
set_option maxHeartbeats 8000000 in
theorem spans_any (A : Option Addr) (n c : Nat) (zs : List (Nat × Nat)) (w : World) (hn : n = zs.length) (hA : RgsAt w A zs) (hz : zs.length ≤ 1000000) :
    Calls Try.prog 36 #[.slice A n c] w fun e w' => ∃ A2 k2 c2, e = .returned (.slice A2 k2 c2) ∧ Hid (k2 = zs.length) ∧ Hid (RgsAt w' A2 zs) ∧ Below w.heap.size w w' := by
  have HN := Lib.hid hn
  have HA := Lib.hid hA
  rw [← hn] at hz
  obtain ⟨iv, hiv, hzv, hsv, hbv⟩ := info_hid infoR2
  clear hn hA
  go_enter Try.func36, Try.ntmps36
  go_wp2
  go_loopw [3, 4] (fun v i wr => ∃ k : Nat, k ≤ n ∧ i = .int .i64 k ∧ Hid (wr.ownsRow w.heap.size 71 2 v k ((zs.take k).flatMap rgCells)) ∧ Hid (Below w.heap.size w wr)) (fun _ i _ => n - (intOf i).toNat)
  case atStart => exact ⟨0, Nat.zero_le _, rfl, Lib.hid (World.ownsRow_nil _ _ _ _), Lib.hid (Below.refl _ _)⟩
  case round =>
    obtain ⟨k, hk, rfl, hown, hbw⟩ := hrel
    have HBW := Lib.hid hbw.out
    have HOW := Lib.hid hown.out
    clear hown hbw
    by_cases hlt : k < n
    · obtain ⟨p, hp⟩ : ∃ p, zs[k]? = some p := ⟨_, List.getElem?_eq_getElem (by have := HN.out; omega)⟩
      obtain ⟨b, o, rfl, hblt, h0, h1⟩ := HA.out k p hp
      have HSN := Lib.hid (show (zs.take (k + 1)).flatMap rgCells = (zs.take k).flatMap rgCells ++ rgCells p by
        obtain ⟨hk', e⟩ := List.getElem?_eq_some_iff.1 hp
        rw [List.take_succ_eq_append_getElem hk', e, List.flatMap_append]; simp)
      have HK := Lib.hid (fun wx (hb : Below w.heap.size w wx) => show wx.cell? ⟨b, o + k * 2, none⟩ = some (.int .i64 p.1) ∧ wx.cell? ⟨b, o + k * 2 + 1, none⟩ = some (.int .i64 p.2) from
        ⟨(hb.cell (p := ⟨b, _, none⟩) hblt).trans h0, (hb.cell (p := ⟨b, _, none⟩) hblt).trans h1⟩)
      obtain ⟨xs, hxs⟩ : ∃ xs, xs = (zs.take k).flatMap rgCells := ⟨_, rfl⟩
      rw [← hxs] at HOW HSN
      obtain ⟨Av, cv, hv, -, -, -, -⟩ := own_slice HOW.out
      subst hv
      have HOd := Lib.hid (ownsRow_of_block (w' := wr.drew) HOW.out (fun g hg => rfl))
      have HDR := Lib.hid (show Below w.heap.size w wr.drew from HBW.out.drew)
      have hs1 := HDR.out.size
      have hs2 := HBW.out.size
      have hkn : (k : Int) < (n : Int) := by omega
      have hk0 : (0 : Int) ≤ (k : Int) := by omega
      have HRO := Lib.hid (rg_one p)
      have HTW := Lib.hid (two_one p wr.drew)
      obtain ⟨p1, p2⟩ := p
      dsimp only at HK
      clear hp h0 h1 hxs
      go_wp2_with fail
      go_region_held3 (fun w' => w'.cell? ⟨b, o + k * 2, none⟩ = some (.int .i64 p1) ∧ w'.cell? ⟨b, o + k * 2 + 1, none⟩ = some (.int .i64 p2))
        ((refine HK.out _ ?_; first | assumption | exact HDR.out | exact (Below.alloc HBW.out hs2 _).drew))
        (first
          | (refine step_append_src _ rfl (.tmp 11) (.tmp 23) 50 rfl w.heap.size 71 iv (.agg #[.int .i64 0, .int .i64 0]) 2 16 Try.underlying50 hiv.out hzv.out hsv.out hbv.out rfl (by decide) (.slice Av k cv) k xs rfl (HOd.out.alloc _) (some ⟨wr.drew.heap.size, 0, none⟩) 1 1 (rgCells (p1, p2)) rfl rfl (by intro h; cases h) (fun ad e j u hj => HTW.out ad e.symm j u hj) HRO.out (by unfold maxLen; omega) (by omega) (by first | omega | (simp; omega)) (k + 1) rfl ?_; intro A4 c4 w4 own4 hg4; have hbw4 : Below w.heap.size w w4 := Below.grown (Below.alloc HDR.out hs1 _) hg4 (by first | omega | (simp; omega)) (fun g' e => (HOd.out.lt g' e).1)))
      have HO4 := Lib.hid own4
      have HB4 := Lib.hid hbw4
      clear own4 hg4 hbw4 HK HDR
      go_wp2_with fail
      go_roundw
      case rel => exact ⟨k + 1, by omega, by go_num, Lib.hid (by rw [HSN.out]; exact HO4.out), HB4⟩
      case measure => simp [intOf]; omega
    · obtain rfl : k = n := by omega
      have h1 := HOW.out
      rw [HN.out, List.take_length, ← HN.out] at h1
      obtain ⟨Av, cv, hv, -, -, -, -⟩ := own_slice h1
      subst hv
      have HO := Lib.hid h1
      clear h1
      go_wp2_with fail
      go_ret
      exact ⟨Av, k, cv, rfl, HN, Lib.hid (own_rings HO.out), HBW.out⟩

theorem eqIn_arr2 (a b c d : Int) (w : World) : (Op.equalIn 10000 71 (.agg #[.int .i64 a, .int .i64 b]) (.agg #[.int .i64 c, .int .i64 d])).run Try.prog w = .ok (a == c && b == d) w := by
  have ht : Try.prog.underlying 71 = some (.array 2 3) := by kernel_rfl
  have hi : Try.prog.underlying 3 = some (.int .i64) := by kernel_rfl
  have h1 : (sizeOf 3).run Try.prog w = .ok 1 w := by simp [go_sem]
  rw [show (10000 : Nat) = 9998 + 1 + 1 from rfl, Op.equalIn]
  simp only [Sem.run_bind, run_underlying ht, Result.andThen_ok, h1]
  simp [List.range', go_sem]
  by_cases e1 : a = c <;> by_cases e2 : b = d <;> simp [e1, e2]
theorem eqR2 (k k2 t t2 : Int) (w : World) : (binOp .neq 71 (.agg #[.int .i64 k, .int .i64 t]) (.agg #[.int .i64 k2, .int .i64 t2])).run Try.prog w = .ok (.bool (!(k == k2 && t == t2))) w := by
  rw [run_neq_struct, eqIn_arr2]; rfl

set_option maxHeartbeats 1600000 in
theorem sameG_eq (A B : Option Addr) (n m c d : Nat) (zs : List (Nat × Nat)) (w : World) (hn : n = zs.length) (hm : m = zs.length) (hA : RgsAt w A zs) (hB : RgsAt w B zs) (hz : zs.length ≤ 1000000) :
    Calls Try.prog 35 #[.slice A n c, .slice B m d] w fun e w' => e = .returned (.bool true) ∧ Below w.heap.size w w' := by
  obtain rfl : m = n := hm.trans hn.symm
  have HN := Lib.hid hn
  rw [← hn] at hz
  clear hn hm
  go_enter Try.func35, Try.ntmps35
  go_wp2
  go_loopw [5] (fun i wr => ∃ k : Nat, k ≤ m ∧ i = .int .i64 k ∧ Hid (Below w.heap.size w wr)) (fun i _ => m - (intOf i).toNat)
  case atStart => exact ⟨0, Nat.zero_le _, rfl, Lib.hid (Below.refl _ _)⟩
  case round =>
    obtain ⟨k, hk, rfl, hb⟩ := hrel
    by_cases hlt : k < m
    · obtain ⟨z, hz⟩ : ∃ z, zs[k]? = some z := ⟨_, List.getElem?_eq_getElem (by have := HN.out; omega)⟩
      obtain ⟨g, o, e1, hg, y0, y1⟩ := (hA.below hb.out) k z hz
      obtain ⟨g', o', e2, hg', z0, z1⟩ := (hB.below hb.out) k z hz
      subst e1 e2
      obtain ⟨za, zb⟩ := z
      dsimp only at y0 y1 z0 z1
      have he := fun w => eqR2 za za zb zb w
      rw [show (!((za : Int) == za && (zb : Int) == zb)) = false by simp] at he
      clear hz hA hB
      go_wp2
      refine wp_region_later (by kernel_rfl) (by kernel_rfl) ?_; (repeat (first | go_big_quiet_step (fail) | quiet_step (fail))); refine wpQuiet_nil ?_; rintro _ ⟨s, rfl⟩
      go_wp2
      go_roundw
      case rel => exact ⟨k + 1, by omega, by go_num, Lib.hid (hb.out.trans (s.below.mono hb.out.size))⟩
      case measure => simp [intOf]; omega
    · obtain rfl : k = m := by omega
      go_wp2
      go_ret
      exact ⟨rfl, hb.out⟩

set_option maxHeartbeats 800000 in
theorem sameI_eq2 (A B : Option Addr) (n m c d : Nat) (zs : List Int) (w : World) (hn : n = zs.length) (hm : m = zs.length) (hA : IntsIn w A zs) (hB : IntsIn w B zs) (hz : zs.length ≤ 2000000) :
    Calls Try.prog 27 #[.slice A n c, .slice B m d] w fun e w' => e = .returned (.bool true) ∧ Below w.heap.size w w' := by
  obtain rfl : m = n := hm.trans hn.symm
  have HN := Lib.hid hn
  rw [← hn] at hz
  clear hn hm
  go_enter Try.func27, Try.ntmps27
  go_wp2
  go_loopw [5] (fun i wr => ∃ k : Nat, k ≤ m ∧ i = .int .i64 k ∧ Hid (Below w.heap.size w wr)) (fun i _ => m - (intOf i).toNat)
  case atStart => exact ⟨0, Nat.zero_le _, rfl, Lib.hid (Below.refl _ _)⟩
  case round =>
    obtain ⟨k, hk, rfl, hb⟩ := hrel
    by_cases hlt : k < m
    · obtain ⟨z, hz⟩ : ∃ z, zs[k]? = some z := ⟨_, List.getElem?_eq_getElem (by have := HN.out; omega)⟩
      obtain ⟨g, o, e1, hg, x⟩ := (hA.below hb.out) k z hz
      obtain ⟨g', o', e2, hg', y⟩ := (hB.below hb.out) k z hz
      subst e1 e2
      clear hz hA hB
      go_wp2
      refine wp_region_later (by kernel_rfl) (by kernel_rfl) ?_; (repeat (first | go_big_quiet_step (fail) | quiet_step (fail))); refine wpQuiet_nil ?_; rintro _ ⟨s, rfl⟩
      go_wp2
      go_roundw
      case rel => exact ⟨k + 1, by omega, by go_num, Lib.hid (hb.out.trans (s.below.mono hb.out.size))⟩
      case measure => simp [intOf]; omega
    · obtain rfl : k = m := by omega
      go_wp2
      go_ret
      exact ⟨rfl, hb.out⟩

end Go.Proofs.Ytilagndfohnjnaa
