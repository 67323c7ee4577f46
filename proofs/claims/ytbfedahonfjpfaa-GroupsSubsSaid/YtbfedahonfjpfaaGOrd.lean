/-
  The signs of a text in the order in which they are read (Order); the laws' look at an example.
-/
import Derived.Test.YtbfedahonfjpfaaGVal
namespace Go.Proofs.Ytbfedahonfjpfaa
open Go.RowKit

def intsZ (l : List Int) : List Value := l.map fun z => .int .i64 z
/-- the line, while no gap stands in it -/
def gapM (m : Mk) : Bool := decide (m.sign < 0)
def orderR (l : Li) (ns : List Nd) : List Int × Int :=
  if textErr l ns ≠ 0 then ([], textErr l ns) else if (lineR ns).any gapM then ([], 22) else ((lineR ns).map (·.sign), 0)
def GotIntsE (w : World) (q : List Int × Int) (e : Ending) (w' : World) : Prop :=
  ∃ A c, e = .returned (.tuple #[.slice A q.1.length c, .int .i64 q.2]) ∧ w'.ownsRow w.heap.size 3 1 (.slice A q.1.length c) q.1.length (intsZ q.1) ∧ Below w.heap.size w w'
theorem gcheck_is (L : Lm) (A : Option Addr) (cap : Nat) (ns : List Nd) (w : World) (hl : LmOk w L) (hn : NdsAt w A ns) (hc1 : ns.length ≤ cap) (hc : cap ≤ maxLen) (r : Int) (h : textErr L.li ns = r) :
    Calls Try.prog 19 #[.agg #[.int .i64 L.per, .slice L.A L.ms.length L.cap], .agg #[.slice A ns.length cap]] w fun e w' => e = .returned (.int .i64 r) ∧ Below w.heap.size w w' := by
  rw [← h]; exact gcheck_any L A cap ns w hl hn hc1 hc

/-- marks in memory -/
structure MkAt (w : World) (b p : Nat) (m : Mk) : Prop where
  c0 : w.cell? ⟨b, p, none⟩ = some (.int .i64 m.sign)
  c1 : w.cell? ⟨b, p + 1, none⟩ = some (.int .i64 m.state)
  c2 : w.cell? ⟨b, p + 2, none⟩ = some (.int .i64 m.min)
  c3 : w.cell? ⟨b, p + 3, none⟩ = some (.int .i64 m.max)
def MksAt (w : World) (A : Option Addr) (ms : List Mk) : Prop := ∀ k m, ms[k]? = some m → ∃ b o, A = some ⟨b, o, none⟩ ∧ b < w.heap.size ∧ MkAt w b (o + k * 4) m
theorem MksAt.below {w w' : World} {A : Option Addr} {ms : List Mk} (h : MksAt w A ms) (hb : Below w.heap.size w w') : MksAt w' A ms := fun k m hk => by
  obtain ⟨b, o, e, hlt, hv⟩ := h k m hk
  exact ⟨b, o, e, Nat.lt_of_lt_of_le hlt hb.size, ⟨(hb.cell (p := ⟨b, _, none⟩) hlt).trans hv.c0, (hb.cell (p := ⟨b, _, none⟩) hlt).trans hv.c1, (hb.cell (p := ⟨b, _, none⟩) hlt).trans hv.c2, (hb.cell (p := ⟨b, _, none⟩) hlt).trans hv.c3⟩⟩
theorem own_marks {w : World} {base : Nat} {A : Option Addr} {n c : Nat} {l : List Mk} (h : w.ownsRow base 69 4 (.slice A n c) n (l.flatMap Mk.cells)) : MksAt w A l := fun k x hk => by
  obtain ⟨A2, c2, hv, -, -, h3, h4⟩ := own_slice h
  injection hv with e1 e2 e3
  subst e1 e3
  have hlen : l.length = n := by
    have h1 := h.1
    have : (l.flatMap Mk.cells).length = l.length * 4 := flat_len (f := Mk.cells) (fun _ => rfl) _
    omega
  cases A with
  | none => have := h4 rfl; have := (List.getElem?_eq_some_iff.1 hk).1; omega
  | some ad =>
    obtain ⟨g, rfl, _, hg, hc⟩ := h3 ad rfl
    have ha : ∀ i, i < 4 → w.cell? ⟨g, k * 4 + i, none⟩ = (Mk.cells x)[i]? := fun i hi => by
      have hi' : i < (Mk.cells x).length := hi
      rw [hc (k * 4 + i) ((Mk.cells x)[i]) (by rw [flat_at (c := 4) (fun _ => rfl) _ _ _ hk i hi]; exact List.getElem?_eq_getElem hi'), List.getElem?_eq_getElem hi']
    refine ⟨g, 0, rfl, hg, ?_⟩
    rw [Nat.zero_add]
    exact ⟨ha 0 (by omega), ha 1 (by omega), ha 2 (by omega), ha 3 (by omega)⟩

set_option maxRecDepth 100000 in
set_option maxHeartbeats 8000000 in
theorem order_any2 (L : Lm) (A : Option Addr) (cap : Nat) (ns : List Nd) (w : World) (hl : LmOk w L) (hn : NdsAt w A ns) (hc1 : ns.length ≤ cap) (hc : cap ≤ maxLen) :
    Calls Try.prog 30 #[L.val, .agg #[.slice A ns.length cap]] w (GotIntsE w (orderR L.li ns)) := by
  obtain ⟨E, hE⟩ : ∃ E, textErr L.li ns = E := ⟨_, rfl⟩
  have HCK := Lib.hid (fun wx (hb : Below w.heap.size w wx) => gcheck_is L A cap ns wx (hl.below hb) (hn.below hb) hc1 hc E hE)
  have HNS := Lib.hid hn
  obtain ⟨R, hR⟩ : ∃ R, R = orderR L.li ns := ⟨_, rfl⟩
  have HE := Lib.hid (show R = if E ≠ 0 then ([], E) else if (lineR ns).any gapM then ([], 22) else ((lineR ns).map (·.sign), 0) by rw [hR, ← hE]; rfl)
  have HEE := Lib.hid hE
  rw [← hR]
  obtain ⟨N, hN⟩ : ∃ N, N = ns.length := ⟨_, rfl⟩
  have HN := Lib.hid hN
  rw [← hN] at hc1 HCK ⊢
  clear hn hE hR hN hl
  show Calls _ _ #[.agg #[.int .i64 L.per, .slice L.A L.ms.length L.cap], _] w _
  obtain ⟨W, hW⟩ : ∃ W, W = (w.alloc (.cells #[.int .i64 L.per, .slice L.A L.ms.length L.cap] 24)).alloc (.cells #[.slice A N cap] 27) := ⟨_, rfl⟩
  have HB := Lib.hid (show Below w.heap.size w W from hW ▸ two_under _ _ _)
  have HX1 := Lib.hid (show W.heap[w.heap.size + 1]? = some (.cells #[.slice A N cap] 27 (0, 0)) by
    rw [hW]; have := heap_alloc_new (w.alloc (.cells #[.int .i64 L.per, .slice L.A L.ms.length L.cap] 24)) (.cells #[.slice A N cap] 27); simpa using this)
  obtain ⟨iv, hiv, hzv, hsv, hbv⟩ := info_hid infoInt
  go_enter Try.func30, Try.ntmps30
  go_wp2_with fail
  rw [← hW]
  refine (HCK.out W HB.out).mono ?_; rintro e w1 ⟨rfl, hb⟩
  have HB1 := Lib.hid (below_more HB.out hb)
  have x0 := cell_of_blk (blk_keep hb HX1.out) 0
  simp at x0
  clear hb hW HX1 HCK HB
  by_cases h0 : E = 0
  case neg =>
    have hbE : (E != 0) = true := by simpa using h0
    have HF := Lib.hid (show R = ([], E) by rw [HE.out, if_pos h0])
    clear h0 HE
    go_wp2_with fail
    go_ret2
    rw [HF.out]
    exact ⟨none, 0, rfl, World.ownsRow_nil _ _ _ _, HB1.out⟩
  subst h0
  obtain ⟨hk1, hk2, hk3, hk4, hk5, hk6⟩ := text_ok HEE.out
  have HLN := Lib.hid (show Calls Try.prog 68 #[.agg #[.slice A N cap]] w1 (GotRow w1 69 4 (lineR ns).length ((lineR ns).flatMap Mk.cells)) by
    have := line_any A cap ns hk6 (by rw [← HN.out]; exact hc1) hc (by omega) w1 (HNS.out.below HB1.out)
    rw [← HN.out] at this; exact this)
  have HE2 := Lib.hid (show R = if (lineR ns).any gapM then ([], 22) else ((lineR ns).map (·.sign), 0) by rw [HE.out, if_neg (by simp)])
  have hll : (lineR ns).length ≤ 2000000 := by
    have h1 := partsW_len ns.length 0 ns (Nat.le_refl _)
    have h2 : ∀ l : List (Nat × List Nd), (∀ p ∈ l, VisOk p.2) → (l.flatMap lineP).length ≤ l.length * 7776 := by
      intro l
      induction l with
      | nil => intro _; simp
      | cons p l ih =>
        intro h
        have h3 := ih (fun q hq => h q (List.mem_cons_of_mem _ hq))
        have h4 := lineP_len (h p (List.mem_cons_self ..))
        rw [List.flatMap_cons, List.length_append, List.length_cons]; omega
    have h5 := h2 (partsW 0 ns) hk6
    show ((partsW 0 ns).flatMap lineP).length ≤ _
    omega
  clear HE hk1 hk2 hk3 hk4 hk5 hk6
  obtain ⟨ms, hms⟩ : ∃ ms, ms = lineR ns := ⟨_, rfl⟩
  rw [← hms] at HLN HE2 hll
  obtain ⟨n, hn⟩ : ∃ n, n = ms.length := ⟨_, rfl⟩
  have HNM := Lib.hid hn
  rw [← hn] at HLN hll
  clear hms hn
  go_wp2_with fail
  refine HLN.out.mono ?_; rintro e w2 ⟨Am, cm, rfl, hown, hb⟩
  have HB2 := Lib.hid (below_more HB1.out hb)
  have HMA := Lib.hid (own_marks hown)
  have hol := own_len hown
  have hcm := hol.1
  have hmm := hol.2.1
  unfold maxLen at hmm
  clear hown hb hol x0 HLN
  go_wp2_with fail
  go_loopw [7, 9, 19] (fun v _ i wr => ∃ (k : Nat), k ≤ n ∧ i = .int .i64 k ∧ Hid ((ms.take k).any gapM = false) ∧ Hid (wr.ownsRow w2.heap.size 3 1 v k (intsZ ((ms.take k).map (·.sign)))) ∧ Hid (Below w2.heap.size w2 wr)) (fun _ _ i _ => n - (intOf i).toNat)
  case atStart => exact ⟨0, Nat.zero_le _, rfl, Lib.hid (by simp), Lib.hid (World.ownsRow_nil _ _ _ _), Lib.hid (Below.refl _ _)⟩
  case round =>
    obtain ⟨k, hk, rfl, hgp, hown, hbw⟩ := hrel
    have HBW := Lib.hid hbw.out
    have HGP := Lib.hid hgp.out
    have HOW := Lib.hid hown.out
    clear hbw hgp hown
    by_cases hlt : k < n
    · obtain ⟨m, hm⟩ : ∃ m, ms[k]? = some m := ⟨_, List.getElem?_eq_getElem (by have := HNM.out; omega)⟩
      obtain ⟨b, o, hA, hblt, hva⟩ := (HMA.out.below HBW.out) k m hm
      subst hA
      obtain ⟨y0, y1, y2, y3⟩ := hva
      have HSN := Lib.hid (show ms.take (k + 1) = ms.take k ++ [m] by
        obtain ⟨hk', e⟩ := List.getElem?_eq_some_iff.1 hm
        rw [List.take_succ_eq_append_getElem hk', e])
      have HMM := Lib.hid (List.mem_of_getElem? hm)
      obtain ⟨ms0, mt, mn, mx⟩ := m
      dsimp only at y0 y1 y2 y3
      clear hm
      by_cases hneg : ms0 < 0
      · have HF := Lib.hid (show R = ([], 22) by
          rw [HE2.out, if_pos]
          exact List.any_eq_true.2 ⟨_, HMM.out, decide_eq_true hneg⟩)
        go_wp2_with fail
        go_ret2
        rw [HF.out]
        exact ⟨none, 0, rfl, World.ownsRow_nil _ _ _ _, below_more (below_more HB2.out HBW.out) (below_alloc _ _)⟩
      · have HG2 := Lib.hid (show (ms.take (k + 1)).any gapM = false by
          rw [HSN.out, List.any_append, HGP.out]
          simp [gapM]; omega)
        have HI2 := Lib.hid (show intsZ ((ms.take (k + 1)).map (·.sign)) = intsZ ((ms.take k).map (·.sign)) ++ [.int .i64 ms0] by rw [HSN.out, List.map_append]; simp [intsZ])
        obtain ⟨xs, hxs⟩ : ∃ xs, xs = intsZ ((ms.take k).map (·.sign)) := ⟨_, rfl⟩
        rw [← hxs] at HOW HI2
        obtain ⟨Av, cv, hv, -, -, -, -⟩ := own_slice HOW.out
        subst hv
        clear hxs
        have hsw := HBW.out.size
        have hneg2 : decide (ms0 < 0) = false := decide_eq_false hneg
        have hwl := Lib.hid (below_alloc wr (.cells #[.int .i64 ms0, .int .i64 mt, .int .i64 mn, .int .i64 mx] 69))
        obtain ⟨wq, hwq⟩ : ∃ wq, wq = wr.alloc (.cells #[.int .i64 ms0, .int .i64 mt, .int .i64 mn, .int .i64 mx] 69) := ⟨_, rfl⟩
        have hsq : wq.heap.size = wr.heap.size + 1 := by rw [hwq]; simp
        go_wp2_with (first
          | (at_builtin; refine wpList_append_src _ rfl (.tmp 26) (.tmp 29) 38 rfl w2.heap.size 3 iv (.int .i64 0) 1 8 Try.underlying38 hiv.out hzv.out hsv.out hbv.out rfl (by decide) (.slice Av k cv) k xs rfl ?own2 (some ⟨wr.heap.size + 1, 0, none⟩) 1 1 [.int .i64 ms0] rfl ?l2 ?n2 ?c2 ?o2 ?m2 ?b2 ?s2 (k + 1) rfl ?_))
        case own2 => exact (HOW.out.alloc _).alloc _
        case o2 => rfl
        case m2 => unfold maxLen; omega
        case b2 => omega
        case s2 => omega
        intro A3 c3 w3 own3 hg3 _
        have HB3 := Lib.hid (((HBW.out.alloc hsw _).alloc (by rw [World.size_alloc]; omega) _).grown hg3 (by rw [World.size_alloc, World.size_alloc]; omega) (fun g hg => (HOW.out.lt g hg).1))
        have HO3 := Lib.hid own3
        clear own3 hg3
        go_wp2_with fail
        go_roundw
        case rel => exact ⟨k + 1, by omega, by go_num, HG2, Lib.hid (by rw [HI2.out]; exact HO3.out), HB3⟩
        case measure => simp [intOf]; omega
    · obtain rfl : k = n := by omega
      have HT := Lib.hid (show ms.take k = ms by rw [HNM.out, List.take_length])
      have HF := Lib.hid (show R = (ms.map (·.sign), 0) by
        rw [HE2.out, if_neg]
        have := HGP.out
        rw [HT.out] at this
        rw [this]; simp)
      have h1 := HOW.out
      rw [HT.out] at h1
      obtain ⟨Av, cv, hv, -, -, -, -⟩ := own_slice h1
      subst hv
      have HO3 := Lib.hid h1
      clear h1
      go_wp2_with fail
      go_ret2
      rw [HF.out]
      refine ⟨Av, cv, ?_, own_base ?_ HB2.out.size, below_more HB2.out HBW.out⟩
      · rw [List.length_map, ← HNM.out]; rfl
      · rw [List.length_map, ← HNM.out]; exact HO3.out

end Go.Proofs.Ytbfedahonfjpfaa
