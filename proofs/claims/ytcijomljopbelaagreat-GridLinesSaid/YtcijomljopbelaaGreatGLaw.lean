/-
  What the laws make of a paper: Large, Big, list and text.
-/
import Derived.Test.YtcijomljopbelaaGreatGaF
import Derived.Test.YtcijomljopbelaaGreatBigA
namespace Go.Proofs.YtcijomljopbelaaGreat
open Go.RowKit

def largeG (l : Li) : Bool := bigB l.signs || decide (30 < l.signs.length)
theorem largeG_is (l : Lm) (w : World) (hl : LmOk w l) (r : Bool) (h : largeG l.li = r) :
    Calls Tryz.prog 30 #[l.val] w fun e w' => e = .returned (.bool r) ∧ Below w.heap.size w w' := by
  obtain ⟨W, hW⟩ : ∃ W, W = (w.alloc (.cells #[.int .i64 l.per, .slice l.A l.ms.length l.cap] 24)) := ⟨_, rfl⟩
  have HB := Lib.hid (show Below w.heap.size w W from hW ▸ below_alloc _ _)
  have C1 := Lib.hid (show W.heap[w.heap.size]? = some (.cells #[.int .i64 l.per, .slice l.A l.ms.length l.cap] 24 (0, 0)) by
    rw [hW]; exact heap_alloc_new _ _)
  have HL := Lib.hid (hl.below HB.out)
  have HBG := Lib.hid (fun r (h : bigB l.signs = r) => show Calls Tryz.prog 66 #[.agg #[.int .i64 l.per, .slice l.A l.ms.length l.cap]] W _ from big_is l W HL.out r h)
  have hlen := hl.len
  have hcap := hl.cap
  unfold maxLen at hcap
  clear hl
  show Calls _ _ #[.agg #[.int .i64 l.per, .slice l.A l.ms.length l.cap]] w _
  have hr : r = (bigB l.signs || decide (30 < l.ms.length)) := by
    rw [← h]; unfold largeG
    rw [show l.li.signs = l.signs from rfl, Lm.length_signs]
  obtain ⟨B, hB⟩ : ∃ B, bigB l.signs = B := ⟨_, rfl⟩
  rw [hB] at hr
  have HR := Lib.hid hr
  have HBB := Lib.hid hB
  clear hB hr h
  go_enter Tryz.func30, Tryz.ntmps30
  go_wp2_with fail
  rw [← hW]
  refine (HBG.out B HBB.out).mono ?_; rintro e w1 ⟨rfl, hb1⟩
  have x1 := cell_of_blk (blk_keep hb1 C1.out) 1
  simp at x1
  have HB1 := Lib.hid (HB.out.trans (hb1.mono HB.out.size))
  clear hb1
  cases B with
  | true =>
    have HRT := Lib.hid (show r = true by rw [HR.out]; rfl)
    go_wp2_with fail
    go_ret
    exact ⟨by rw [HRT.out]; rfl, HB1.out⟩
  | false =>
    obtain ⟨n, hn⟩ : ∃ n, n = l.ms.length := ⟨_, rfl⟩
    rw [← hn] at x1 HR hlen ⊢
    clear hn
    have HR2 := Lib.hid (show r = decide ((30 : Int) < (n : Int)) by rw [HR.out, Bool.false_or]; exact decide_eq_decide.2 (by omega))
    go_wp2_with fail
    go_ret
    exact ⟨by rw [HR2.out]; rfl, HB1.out⟩


/-- the Go value of a paper -/
def paperV (L : Lm) (A : Option Addr) (n cap : Nat) : Value := .agg #[.int .i64 L.per, .slice L.A L.ms.length L.cap, .slice A n cap]
def bigG (l : Li) (n : Nat) : Bool := largeG l || decide (210 < n)

set_option maxRecDepth 100000 in
theorem bigG_is (L : Lm) (A : Option Addr) (n cap : Nat) (w : World) (hl : LmOk w L) (hn : n ≤ maxLen) (r : Bool) (h : bigG L.li n = r) :
    Calls Tryz.prog 13 #[.agg #[.int .i64 L.per, .slice L.A L.ms.length L.cap, .slice A n cap]] w fun e w' => e = .returned (.bool r) ∧ Below w.heap.size w w' := by
  obtain ⟨W, hW⟩ : ∃ W, W = (w.alloc (.cells #[.int .i64 L.per, .slice L.A L.ms.length L.cap, .slice A n cap] 29)) := ⟨_, rfl⟩
  have HB := Lib.hid (show Below w.heap.size w W from hW ▸ below_alloc _ _)
  have C1 := Lib.hid (show W.heap[w.heap.size]? = some (.cells #[.int .i64 L.per, .slice L.A L.ms.length L.cap, .slice A n cap] 29 (0, 0)) by
    rw [hW]; exact heap_alloc_new _ _)
  have HL := Lib.hid (hl.below HB.out)
  have HBG := Lib.hid (fun r (h : largeG L.li = r) => show Calls Tryz.prog 30 #[.agg #[.int .i64 L.per, .slice L.A L.ms.length L.cap]] W _ from largeG_is L W HL.out r h)
  unfold maxLen at hn
  clear hl
  have hr : r = (largeG L.li || decide (210 < n)) := h.symm
  obtain ⟨B, hB⟩ : ∃ B, largeG L.li = B := ⟨_, rfl⟩
  rw [hB] at hr
  have HR := Lib.hid hr
  have HBB := Lib.hid hB
  clear hB hr h
  go_enter Tryz.func13, Tryz.ntmps13
  go_wp2_with fail
  rw [← hW]
  refine (HBG.out B HBB.out).mono ?_; rintro e w1 ⟨rfl, hb1⟩
  have x1 := cell_of_blk (blk_keep hb1 C1.out) 2
  simp at x1
  have HB1 := Lib.hid (HB.out.trans (hb1.mono HB.out.size))
  clear hb1
  cases B with
  | true =>
    have HRT := Lib.hid (show r = true by rw [HR.out]; rfl)
    go_wp2_with fail
    go_ret
    exact ⟨by rw [HRT.out]; rfl, HB1.out⟩
  | false =>
    have HR2 := Lib.hid (show r = decide ((210 : Int) < (n : Int)) by rw [HR.out, Bool.false_or]; exact decide_eq_decide.2 (by omega))
    go_wp2_with fail
    go_ret
    exact ⟨by rw [HR2.out]; rfl, HB1.out⟩
theorem not_bigG {L : Lm} {n : Nat} (h : bigG L.li n = false) : n ≤ 210 ∧ L.ms.length ≤ 30 ∧ ∀ m ∈ L.ms, m.s.vals.length ≤ 20 ∧ m.s.code.size ≤ 100 ∧ ∀ v ∈ m.s.vals, v.text.size ≤ 100 := by
  unfold bigG largeG at h
  simp only [Bool.or_eq_false_iff, decide_eq_false_iff_not] at h
  obtain ⟨⟨h1, h2⟩, h3⟩ := h
  obtain ⟨_, h4⟩ := not_big (l := L) h1
  refine ⟨by omega, ?_, h4⟩
  rw [show L.li.signs = L.signs from rfl, Lm.length_signs] at h2
  omega

theorem OwnSigns.setLow {w : World} {base : Nat} {A : Option Addr} {c : Nat} {ms : List Sm} (h : OwnSigns w base A c ms) (hlow : ∀ m ∈ ms, ∀ b o, m.A = some ⟨b, o, none⟩ → base ≤ b) {a : Addr} (ha : a.block < base) (v : Value) : OwnSigns (w.setCell a v) base A c ms :=
  ⟨ownsRow_of_block h.own (fun g hg => heap_setCell_other _ _ _ _ (by have := (h.own.lt g hg).1; omega)),
    fun m hm => smok_of_blocks (h.ok m hm) (by simp) (fun b o e _ => heap_setCell_other _ _ _ _ (by have := hlow m hm b o e; omega)), h.apart⟩

theorem OwnSigns.base {w : World} {b0 b1 : Nat} {A : Option Addr} {c : Nat} {ms : List Sm} (h : OwnSigns w b1 A c ms) (hb : b0 ≤ b1) : OwnSigns w b0 A c ms := ⟨own_base h.own hb, h.ok, h.apart⟩
/-- a list that was made, its parts by name -/
def GotListX (w : World) (li : Li) (e : Ending) (w' : World) : Prop := ∃ (pm : Int) (ms : List Sm) (Am : Option Addr) (k cm : Nat), e = .returned (.agg #[.int .i64 pm, .slice Am k cm]) ∧ Hid (k = ms.length) ∧ Hid (LmOk w' ⟨pm, ms, Am, cm⟩) ∧ Hid ((Lm.mk pm ms Am cm).li = li) ∧ Below w.heap.size w w'
theorem GotList.x {w : World} {li : Li} {e : Ending} {w' : World} (h : GotList w li e w') : GotListX w li e w' := by
  obtain ⟨⟨pm, ms, Am, cm⟩, rfl, h1, h2, h3⟩ := h
  exact ⟨pm, ms, Am, ms.length, cm, rfl, Lib.hid rfl, Lib.hid h1, Lib.hid h2, h3⟩
/-- .. in memory of the call's own -/
def GotListY (w : World) (li : Li) (e : Ending) (w' : World) : Prop := ∃ (pm : Int) (ms : List Sm) (Am : Option Addr) (k cm : Nat), e = .returned (.agg #[.int .i64 pm, .slice Am k cm]) ∧ Hid (k = ms.length) ∧ Hid (OwnSigns w' w.heap.size Am cm ms) ∧ Hid (∀ m ∈ ms, ∀ b o, m.A = some ⟨b, o, none⟩ → w.heap.size ≤ b) ∧ Hid ((Lm.mk pm ms Am cm).li = li) ∧ Below w.heap.size w w'
theorem GotListO.y {w : World} {li : Li} {e : Ending} {w' : World} (h : GotListO w li e w') : GotListY w li e w' := by
  obtain ⟨⟨pm, ms, Am, cm⟩, rfl, h1, h2, h3, h4⟩ := h
  exact ⟨pm, ms, Am, ms.length, cm, rfl, Lib.hid rfl, Lib.hid h1, Lib.hid h4, Lib.hid h2, h3⟩
/-- a text that was made, in memory of the call's own, its parts by name -/
def GotTextY (w : World) (ns : List Nd) (e : Ending) (w' : World) : Prop := ∃ (A : Option Addr) (k c : Nat), e = .returned (.agg #[.slice A k c]) ∧ Hid (k = ns.length) ∧ Hid (w'.ownsRow w.heap.size 87 8 (.slice A k c) k (ns.flatMap Nd.cells)) ∧ Below w.heap.size w w'
theorem GotText.y {w : World} {ns : List Nd} {e : Ending} {w' : World} (h : GotText w ns e w') : GotTextY w ns e w' := by
  obtain ⟨A, c, rfl, h1, h2⟩ := h
  exact ⟨A, ns.length, c, rfl, Lib.hid rfl, Lib.hid h1, h2⟩
/-- a text that was made, its parts by name -/
def GotTextX (w : World) (ns : List Nd) (e : Ending) (w' : World) : Prop := ∃ (A : Option Addr) (k c : Nat), e = .returned (.agg #[.slice A k c]) ∧ Hid (k = ns.length) ∧ Hid (NdsAt w' A ns) ∧ k ≤ c ∧ c ≤ maxLen ∧ Below w.heap.size w w'
theorem GotText.x {w : World} {ns : List Nd} {e : Ending} {w' : World} (h : GotText w ns e w') : GotTextX w ns e w' := by
  obtain ⟨A, c, rfl, h1, h2⟩ := h
  obtain ⟨h3, h4, _⟩ := own_len h1
  exact ⟨A, ns.length, c, rfl, Lib.hid rfl, Lib.hid (own_nodes h1), h3, h4, h2⟩

end Go.Proofs.YtcijomljopbelaaGreat
