/-
  Contract of Big. And what builds on it.
-/
import Derived.Test.YtmiokllpdmmfhaaGreatLaA
import Derived.Test.YtmiokllpdmmfhaaGreatLaF
namespace Go.Proofs.YtmiokllpdmmfhaaGreat
open Go.RowKit
def vaBig (v : Va) : Bool := decide (100 < v.text.size)
def sgBig (s : Sg) : Bool := decide (20 < s.vals.length) || decide (100 < s.code.size) || s.vals.any vaBig
def bigB (l : List Sg) : Bool := decide (210 < l.length) || l.any sgBig
theorem sgBig_of {s : Sg} (h1 : s.vals.length ≤ 20) (h2 : s.code.size ≤ 100) : sgBig s = s.vals.any vaBig := by
  simp [sgBig, Nat.not_lt.2 h1, Nat.not_lt.2 h2]
set_option maxHeartbeats 1600000 in
theorem big_any (l : Lm) (w : World) (hl : LmOk w l) :
    Calls Tryz.prog 66 #[l.val] w fun e w' => e = .returned (.bool (bigB l.signs)) ∧ Below w.heap.size w w' := by
  have hs := hl.signs
  obtain ⟨per, ms, A, cap⟩ := l
  obtain ⟨-, hlen, hcap⟩ := hl
  dsimp only at hs hlen hcap
  unfold Lm.val Lm.signs
  dsimp only
  obtain ⟨n, hn⟩ : ∃ n, n = ms.length := ⟨_, rfl⟩
  rw [← hn] at hlen ⊢
  have hcap' := hcap
  unfold maxLen at hcap'
  have HN := Lib.hid hn
  have HNL := Lib.hid (show (ms.map (·.s)).length = n by rw [List.length_map]; exact hn.symm)
  clear hn
  by_cases h1 : n ≤ 210
  case neg =>
    have hf := Lib.hid (show bigB (ms.map (·.s)) = true by simp [bigB, HNL.out]; exact .inl (by have := HN.out; omega))
    go_enter Tryz.func66, Tryz.ntmps66
    go_wp2
    go_ret
    exact ⟨of_bool hf.out.symm, below_alloc _ _⟩
  have HF := Lib.hid (show bigB (ms.map (·.s)) = (ms.map (·.s)).any sgBig by unfold bigB; rw [HNL.out]; simp [Nat.not_lt.2 h1])
  go_enter Tryz.func66, Tryz.ntmps66
  go_wp2
  have HWb := Lib.hid (below_alloc w (.cells #[.int .i64 per, .slice A n cap] 24))
  go_loop [3] (fun i => ∃ k : Nat, k ≤ n ∧ i = .int .i64 k ∧ Hid (((ms.map (·.s)).take k).any sgBig = false)) (fun i => n - (intOf i).toNat)
  case atStart => exact ⟨0, Nat.zero_le _, rfl, Lib.hid (by simp)⟩
  case round =>
    obtain ⟨k, hk, rfl, hno⟩ := hrel
    by_cases hlt : k < n
    · have hget : ms[k]? = some (ms[k]'(by have := HN.out; omega)) := List.getElem?_eq_getElem _
      obtain ⟨u, hu⟩ : ∃ u, u = ms[k]'(by have := HN.out; omega) := ⟨_, rfl⟩
      rw [← hu] at hget
      obtain ⟨b, o, hA, hb1, hva, hok⟩ := hs k u hget
      subst hA
      obtain ⟨y0, y1, y2, y3, y4⟩ := hva.below HWb.out hb1
      have GET := Lib.hid (show (ms.map (·.s))[k]? = some u.s by rw [List.getElem?_map, hget]; rfl)
      obtain ⟨hvs, hvl, hvc, hcode⟩ := hok
      obtain ⟨⟨code, wide, high, even, vs⟩, A', cap'⟩ := u
      dsimp only at y0 y1 y2 y3 y4 hvs hvl hvc hcode GET
      obtain ⟨m, hm⟩ : ∃ m, m = vs.length := ⟨_, rfl⟩
      rw [← hm] at hvl y4
      have HM := Lib.hid hm
      unfold maxLen at hvc hcode
      have hsb : b < w.heap.size + 1 := by omega
      clear hu hget hva hs hm
      by_cases h20 : m ≤ 20
      case neg =>
        have hfin := Lib.hid (any_true sgBig _ k _ GET.out (by simp [sgBig]; exact .inl (.inl (by have := HM.out; omega))))
        go_wp2
        go_ret
        exact ⟨of_bool (by rw [HF.out, hfin.out]), HWb.out⟩
      by_cases h100 : code.size ≤ 100
      case neg =>
        have hfin := Lib.hid (any_true sgBig _ k _ GET.out (by simp [sgBig]; exact .inl (.inr (by omega))))
        go_wp2
        go_ret
        exact ⟨of_bool (by rw [HF.out, hfin.out]), HWb.out⟩
      have HS := Lib.hid (sgBig_of (s := ⟨code, wide, high, even, vs⟩) (by have := HM.out; dsimp only; omega) (by dsimp only; omega))
      go_wp2
      go_loop [4] (fun i => ∃ j : Nat, j ≤ m ∧ i = .int .i64 j ∧ Hid ((vs.take j).any vaBig = false)) (fun i => m - (intOf i).toNat)
      case atStart => exact ⟨0, Nat.zero_le _, rfl, Lib.hid (by simp)⟩
      case round =>
        obtain ⟨j, hj, rfl, hno2⟩ := hrel
        by_cases hlt2 : j < m
        · have hget : vs[j]? = some (vs[j]'(by have := HM.out; omega)) := List.getElem?_eq_getElem _
          obtain ⟨x, hx⟩ : ∃ x, x = vs[j]'(by have := HM.out; omega) := ⟨_, rfl⟩
          rw [← hx] at hget
          obtain ⟨b2, o2, hA2, hb2, hva2⟩ := hvs j x hget
          subst hA2
          obtain ⟨z0, z1, z2, z3, zsz⟩ := hva2.below HWb.out hb2
          have GET2 := Lib.hid hget
          unfold maxLen at zsz
          have hsb2 : b2 < w.heap.size + 1 := by omega
          clear hx hget hva2 hvs
          by_cases ht : x.text.size ≤ 100
          case neg =>
            have hfin := Lib.hid (any_true sgBig _ k _ GET.out (by rw [HS.out]; exact any_true vaBig _ j x GET2.out (by simp [vaBig]; omega)))
            go_wp2
            go_ret
            exact ⟨of_bool (by rw [HF.out, hfin.out]), HWb.out⟩
          have hst := Lib.hid (any_step vaBig _ j x GET2.out hno2.out (by simp [vaBig]; omega))
          go_wp2
          go_round
          case rel => exact ⟨j + 1, by omega, by go_num, hst⟩
          case measure => simp [intOf]; omega
        · obtain rfl : j = m := by omega
          have hst := Lib.hid (any_step sgBig _ k _ GET.out hno.out (by rw [HS.out]; have := hno2.out; rw [HM.out, List.take_length] at this; exact this))
          go_wp2
          go_round
          case rel => exact ⟨k + 1, by omega, by go_num, hst⟩
          case measure => simp [intOf]; omega
    · obtain rfl : k = n := by omega
      have hfin := Lib.hid (show (ms.map (·.s)).any sgBig = false by have := hno.out; rw [← HNL.out, List.take_length] at this; exact this)
      go_wp2
      go_ret
      exact ⟨of_bool (by rw [HF.out, hfin.out]), HWb.out⟩
theorem big_is (l : Lm) (w : World) (hl : LmOk w l) (r : Bool) (h : bigB l.signs = r) :
    Calls Tryz.prog 66 #[l.val] w fun e w' => e = .returned (.bool r) ∧ Below w.heap.size w w' := by
  rw [← h]; exact big_any l w hl
theorem not_big {l : Lm} (h : bigB l.signs = false) : l.ms.length ≤ 210 ∧ ∀ m ∈ l.ms, m.s.vals.length ≤ 20 ∧ m.s.code.size ≤ 100 ∧ ∀ v ∈ m.s.vals, v.text.size ≤ 100 := by
  simp only [bigB, Bool.or_eq_false_iff, decide_eq_false_iff_not] at h
  rw [Lm.length_signs] at h
  refine ⟨by omega, fun m hm => ?_⟩
  have h2 := List.any_eq_false.1 h.2 m.s (List.mem_map.2 ⟨m, hm, rfl⟩)
  simp [sgBig, vaBig] at h2
  refine ⟨by omega, by omega, fun v hv => ?_⟩
  have := h2.2 v hv
  omega
open Go.RowKit
def largeG (l : Li) : Bool := bigB l.signs || decide (30 < l.signs.length)
theorem largeG_is (l : Lm) (w : World) (hl : LmOk w l) (r : Bool) (h : largeG l.li = r) :
    Calls Tryz.prog 30 #[l.val] w fun e w' => e = .returned (.bool r) ∧ Below w.heap.size w w' := by
  obtain ⟨W, hW⟩ : ∃ W, W = (w.alloc (.cells #[.int .i64 l.per, .slice l.A l.ms.length l.cap] 24)) := ⟨_, rfl⟩
  have HB := Lib.hid (show Below w.heap.size w W from hW ▸ below_alloc _ _)
  have C1 := Lib.hid (show W.heap[w.heap.size]? = some (.cells #[.int .i64 l.per, .slice l.A l.ms.length l.cap] 24 (0, 0)) by
    rw [hW]; exact heap_alloc_new _ _)
  have HL := Lib.hid (hl.below HB.out)
  have HBG := Lib.hid (fun r (h : bigB l.signs = r) => show Calls Tryz.prog 66 #[.agg #[.int .i64 l.per, .slice l.A l.ms.length l.cap]] W _ from big_is l W HL.out r h)
  have hlen := hl.len
  have hcap := hl.cap
  unfold maxLen at hcap
  clear hl
  show Calls _ _ #[.agg #[.int .i64 l.per, .slice l.A l.ms.length l.cap]] w _
  have hr : r = (bigB l.signs || decide (30 < l.ms.length)) := by
    rw [← h]; unfold largeG
    rw [show l.li.signs = l.signs from rfl, Lm.length_signs]
  obtain ⟨B, hB⟩ : ∃ B, bigB l.signs = B := ⟨_, rfl⟩
  rw [hB] at hr
  have HR := Lib.hid hr
  have HBB := Lib.hid hB
  clear hB hr h
  go_enter Tryz.func30, Tryz.ntmps30
  go_wp2_with fail
  rw [← hW]
  refine (HBG.out B HBB.out).mono ?_; rintro e w1 ⟨rfl, hb1⟩
  have x1 := cell_of_blk (blk_keep hb1 C1.out) 1
  simp at x1
  have HB1 := Lib.hid (HB.out.trans (hb1.mono HB.out.size))
  clear hb1
  cases B with
  | true =>
    have HRT := Lib.hid (show r = true by rw [HR.out]; rfl)
    go_wp2_with fail
    go_ret
    exact ⟨by rw [HRT.out]; rfl, HB1.out⟩
  | false =>
    obtain ⟨n, hn⟩ : ∃ n, n = l.ms.length := ⟨_, rfl⟩
    rw [← hn] at x1 HR hlen ⊢
    clear hn
    have HR2 := Lib.hid (show r = decide ((30 : Int) < (n : Int)) by rw [HR.out, Bool.false_or]; exact decide_eq_decide.2 (by omega))
    go_wp2_with fail
    go_ret
    exact ⟨by rw [HR2.out]; rfl, HB1.out⟩
def bigG (l : Li) (n : Nat) : Bool := largeG l || decide (210 < n)
set_option maxRecDepth 100000 in
theorem bigG_is (L : Lm) (A : Option Addr) (n cap : Nat) (w : World) (hl : LmOk w L) (hn : n ≤ maxLen) (r : Bool) (h : bigG L.li n = r) :
    Calls Tryz.prog 13 #[.agg #[.int .i64 L.per, .slice L.A L.ms.length L.cap, .slice A n cap]] w fun e w' => e = .returned (.bool r) ∧ Below w.heap.size w w' := by
  obtain ⟨W, hW⟩ : ∃ W, W = (w.alloc (.cells #[.int .i64 L.per, .slice L.A L.ms.length L.cap, .slice A n cap] 29)) := ⟨_, rfl⟩
  have HB := Lib.hid (show Below w.heap.size w W from hW ▸ below_alloc _ _)
  have C1 := Lib.hid (show W.heap[w.heap.size]? = some (.cells #[.int .i64 L.per, .slice L.A L.ms.length L.cap, .slice A n cap] 29 (0, 0)) by
    rw [hW]; exact heap_alloc_new _ _)
  have HL := Lib.hid (hl.below HB.out)
  have HBG := Lib.hid (fun r (h : largeG L.li = r) => show Calls Tryz.prog 30 #[.agg #[.int .i64 L.per, .slice L.A L.ms.length L.cap]] W _ from largeG_is L W HL.out r h)
  unfold maxLen at hn
  clear hl
  have hr : r = (largeG L.li || decide (210 < n)) := h.symm
  obtain ⟨B, hB⟩ : ∃ B, largeG L.li = B := ⟨_, rfl⟩
  rw [hB] at hr
  have HR := Lib.hid hr
  have HBB := Lib.hid hB
  clear hB hr h
  go_enter Tryz.func13, Tryz.ntmps13
  go_wp2_with fail
  rw [← hW]
  refine (HBG.out B HBB.out).mono ?_; rintro e w1 ⟨rfl, hb1⟩
  have x1 := cell_of_blk (blk_keep hb1 C1.out) 2
  simp at x1
  have HB1 := Lib.hid (HB.out.trans (hb1.mono HB.out.size))
  clear hb1
  cases B with
  | true =>
    have HRT := Lib.hid (show r = true by rw [HR.out]; rfl)
    go_wp2_with fail
    go_ret
    exact ⟨by rw [HRT.out]; rfl, HB1.out⟩
  | false =>
    have HR2 := Lib.hid (show r = decide ((210 : Int) < (n : Int)) by rw [HR.out, Bool.false_or]; exact decide_eq_decide.2 (by omega))
    go_wp2_with fail
    go_ret
    exact ⟨by rw [HR2.out]; rfl, HB1.out⟩
theorem not_bigG {L : Lm} {n : Nat} (h : bigG L.li n = false) : n ≤ 210 ∧ L.ms.length ≤ 30 ∧ ∀ m ∈ L.ms, m.s.vals.length ≤ 20 ∧ m.s.code.size ≤ 100 ∧ ∀ v ∈ m.s.vals, v.text.size ≤ 100 := by
  unfold bigG largeG at h
  simp only [Bool.or_eq_false_iff, decide_eq_false_iff_not] at h
  obtain ⟨⟨h1, h2⟩, h3⟩ := h
  obtain ⟨_, h4⟩ := not_big (l := L) h1
  refine ⟨by omega, ?_, h4⟩
  rw [show L.li.signs = L.signs from rfl, Lm.length_signs] at h2
  omega
theorem OwnSigns.setLow {w : World} {base : Nat} {A : Option Addr} {c : Nat} {ms : List Sm} (h : OwnSigns w base A c ms) (hlow : ∀ m ∈ ms, ∀ b o, m.A = some ⟨b, o, none⟩ → base ≤ b) {a : Addr} (ha : a.block < base) (v : Value) : OwnSigns (w.setCell a v) base A c ms :=
  ⟨ownsRow_of_block h.own (fun g hg => heap_setCell_other _ _ _ _ (by have := (h.own.lt g hg).1; omega)),
    fun m hm => smok_of_blocks (h.ok m hm) (by simp) (fun b o e _ => heap_setCell_other _ _ _ _ (by have := hlow m hm b o e; omega)), h.apart⟩
theorem OwnSigns.base {w : World} {b0 b1 : Nat} {A : Option Addr} {c : Nat} {ms : List Sm} (h : OwnSigns w b1 A c ms) (hb : b0 ≤ b1) : OwnSigns w b0 A c ms := ⟨own_base h.own hb, h.ok, h.apart⟩
def GotListX (w : World) (li : Li) (e : Ending) (w' : World) : Prop := ∃ (pm : Int) (ms : List Sm) (Am : Option Addr) (k cm : Nat), e = .returned (.agg #[.int .i64 pm, .slice Am k cm]) ∧ Hid (k = ms.length) ∧ Hid (LmOk w' ⟨pm, ms, Am, cm⟩) ∧ Hid ((Lm.mk pm ms Am cm).li = li) ∧ Below w.heap.size w w'
theorem GotList.x {w : World} {li : Li} {e : Ending} {w' : World} (h : GotList w li e w') : GotListX w li e w' := by
  obtain ⟨⟨pm, ms, Am, cm⟩, rfl, h1, h2, h3⟩ := h
  exact ⟨pm, ms, Am, ms.length, cm, rfl, Lib.hid rfl, Lib.hid h1, Lib.hid h2, h3⟩
def GotTextX (w : World) (ns : List Nd) (e : Ending) (w' : World) : Prop := ∃ (A : Option Addr) (k c : Nat), e = .returned (.agg #[.slice A k c]) ∧ Hid (k = ns.length) ∧ Hid (NdsAt w' A ns) ∧ k ≤ c ∧ c ≤ maxLen ∧ Below w.heap.size w w'
theorem GotText.x {w : World} {ns : List Nd} {e : Ending} {w' : World} (h : GotText w ns e w') : GotTextX w ns e w' := by
  obtain ⟨A, c, rfl, h1, h2⟩ := h
  obtain ⟨h3, h4, _⟩ := own_len h1
  exact ⟨A, ns.length, c, rfl, Lib.hid rfl, Lib.hid (own_nodes h1), h3, h4, h2⟩
end Go.Proofs.YtmiokllpdmmfhaaGreat
