/-
  Contract of the specification's Copy.
-/
import Derived.Test.YtbfedahonfjpfaaOwn
namespace Go.Proofs.Ytbfedahonfjpfaa
open Go.RowKit

/-- what holds at the head of a round of Copy -/
structure CopyRel (w wr : World) (per : Int) (A : Option Addr) (n cap : Nat) (ms : List Sm) (k : Nat) (v : Value) (cs : List Sm) : Prop where
  below : Below w.heap.size w wr
  size : w.heap.size + 1 + 1 + 1 ≤ wr.heap.size
  b1 : wr.heap[w.heap.size]? = some (.cells #[.int .i64 per, .slice A n cap] 24 (0, 0))
  b2 : wr.heap[w.heap.size + 1]? = some (.cells #[.int .i64 0, .slice none 0 0] 24 (0, 0))
  b3 : wr.heap[w.heap.size + 1 + 1]? = some (.cells #[.int .i64 per, v] 24 (0, 0))
  own : wr.ownsRow (w.heap.size + 1 + 1 + 1) 76 5 v k (cs.flatMap Sm.cells)
  len : cs.length = k
  eqs : cs.map (·.s) = (ms.take k).map (·.s)
  ok : ∀ m ∈ cs, SmOk wr m
  apart : ∀ m ∈ cs, ∀ b o, m.A = some ⟨b, o, none⟩ → w.heap.size + 1 + 1 + 1 ≤ b ∧ v.ownBlock ≠ some b ∧ b < wr.heap.size

theorem smok_of_blocks {w w' : World} {m : Sm} (h : SmOk w m) (hs : w.heap.size ≤ w'.heap.size) (hb : ∀ b o, m.A = some ⟨b, o, none⟩ → b < w.heap.size → w'.heap[b]? = w.heap[b]?) : SmOk w' m := by
  refine ⟨fun k v hk => ?_, h.len, h.cap, h.code⟩
  obtain ⟨b, o, e, hlt, hv⟩ := h.vals k v hk
  have hc : ∀ p, w'.cell? ⟨b, p, none⟩ = w.cell? ⟨b, p, none⟩ := fun p => World.cell?_of_block (a := ⟨b, p, none⟩) (hb b o e hlt)
  exact ⟨b, o, e, by omega, ⟨(hc _).trans hv.c0, (hc _).trans hv.c1, (hc _).trans hv.c2, (hc _).trans hv.c3, hv.sz⟩⟩

theorem CopyRel.step {w wr w1 w3 : World} {per : Int} {A : Option Addr} {n cap : Nat} {ms : List Sm} {k : Nat} {v : Value} {cs : List Sm} {u : Sm} {sbox empt blk5 : Obj} {A1 A2 : Option Addr} {c1 c2 : Nat}
    (h : CopyRel w wr per A n cap ms k v cs) (hget : ms[k]? = some u) (hu : SmOk w u) 
    (own1 : w1.ownsRow (wr.heap.size + 1) 116 4 (.slice A1 u.s.vals.length c1) u.s.vals.length (u.s.vals.flatMap Va.cells))
    (hg1 : ((wr.alloc sbox).alloc empt).grownBy w1 (some (wr.heap.size + 1)))
    (own2 : w3.ownsRow (w.heap.size + 1 + 1 + 1) 76 5 (.slice A2 (k + 1) c2) (k + 1) (cs.flatMap Sm.cells ++ Sm.cells ⟨u.s, A1, c1⟩))
    (hg2 : ((w1.setCell ⟨wr.heap.size, 4, none⟩ (.slice A1 u.s.vals.length c1)).alloc blk5).grownBy w3 v.ownBlock)
    (hat : (Value.slice A2 (k + 1) c2).ownBlock = v.ownBlock ∨ (Value.slice A2 (k + 1) c2).ownBlock = some ((w1.setCell ⟨wr.heap.size, 4, none⟩ (.slice A1 u.s.vals.length c1)).alloc blk5).heap.size) :
    CopyRel w (w3.setCell ⟨w.heap.size + 1 + 1, 1, none⟩ (.slice A2 (k + 1) c2)) per A n cap ms (k + 1) (.slice A2 (k + 1) c2) (cs ++ [⟨u.s, A1, c1⟩]) := by
  have hsz := h.size
  have s1 : wr.heap.size + 1 + 1 ≤ w1.heap.size := by have := hg1.size; simpa using this
  have s2 : w1.heap.size + 1 ≤ w3.heap.size := by have := hg2.size; simpa using this
  have s3 : (w3.setCell ⟨w.heap.size + 1 + 1, 1, none⟩ (.slice A2 (k + 1) c2)).heap.size = w3.heap.size := by simp
  have hvb : ∀ g, v.ownBlock = some g → w.heap.size + 1 + 1 + 1 ≤ g ∧ g < wr.heap.size := fun g hg => h.own.lt g hg
  -- blocks of w1 that stay
  have keep1 : ∀ g, g < w1.heap.size → g ≠ wr.heap.size → v.ownBlock ≠ some g → g ≠ w.heap.size + 1 + 1 → (w3.setCell ⟨w.heap.size + 1 + 1, 1, none⟩ (.slice A2 (k + 1) c2)).heap[g]? = w1.heap[g]? := fun g h1 h2 h3 h4 => by
    rw [heap_setCell_other _ _ _ _ (by exact h4), hg2.block g (by simp; omega) (fun e => h3 e.symm), heap_alloc_other _ _ _ (by simpa using h1), heap_setCell_other _ _ _ _ (by exact h2)]
  have keep0 : ∀ g, g < wr.heap.size → v.ownBlock ≠ some g → g ≠ w.heap.size + 1 + 1 → (w3.setCell ⟨w.heap.size + 1 + 1, 1, none⟩ (.slice A2 (k + 1) c2)).heap[g]? = wr.heap[g]? := fun g h1 h3 h4 => by
    rw [keep1 g (by omega) (by omega) h3 h4, hg1.block g (by simp; omega) (by intro e; injection e with e; omega), heap_alloc_other _ _ _ (by simp; omega), heap_alloc_other _ _ _ h1]
  obtain ⟨A1', c1', e1, hc1, hc1m, hA1, hA1n⟩ := own_slice own1
  injection e1 with e1 e2 e3
  subst e1 e3
  refine ⟨?_, by rw [s3]; omega, ?_, ?_, ?_, ?_, ?_, ?_, ?_, ?_⟩
  · have b0 := ((h.below.alloc (by omega) sbox).alloc (by simp; omega) empt).grown hg1 (by simp; omega) (by intro g hg; injection hg with hg; omega)
    have b1 := (b0.setCell (p := ⟨wr.heap.size, 4, none⟩) (by dsimp only; omega) (.slice A1 u.s.vals.length c1)).alloc (by simp; omega) blk5
    exact (b1.grown hg2 (by simp; omega) (fun g hg => by have := hvb g hg; omega)).setCell (by dsimp only; omega) _
  · rw [keep0 _ (by omega) (fun e => by have := hvb _ e; omega) (by omega)]; exact h.b1
  · rw [keep0 _ (by omega) (fun e => by have := hvb _ e; omega) (by omega)]; exact h.b2
  · have hb : w3.heap[w.heap.size + 1 + 1]? = some (.cells #[.int .i64 per, v] 24 (0, 0)) := by
      rw [hg2.block _ (by simp; omega) (fun e => by have := hvb _ e.symm; omega), heap_alloc_other _ _ _ (by simp; omega), heap_setCell_other _ _ _ _ (by dsimp only; omega),
        hg1.block _ (by simp; omega) (by intro e; injection e with e; omega), heap_alloc_other _ _ _ (by simp; omega), heap_alloc_other _ _ _ (by omega)]
      exact h.b3
    rw [heap_setCell_same _ _ _ _ _ _ hb]; rfl
  · have := ownsRow_of_block (w' := w3.setCell ⟨w.heap.size + 1 + 1, 1, none⟩ (.slice A2 (k + 1) c2)) own2 (fun g hg => heap_setCell_other _ _ _ _ (by
      have := (own2.lt g hg).1; dsimp only; omega))
    simpa using this
  · simp [h.len]
  · obtain ⟨hk, e⟩ := List.getElem?_eq_some_iff.1 hget
    rw [List.map_append, h.eqs, List.take_succ_eq_append_getElem hk, List.map_append, e]; rfl
  · intro m hm
    rcases List.mem_append.1 hm with hm | hm
    · exact smok_of_blocks (h.ok m hm) (by rw [s3]; omega) (fun b o e hb => keep0 b hb (h.apart m hm b o e).2.1 (by have := (h.apart m hm b o e).1; omega))
    · simp at hm; subst hm
      refine ⟨fun j x hj => ?_, hc1, hc1m, hu.code⟩
      have hj' : j < u.s.vals.length := (List.getElem?_eq_some_iff.1 hj).1
      cases hA : A1 with
      | none => have := hA1n hA; omega
      | some ad =>
        obtain ⟨g, rfl, hg0, hg1', hcell⟩ := hA1 ad hA
        obtain ⟨_, _, _, _, hx⟩ := hu.vals j x hj
        have hk1 := keep1 g hg1' (by omega) (fun e => by have := (hvb g e).2; omega) (by omega)
        have hc : ∀ p, (w3.setCell ⟨w.heap.size + 1 + 1, 1, none⟩ (.slice A2 (k + 1) c2)).cell? ⟨g, p, none⟩ = w1.cell? ⟨g, p, none⟩ := fun p => World.cell?_of_block (a := ⟨g, p, none⟩) hk1
        have ha : ∀ i, i < 4 → w1.cell? ⟨g, j * 4 + i, none⟩ = (Va.cells x)[i]? := fun i hi => by
          have hi' : i < (Va.cells x).length := hi
          rw [hcell (j * 4 + i) ((Va.cells x)[i]) (by rw [flat_at (c := 4) (fun _ => rfl) _ _ _ hj i hi]; exact List.getElem?_eq_getElem hi'), List.getElem?_eq_getElem hi']
        refine ⟨g, 0, rfl, by rw [s3]; omega, ⟨?_, ?_, ?_, ?_, hx.sz⟩⟩
        · rw [Nat.zero_add, hc]; exact ha 0 (by omega)
        · rw [Nat.zero_add, hc]; exact ha 1 (by omega)
        · rw [Nat.zero_add, hc]; exact ha 2 (by omega)
        · rw [Nat.zero_add, hc]; exact ha 3 (by omega)
  · intro m hm b o e
    rcases List.mem_append.1 hm with hm | hm
    · have := h.apart m hm b o e
      refine ⟨this.1, ?_, by rw [s3]; omega⟩
      rcases hat with ha | ha
      · rw [ha]; exact this.2.1
      · rw [ha]
        intro e'; injection e' with e'
        simp at e'; omega
    · simp at hm; subst hm
      dsimp only at e
      obtain ⟨g, eg, hg0, hg1', _⟩ := hA1 _ e
      injection eg with eg _
      subst eg
      refine ⟨by omega, ?_, by rw [s3]; omega⟩
      rcases hat with ha | ha
      · rw [ha]; intro e'; have := (hvb _ e').2; omega
      · rw [ha]; intro e'; injection e' with e'; simp at e'; omega

theorem sm_cells_at {w : World} {g : Nat} {cs : List Sm} (hcell : ∀ j u, (cs.flatMap Sm.cells)[j]? = some u → w.cell? ⟨g, j, none⟩ = some u) {k : Nat} {m : Sm} (hk : cs[k]? = some m) : SmAt w g (0 + k * 5) m := by
  have ha : ∀ i, i < 5 → w.cell? ⟨g, k * 5 + i, none⟩ = (Sm.cells m)[i]? := fun i hi => by
    have hi' : i < (Sm.cells m).length := hi
    rw [hcell (k * 5 + i) ((Sm.cells m)[i]) (by rw [flat_at (c := 5) (fun _ => rfl) _ _ _ hk i hi]; exact List.getElem?_eq_getElem hi'), List.getElem?_eq_getElem hi']
  rw [Nat.zero_add]
  exact ⟨ha 0 (by omega), ha 1 (by omega), ha 2 (by omega), ha 3 (by omega), ha 4 (by omega)⟩

theorem CopyRel.done {w wr : World} {per : Int} {A A' : Option Addr} {n cap cap' : Nat} {ms : List Sm} {cs : List Sm} (h : CopyRel w wr per A n cap ms n (.slice A' n cap') cs) (hn : n = ms.length) (x y : Value) :
    LmOk ((wr.setCell ⟨w.heap.size + 1, 0, none⟩ x).setCell ⟨w.heap.size + 1, 1, none⟩ y) ⟨per, cs, A', cap'⟩ ∧ (Lm.mk per cs A' cap').li = ⟨per, ms.map (·.s)⟩ ∧
    Below w.heap.size w ((wr.setCell ⟨w.heap.size + 1, 0, none⟩ x).setCell ⟨w.heap.size + 1, 1, none⟩ y) := by
  have hsz := h.size
  have hkeep : ∀ g, g ≠ w.heap.size + 1 → ((wr.setCell ⟨w.heap.size + 1, 0, none⟩ x).setCell ⟨w.heap.size + 1, 1, none⟩ y).heap[g]? = wr.heap[g]? := fun g hg => by
    rw [heap_setCell_other _ _ _ _ hg, heap_setCell_other _ _ _ _ hg]
  have hs4 : ((wr.setCell ⟨w.heap.size + 1, 0, none⟩ x).setCell ⟨w.heap.size + 1, 1, none⟩ y).heap.size = wr.heap.size := by simp
  obtain ⟨A1, c1, e1, hc1, hc1m, hA1, hA1n⟩ := own_slice h.own
  injection e1 with e1 e2 e3
  subst e1 e3
  refine ⟨⟨fun k m hk => ?_, by dsimp only; rw [h.len]; exact hc1, hc1m⟩, ?_, (h.below.setCell (by dsimp only; omega) _).setCell (by dsimp only; omega) _⟩
  · dsimp only at hk ⊢
    have hk' : k < cs.length := (List.getElem?_eq_some_iff.1 hk).1
    cases hA : A' with
    | none => have := hA1n hA; have := h.len; omega
    | some ad =>
      obtain ⟨g, rfl, hg0, hg1, hcell⟩ := hA1 ad hA
      have hc : ∀ p, ((wr.setCell ⟨w.heap.size + 1, 0, none⟩ x).setCell ⟨w.heap.size + 1, 1, none⟩ y).cell? ⟨g, p, none⟩ = wr.cell? ⟨g, p, none⟩ := fun p => World.cell?_of_block (a := ⟨g, p, none⟩) (hkeep g (by omega))
      have hm := List.mem_of_getElem? hk
      refine ⟨g, 0, rfl, by rw [hs4]; exact hg1, sm_cells_at (fun j u hj => (hc j).trans (hcell j u hj)) hk, smok_of_blocks (h.ok m hm) (by rw [hs4]; omega) (fun b o e _ => hkeep b (by have := (h.apart m hm b o e).1; omega))⟩
  · simp only [Lm.li, Lm.signs]
    rw [h.eqs, hn, List.take_length]

/-- signs in a row that the call made itself, apart from their values -/
structure OwnSigns (w : World) (base : Nat) (A : Option Addr) (c : Nat) (ms : List Sm) : Prop where
  own : w.ownsRow base 76 5 (.slice A ms.length c) ms.length (ms.flatMap Sm.cells)
  ok : ∀ m ∈ ms, SmOk w m
  apart : ∀ m ∈ ms, 0 < m.s.vals.length → ∀ b o, m.A = some ⟨b, o, none⟩ → (Value.slice A ms.length c).ownBlock ≠ some b

theorem OwnSigns.lm {w : World} {base : Nat} {A : Option Addr} {c : Nat} {ms : List Sm} (h : OwnSigns w base A c ms) (per : Int) : LmOk w ⟨per, ms, A, c⟩ := by
  obtain ⟨A1, c1, e1, hc1, hc1m, hA1, hA1n⟩ := own_slice h.own
  injection e1 with e1 e2 e3
  subst e1 e3
  refine ⟨fun k m hk => ?_, hc1, hc1m⟩
  dsimp only at hk ⊢
  have hk' : k < ms.length := (List.getElem?_eq_some_iff.1 hk).1
  cases hA : A with
  | none => have := hA1n hA; omega
  | some ad =>
    obtain ⟨g, rfl, hg0, hg1, hcell⟩ := hA1 ad hA
    exact ⟨g, 0, rfl, hg1, sm_cells_at hcell hk, h.ok m (List.mem_of_getElem? hk)⟩
theorem OwnSigns.below {w w' : World} {base : Nat} {A : Option Addr} {c : Nat} {ms : List Sm} (h : OwnSigns w base A c ms) (hb : Below w.heap.size w w') : OwnSigns w' base A c ms :=
  ⟨ownsRow_of_block h.own (fun g hg => hb.block g (h.own.lt g hg).2), fun m hm => (h.ok m hm).below hb, h.apart⟩

/-- a list that was made, in memory of the call's own -/
def GotListO (w : World) (li : Li) (e : Ending) (w' : World) : Prop := ∃ L : Lm, e = .returned L.val ∧ OwnSigns w' w.heap.size L.A L.cap L.ms ∧ L.li = li ∧ Below w.heap.size w w' ∧ ∀ m ∈ L.ms, ∀ b o, m.A = some ⟨b, o, none⟩ → w.heap.size ≤ b
/-- a list that was made -/
def GotList (w : World) (li : Li) (e : Ending) (w' : World) : Prop := ∃ L : Lm, e = .returned L.val ∧ LmOk w' L ∧ L.li = li ∧ Below w.heap.size w w'
theorem GotListO.got {w : World} {li : Li} {e : Ending} {w' : World} (h : GotListO w li e w') : GotList w li e w' := by
  obtain ⟨L, h1, h2, h3, h4, _⟩ := h
  exact ⟨L, h1, h2.lm L.per, h3, h4⟩

theorem CopyRel.own' {w wr : World} {per : Int} {A A' : Option Addr} {n cap cap' : Nat} {ms : List Sm} {cs : List Sm} (h : CopyRel w wr per A n cap ms n (.slice A' n cap') cs) (x y : Value) :
    OwnSigns ((wr.setCell ⟨w.heap.size + 1, 0, none⟩ x).setCell ⟨w.heap.size + 1, 1, none⟩ y) w.heap.size A' cap' cs := by
  have hsz := h.size
  have hkeep : ∀ g, g ≠ w.heap.size + 1 → ((wr.setCell ⟨w.heap.size + 1, 0, none⟩ x).setCell ⟨w.heap.size + 1, 1, none⟩ y).heap[g]? = wr.heap[g]? := fun g hg => by
    rw [heap_setCell_other _ _ _ _ hg, heap_setCell_other _ _ _ _ hg]
  have hs4 : ((wr.setCell ⟨w.heap.size + 1, 0, none⟩ x).setCell ⟨w.heap.size + 1, 1, none⟩ y).heap.size = wr.heap.size := by simp
  have hl := h.len
  refine ⟨?_, fun m hm => smok_of_blocks (h.ok m hm) (by rw [hs4]; omega) (fun b o e _ => hkeep b (by have := (h.apart m hm b o e).1; omega)), fun m hm _ b o e => by have := (h.apart m hm b o e).2.1; rw [hl]; exact this⟩
  rw [hl]
  have h1 := ownsRow_of_block (w' := ((wr.setCell ⟨w.heap.size + 1, 0, none⟩ x).setCell ⟨w.heap.size + 1, 1, none⟩ y)) h.own (fun g hg => hkeep g (by have := (h.own.lt g hg).1; omega))
  refine ⟨h1.1, ?_⟩
  rcases h1.2 with h2 | ⟨g, cap, cur, h2, h3, h4⟩
  · exact .inl h2
  · exact .inr ⟨g, cap, cur, h2, by omega, h4⟩

set_option maxHeartbeats 3200000 in
set_option maxRecDepth 100000 in
theorem copyO_any (l : Lm) (w : World) (hl : LmOk w l) (hsm : l.ms.length ≤ 1000000) (hvm : ∀ m ∈ l.ms, m.s.vals.length ≤ 1000000) :
    Calls Try.prog 56 #[l.val] w (GotListO w l.li) := by
  have hs := hl.signs
  obtain ⟨per, ms, A, cap⟩ := l
  obtain ⟨-, hlen, hcap⟩ := hl
  dsimp only at hs hlen hcap hsm hvm
  unfold Lm.val Lm.li Lm.signs
  dsimp only
  obtain ⟨n, hn⟩ : ∃ n, n = ms.length := ⟨_, rfl⟩
  rw [← hn] at hlen hsm ⊢
  have hcap' := hcap
  unfold maxLen at hcap'
  have HN := Lib.hid hn
  clear hn
  obtain ⟨iv, hiv, hzv, hsv, hbv⟩ := info_hid infoVa
  obtain ⟨is, his, hzs, hss, hbs⟩ := info_hid infoSg
  go_enter Try.func56, Try.ntmps56
  go_wp2
  go_loopw [4] (fun i wr => ∃ k : Nat, k ≤ n ∧ i = .int .i64 k ∧ Hid (∃ v cs, CopyRel w wr per A n cap ms k v cs)) (fun i _ => n - (intOf i).toNat)
  case atStart =>
    refine ⟨0, Nat.zero_le _, rfl, Lib.hid ⟨.slice none 0 0, [], ?_⟩⟩
    refine ⟨((((Below.refl _ _).alloc (Nat.le_refl _) _).alloc (by simp) _).alloc (by simp; omega) _), by simp, ?_, ?_, ?_, World.ownsRow_nil _ _ _ _, rfl, by simp, by simp, by simp⟩
    · rw [heap_alloc_other _ _ _ (by simp; omega), heap_alloc_other _ _ _ (by simp)]; exact heap_alloc_new _ _
    · rw [heap_alloc_other _ _ _ (by simp)]; have := heap_alloc_new (w.alloc (.cells #[.int .i64 per, .slice A n cap] 24)) (.cells #[.int .i64 0, .slice none 0 0] 24); simpa using this
    · have := heap_alloc_new ((w.alloc (.cells #[.int .i64 per, .slice A n cap] 24)).alloc (.cells #[.int .i64 0, .slice none 0 0] 24)) (.cells #[.int .i64 per, .slice none 0 0] 24); simpa using this
  case round =>
    obtain ⟨k, hk, rfl, hrl⟩ := hrel
    obtain ⟨v, cs, hr⟩ := hrl.out
    have x0 : wr.cell? ⟨w.heap.size, 1, none⟩ = some (.slice A n cap) := cell_of_blk hr.b1 1
    by_cases hlt : k < n
    · have hget : ms[k]? = some (ms[k]'(by have := HN.out; omega)) := List.getElem?_eq_getElem _
      obtain ⟨u, hu⟩ : ∃ u, u = ms[k]'(by have := HN.out; omega) := ⟨_, rfl⟩
      rw [← hu] at hget
      obtain ⟨b, o, hA, hb1, hva, hok⟩ := hs k u hget
      have GET := Lib.hid hget
      have hum := hvm u (List.mem_of_getElem? hget)
      subst hA
      obtain ⟨y0, y1, y2, y3, y4⟩ := hva.below hr.below hb1
      have hsz := hr.size
      have hsb : b < wr.heap.size := by omega
      have HR := Lib.hid hr
      have HOK := Lib.hid hok
      have HUM := Lib.hid hum
      have HSM := Lib.hid hsm
      clear hu hget hva hs hvm hr hok hum hsm hrl
      have hVW := Lib.hid (fun o1 o2 => (((HOK.out.vals.below HR.out.below).below (below_alloc wr o1)).below (below_alloc (wr.alloc o1) o2)))
      go_wp2_with (first
        | (at_builtin; refine wpList_append_src _ rfl (.tmp 21) (.tmp 23) 74 rfl (wr.heap.size + 1) 116 iv (.agg #[.int .i64 0, .string ⟨#[]⟩, .int .i64 0, .int .i64 0]) 4 40 Try.underlying74 hiv.out hzv.out hsv.out hbv.out rfl (by decide) (.slice (some ⟨wr.heap.size + 1, 0, none⟩) 0 0) 0 [] rfl ?own1 u.A u.s.vals.length u.cap (u.s.vals.flatMap Va.cells) rfl ?l1 ?n1 ?c1 va_one ?m1 ?b1 ?s1 u.s.vals.length (Nat.zero_add _).symm ?_))
      case own1 => simpa using own_empty (wr.alloc (.cells #[.string u.s.code, .int .i64 u.s.wide, .int .i64 u.s.high, .bool u.s.even, .slice u.A u.s.vals.length u.cap] 76)) 116 4
      case l1 => exact flat_len (f := Va.cells) (fun _ => rfl) _
      case n1 => exact vals_none HOK.out.vals
      case c1 => exact vals_cells (hVW.out _ _)
      case m1 => have := HUM.out; unfold maxLen; omega
      case b1 => have := HUM.out; omega
      case s1 => simp
      · intro A1 c1 w1 own1 hg1 _
        obtain ⟨sbox, hsbox⟩ : ∃ x, x = Obj.cells #[.string u.s.code, .int .i64 u.s.wide, .int .i64 u.s.high, .bool u.s.even, .slice u.A u.s.vals.length u.cap] 76 := ⟨_, rfl⟩
        rw [← hsbox] at hg1
        have hg1 : ((wr.alloc sbox).alloc (.cells #[] 116)).grownBy w1 (some (wr.heap.size + 1)) := hg1
        have s1 : wr.heap.size + 1 + 1 ≤ w1.heap.size := by have := hg1.size; simpa using this
        have kb : w1.heap[wr.heap.size]? = some (.cells #[.string u.s.code, .int .i64 u.s.wide, .int .i64 u.s.high, .bool u.s.even, .slice u.A u.s.vals.length u.cap] 76 (0, 0)) := by
          rw [hg1.block _ (by simp; omega) (by intro e; injection e with e; omega), heap_alloc_other _ _ _ (by simp), hsbox]; exact heap_alloc_new _ _
        have k3 : w1.heap[w.heap.size + 1 + 1]? = some (.cells #[.int .i64 per, v] 24 (0, 0)) := by
          rw [hg1.block _ (by simp; omega) (by intro e; injection e with e; omega), heap_alloc_other _ _ _ (by simp; omega), heap_alloc_other _ _ _ (by omega)]; exact HR.out.b3
        have q0 := cell_of_blk kb 0
        have q1 := cell_of_blk kb 1
        have q2 := cell_of_blk kb 2
        have q3 := cell_of_blk kb 3
        have q4 := cell_of_blk kb 4
        have q5 := free_of_blk kb 4
        have z1 := cell_of_blk k3 1
        have hne1 : w.heap.size + 1 + 1 ≠ wr.heap.size := by omega
        have hne2 : wr.heap.size ≠ w.heap.size + 1 + 1 := by omega
        have hlt2 : wr.heap.size < w1.heap.size := by omega
        have hlt3 : w.heap.size + 1 + 1 < w1.heap.size := by omega
        have OWN1 := Lib.hid own1
        have HG1 := Lib.hid hg1
        have K3 := Lib.hid k3
        have S1 := Lib.hid s1
        clear own1 hg1 kb k3 hsbox s1
        simp at q0 q1 q2 q3 q4 z1
        go_wp2_with (first
          | (at_builtin; refine wpList_append_src _ rfl (.tmp 27) (.tmp 29) 22 rfl (w.heap.size + 1 + 1 + 1) 76 is (.agg #[.string ⟨#[]⟩, .int .i64 0, .int .i64 0, .bool false, .slice none 0 0]) 5 64 Try.underlying22 his.out hzs.out hss.out hbs.out rfl (by decide) v k (cs.flatMap Sm.cells) rfl ?own2 (some ⟨w1.heap.size, 0, none⟩) 1 1 (Sm.cells ⟨u.s, A1, c1⟩) rfl ?l2 ?n2 ?c2 sm_one ?m2 ?b2 ?s2 (k + 1) rfl ?_))
        case own2 => exact ownsRow_of_block HR.out.own (fun g hg => by
          have := HR.out.own.lt g hg
          rw [heap_alloc_other _ _ _ (by have := S1.out; simp; omega), heap_setCell_other _ _ _ _ (by dsimp only; omega), HG1.out.block g (by simp; omega) (by intro e; injection e with e; omega), heap_alloc_other _ _ _ (by simp; omega), heap_alloc_other _ _ _ (by omega)])
        case l2 => rfl
        case n2 => intro h; cases h
        case c2 =>
          intro ad had j u' hj
          injection had with had
          subst had
          have := new_cells (w1.setCell ⟨wr.heap.size, 4, none⟩ (.slice A1 u.s.vals.length c1)) (Sm.cells ⟨u.s, A1, c1⟩) 76 j u' hj
          simpa [Sm.cells] using this
        case m2 => have := HSM.out; unfold maxLen; omega
        case b2 => have := HSM.out; omega
        case s2 => have := S1.out; simp; omega
        · intro A2 c2 w3 own2 hg2 hat
          have k3 : w3.heap[w.heap.size + 1 + 1]? = some (.cells #[.int .i64 per, v] 24 (0, 0)) := by
            rw [hg2.block _ (by have := S1.out; simp; omega) (fun e => by have := (HR.out.own.lt _ e.symm).1; omega), heap_alloc_other _ _ _ (by have := S1.out; simp; omega), heap_setCell_other _ _ _ _ (by dsimp only; omega)]; exact K3.out
          have p1 := cell_of_blk k3 1
          have p2 := free_of_blk k3 1
          simp at p1
          have STEP := Lib.hid (CopyRel.step HR.out GET.out HOK.out OWN1.out HG1.out own2 hg2 (by simpa using hat))
          clear own2 hg2 hat k3 q0 q1 q2 q3 q4 q5 z1 y0 y1 y2 y3 y4 x0
          go_wp2
          go_roundw
          case rel => exact ⟨k + 1, by omega, by go_num, Lib.hid ⟨_, _, STEP.out⟩⟩
          case measure => simp [intOf]; omega
    · obtain rfl : k = n := by omega
      have m0 := cell_of_blk hr.b3 0
      have m1 := cell_of_blk hr.b3 1
      have r0 := cell_of_blk hr.b2 0
      have r1 := cell_of_blk hr.b2 1
      have f0 := free_of_blk hr.b2 0
      have f1 := free_of_blk hr.b2 1
      simp at m0 m1 r0 r1
      have HR := Lib.hid hr
      obtain ⟨A', cap', hv', -, -, -, -⟩ := own_slice hr.own
      subst hv'
      clear hr hrl
      have HD := Lib.hid (CopyRel.done HR.out HN.out (.int .i64 per) (.slice A' k cap'))
      have HL := Lib.hid HR.out.len
      have HO := Lib.hid (CopyRel.own' HR.out (.int .i64 per) (.slice A' k cap'))
      have HLW := Lib.hid (fun m (hm : m ∈ cs) b o e => show w.heap.size ≤ b by have := (HR.out.apart m hm b o e).1; omega)
      go_wp2
      refine bodyPost_ret (v := .agg #[.int .i64 per, .slice A' k cap']) (by simp [results, Try.results56, go_sem, r0, r1]) rfl ⟨⟨per, cs, A', cap'⟩, ?_, HO.out, HD.out.2.1, HD.out.2.2, HLW.out⟩
      unfold Lm.val; dsimp only; rw [HL.out]
theorem copy_any (l : Lm) (w : World) (hl : LmOk w l) (hsm : l.ms.length ≤ 1000000) (hvm : ∀ m ∈ l.ms, m.s.vals.length ≤ 1000000) : Calls Try.prog 56 #[l.val] w (GotList w l.li) :=
  (copyO_any l w hl hsm hvm).mono fun _ _ h => h.got

end Go.Proofs.Ytbfedahonfjpfaa
