/-
  Stretches in a row of the call's own, each with a row of its own (layer 9).
-/
import Derived.Test.YtcpfhaoecggflaaZAdd
namespace Go.Proofs.Ytcpfhaoecggflaa
open Go.RowKit

structure Sr where
  s : St
  A : Option Addr
  c : Nat
def Sr.val (r : Sr) : Value := .slice r.A r.s.sg.length r.c
def Sr.cells (r : Sr) : List Value := [.int .i64 r.s.at', .int .i64 r.s.ext, r.val]
/-- the row of stretches -/
structure OwnSt (w : World) (base : Nat) (v : Value) (rs : List Sr) : Prop where
  own : w.ownsRow base 98 3 v rs.length (rs.flatMap Sr.cells)
  ok : ∀ r ∈ rs, w.ownsRow base 3 1 r.val r.s.sg.length (intsZ r.s.sg) ∧ ∀ k, r.val.ownBlock = some k → v.ownBlock ≠ some k
  apart : rs.Pairwise fun r q => ∀ k, r.val.ownBlock = some k → q.val.ownBlock ≠ some k
theorem OwnSt.nil (w : World) (base : Nat) : OwnSt w base (.slice none 0 0) [] := ⟨by simpa using World.ownsRow_nil _ _ _ _, (fun r h => by cases h), List.Pairwise.nil⟩
theorem OwnSt.below {w w' : World} {base : Nat} {v : Value} {rs : List Sr} (h : OwnSt w base v rs) (hb : Below w.heap.size w w') : OwnSt w' base v rs :=
  ⟨own_below h.own hb, fun r hr => ⟨own_below (h.ok r hr).1 hb, (h.ok r hr).2⟩, h.apart⟩
/-- one more -/
theorem OwnSt.snoc {w w' : World} {base n : Nat} {v v' : Value} {rs : List Sr} {at' : Nat} (h : OwnSt w base v rs) (hn : n = rs.length + 1) (hg : w.grownBy w' v.ownBlock) (hv : v'.ownBlock = v.ownBlock ∨ v'.ownBlock = some w.heap.size)
    (hown : w'.ownsRow base 98 3 v' n (rs.flatMap Sr.cells ++ [.int .i64 at', .int .i64 0, .slice none 0 0])) : OwnSt w' base v' (rs ++ [⟨⟨at', 0, []⟩, none, 0⟩]) := by
  subst hn
  refine ⟨by rw [List.length_append, List.flatMap_append]; exact hown, fun r hr => ?_, ?_⟩
  · rcases List.mem_append.1 hr with hr | hr
    · obtain ⟨h1, h2⟩ := h.ok r hr
      refine ⟨ownsRow_of_block h1 fun k hk => hg.block k (h1.lt k hk).2 fun e => h2 k hk e.symm, fun k hk e => ?_⟩
      rcases hv with hv | hv
      · rw [hv] at e; exact h2 k hk e
      · rw [hv] at e; injection e with e; have := (h1.lt k hk).2; omega
    · simp at hr; subst hr
      exact ⟨World.ownsRow_nil _ _ _ _, fun k hk => by cases hk⟩
  · rw [List.pairwise_append]
    refine ⟨h.apart, by simp, fun r _ q hq k _ e => ?_⟩
    simp at hq; subst hq; cases e
theorem cells3 (r : Sr) : r.cells.length = 3 := rfl
/-- the last one as its block has it -/
theorem OwnSt.last {w : World} {base g n c : Nat} {rs : List Sr} {r : Sr} (h : OwnSt w base (.slice (some ⟨g, 0, none⟩) n c) (rs ++ [r])) :
    n = rs.length + 1 ∧ base ≤ g ∧ ∃ cur, w.heap[g]? = some (.cells cur 98 (0, 0)) ∧ cur.size = c * 3 ∧ n ≤ c ∧ c ≤ maxLen ∧ cur.toList.take (n * 3) = (rs ++ [r]).flatMap Sr.cells ∧ StIn cur (rs.length * 3) r.s.at' r.s.ext r.s.sg r.A r.c := by
  rcases h.own.2 with ⟨e, _⟩ | ⟨g', cap', cur, e, hb, hg, hn, hc, hs, htk⟩
  · cases e
  · injection e with e1 e2 e3
    injection e1 with e1; injection e1 with e1
    subst e1 e2 e3
    have hat : ∀ j, j < 3 → cur[rs.length * 3 + j]? = r.cells[j]? := fun j hj => by
      have h1 : (rs ++ [r])[rs.length]? = some r := by simp
      have h2 := flat_at (f := Sr.cells) (c := 3) cells3 (rs ++ [r]) rs.length r h1 j hj
      rw [← htk, List.getElem?_take_of_lt (by simp; omega)] at h2
      simpa using h2
    refine ⟨by simp, hb, cur, hg, hs, hn, hc, htk, ?_, ?_, ?_⟩
    · have := hat 0 (by omega); exact this
    · have := hat 1 (by omega); exact this
    · have := hat 2 (by omega); exact this
/-- a pair added to the last one -/
theorem OwnSt.add {w w' : World} {base g n c : Nat} {rs : List Sr} {r : Sr} {s : St} {cur cur' : Array Value} {A' : Option Addr} {c' : Nat} (h : OwnSt w base (.slice (some ⟨g, 0, none⟩) n c) (rs ++ [r]))
    (hcur : w.heap[g]? = some (.cells cur 98 (0, 0))) (hq : AddQ w w' base g (rs.length * 3) cur s r.A r.c cur' A' c' r.val) : OwnSt w' base (.slice (some ⟨g, 0, none⟩) n c) (rs ++ [⟨s, A', c'⟩]) := by
  obtain ⟨hn, hb, cur0, h1, h2, h3, h4, h5, h6⟩ := h.last
  rw [hcur] at h1
  injection h1 with h1; injection h1 with h1
  subst h1
  have hgw : g < w.heap.size := (Array.getElem?_eq_some_iff.1 hcur).1
  have hr := h.ok r (by simp)
  have hlen : ((rs ++ [r]).flatMap Sr.cells).length = n * 3 := by rw [flat_len (c := 3) cells3]; simp [hn]
  refine ⟨?_, fun q hqm => ?_, ?_⟩
  · have hl2 : ((rs ++ [(⟨s, A', c'⟩ : Sr)]).flatMap Sr.cells).length = n * 3 := by rw [flat_len (c := 3) cells3]; simp [hn]
    rw [show (rs ++ [(⟨s, A', c'⟩ : Sr)]).length = n by simp [hn]]
    refine ⟨hl2, .inr ⟨g, c, cur', rfl, hb, hq.blk, h3, h4, by rw [hq.size]; exact h2, ?_⟩⟩
    apply List.ext_getElem?
    intro j
    by_cases hj : j < n * 3
    · rw [List.getElem?_take_of_lt hj]
      have e0 : cur'.toList[j]? = cur'[j]? := by simp
      rw [e0]
      have hk3 : ∀ t, t < 3 → ((rs ++ [(⟨s, A', c'⟩ : Sr)]).flatMap Sr.cells)[rs.length * 3 + t]? = (Sr.cells ⟨s, A', c'⟩)[t]? := fun t ht => flat_at (f := Sr.cells) (c := 3) cells3 _ rs.length _ (by simp) t ht
      by_cases hjr : j < rs.length * 3
      · rw [hq.rest j (by omega) (by omega)]
        have : cur.toList[j]? = ((rs ++ [r]).flatMap Sr.cells)[j]? := by rw [← h5, List.getElem?_take_of_lt hj]
        rw [List.flatMap_append, List.getElem?_append_left (by rw [flat_len (c := 3) cells3]; exact hjr)] at this ⊢
        rw [← this]; simp
      · have : j = rs.length * 3 + 0 ∨ j = rs.length * 3 + 1 ∨ j = rs.length * 3 + 2 := by omega
        rcases this with rfl | rfl | rfl
        · rw [hk3 0 (by omega)]; exact hq.st.c0
        · rw [hk3 1 (by omega)]; exact hq.st.c1
        · rw [hk3 2 (by omega)]; exact hq.st.c2
    · rw [List.getElem?_eq_none (by simp; omega), List.getElem?_eq_none (by omega)]
  · rcases List.mem_append.1 hqm with hqm | hqm
    · obtain ⟨k1, k2⟩ := h.ok q (by simp [hqm])
      have hap := (List.pairwise_append.1 h.apart).2.2 q hqm r (by simp)
      exact ⟨ownsRow_of_block k1 fun k hk => hq.keep k (k1.lt k hk).2 (fun e => k2 k hk (by rw [e]; rfl)) (fun e => hap k hk e.symm), k2⟩
    · simp at hqm; subst hqm
      refine ⟨hq.own, fun k hk e => ?_⟩
      have e : some g = some k := e
      injection e with e
      subst e
      rcases hq.at_ with h | ⟨m, h, hm⟩
      · have : r.val.ownBlock = some g := by rw [← h]; exact hk
        exact hr.2 g this rfl
      · have hk : (Value.slice A' s.sg.length c').ownBlock = some g := hk
        rw [h] at hk; injection hk with hk; omega
  · have hap := List.pairwise_append.1 h.apart
    rw [List.pairwise_append]
    refine ⟨hap.1, by simp, fun q hqm t ht k hk e => ?_⟩
    simp at ht; subst ht
    have e : (Value.slice A' s.sg.length c').ownBlock = some k := e
    rcases hq.at_ with h1 | ⟨m, h1, hm⟩
    · exact hap.2.2 q hqm r (by simp) k hk (by rw [← h1]; exact e)
    · rw [h1] at e; injection e with e
      have := ((h.ok q (by simp [hqm])).1.lt k hk).2
      omega

/-- whatever pair is added -/
theorem add_any (base g off : Nat) (cur : Array Value) (at' ext : Nat) (sg : List Int) (A : Option Addr) (c : Nat) (x y : Int) (B : Option Addr) (cb la : Nat) (b : List Int) (w : World)
    (hg : w.heap[g]? = some (.cells cur 98 (0, 0))) (hst : StIn cur off at' ext sg A c) (hown : w.ownsRow base 3 1 (.slice A sg.length c) sg.length (intsZ sg)) (hext : ext ≤ 1000) (hsg : sg.length ≤ 1000) (hbg : base ≤ g) (hbw : base ≤ w.heap.size) (hne : ∀ k, (Value.slice A sg.length c).ownBlock = some k → k ≠ g) (hB : IntsIn w B b) (hBk : ∀ k o, 0 < b.length → B = some ⟨k, o, none⟩ → k < base) (hp : okP la b.length (x, y)) :
    Calls Try.prog 89 #[.pointer (some ⟨g, off, none⟩), .agg #[.int .i64 x, .int .i64 y], .slice B b.length cb] w (GotAdd w base g off cur (St.add b ⟨at', ext, sg⟩ (x, y)) A c (.slice A sg.length c)) := by
  obtain ⟨h1, h2, h3⟩ := hp
  dsimp only at h1 h2 h3
  rcases h2 with rfl | ⟨h2, h2'⟩
  · rcases h1 with rfl | ⟨h1, -⟩
    · exact absurd ⟨rfl, rfl⟩ h3
    · obtain ⟨x', rfl⟩ := Int.eq_ofNat_of_zero_le h1
      exact addL_any base g off cur at' ext sg A c x' B b.length cb b w hg hst hown hext hbg hbw hne
  · obtain ⟨y', rfl⟩ := Int.eq_ofNat_of_zero_le h2
    have hy : y' < b.length := by omega
    rcases h1 with rfl | ⟨h1, -⟩
    · exact addR_any base g off cur at' ext sg A c 0 y' B cb b w hg hst hown hext hsg hbg hbw hne hB (fun k o e => hBk k o (by omega) e) hy
    · obtain ⟨x', rfl⟩ := Int.eq_ofNat_of_zero_le h1
      exact addB_any base g off cur at' ext sg A c x' y' B cb b w hg hst hown hext hsg hbg hbw hne hB (fun k o e => hBk k o (by omega) e) hy

end Go.Proofs.Ytcpfhaoecggflaa
