/-
  Lines, program and specification: the answer read off.
-/
import Derived.Test.YtcijomljopbelaaGreatGLns
import Derived.Test.YtcijomljopbelaaGreatRLns
import Derived.Test.YtcijomljopbelaaGreatGbA
namespace Go.Proofs.YtcijomljopbelaaGreat
open Go.RowKit

theorem glines_any (L : Lm) (A : Option Addr) (cap : Nat) (ns : List Nd) (way len : Int) (w : World) (hl : LmOk w L) (hn : NdsAt w A ns) (hc1 : ns.length ≤ cap) (hc : cap ≤ maxLen) :
    Calls Tryz.prog 23 #[.agg #[.int .i64 L.per, .slice L.A L.ms.length L.cap], .agg #[.slice A ns.length cap], .agg #[.int .i64 way, .int .i64 len]] w (GotLnE (lnsQ L.li way len ns) w) := by
  unfold lnsQ
  by_cases h : bothE L.li ns way len = 0
  · rw [if_neg (by omega)]
    obtain ⟨hT, hP⟩ := both_ok h
    exact glinesK_any L A cap ns _ way len w hl hn hc1 hc hT (by rw [plainT_is hT]) hP
  · rw [if_pos h]
    exact glinesE_any L A cap ns way len w hl hn hc1 hc _ h rfl
theorem lnsQ_small (l : Li) (way len : Int) (ns : List Nd) : (lnsQ l way len ns).1.length ≤ 1000 ∧ ∀ q ∈ (lnsQ l way len ns).1, q.length ≤ 1000000 := by
  unfold lnsQ
  by_cases h : bothE l ns way len = 0
  · rw [if_neg (by omega)]
    obtain ⟨hT, hP⟩ := both_ok h
    have hp := plain_pln hT (show regQ plainP l ns = ((regQ plainP l ns).1, 0) by rw [plainT_is hT])
    obtain ⟨zs, hzs⟩ : ∃ zs, zs = (regQ plainP l ns).1 := ⟨_, rfl⟩
    rw [← hzs] at hp ⊢
    have hB : ∀ s ∈ shpsI l (cwN way) zs, szB s := fun s hs => (shps_good (cwN way) hp s hs).szB
    have hz200 := (text_ok hp.ok).2.1
    have hM2 : (shpsI l (cwN way) zs).length ≤ 200 := by
      have hkl : (shpsI l (cwN way) zs).length = (topsL zs).length := by unfold shpsI; rw [List.length_map]
      have h1 : (topsL zs).length ≤ zs.length := by
        unfold topsL
        refine Nat.le_trans (List.length_filter_le _ _) ?_
        rw [List.length_range]; exact Nat.le_refl _
      omega
    have h2 := lnL_small (lnF (cwN way) len (shpsI l (cwN way) zs)) (shpsI l (cwN way) zs).length (fun j hj => (lnF_ok hB j hj).2)
    exact ⟨by show (lnL _ _).length ≤ 1000; omega, fun q hq => by have := h2.2 q hq; omega⟩
  · rw [if_pos h]
    exact ⟨Nat.zero_le _, fun q hq => by cases hq⟩

/-- a row of rows of numbers, as it is read -/
def LnAt (w : World) (A : Option Addr) (ls : List (List Nat)) : Prop := ∀ k l, ls[k]? = some l → ∃ G Ax c, A = some ⟨G, 0, none⟩ ∧ G < w.heap.size ∧ w.cell? ⟨G, k, none⟩ = some (.slice Ax l.length c) ∧ IntsIn w Ax (l.map fun (n : Nat) => (n : Int))
theorem LnAt.below {w w' : World} {A : Option Addr} {ls : List (List Nat)} (h : LnAt w A ls) (hb : Below w.heap.size w w') : LnAt w' A ls := fun k l hk => by
  obtain ⟨G, Ax, c, e, hG, hc, hi⟩ := h k l hk
  exact ⟨G, Ax, c, e, Nat.lt_of_lt_of_le hG hb.size, (hb.cell (p := ⟨G, k, none⟩) hG).trans hc, hi.below hb⟩
theorem LnOwn.at {w : World} {base n c : Nat} {A : Option Addr} {ls : List (List Nat)} {vs : List Value} (h : LnOwn w base (.slice A n c) ls vs) : LnAt w A ls := fun k l hk => by
  have hlen := h.len
  have hkl := (List.getElem?_eq_some_iff.1 hk).1
  have hn : n = ls.length := by
    obtain ⟨A2, c2, hv, -⟩ := own_slice h.own
    injection hv
  subst hn
  obtain ⟨G, rfl, -, hG, -, -, hcell, -⟩ := own_open h.own (by omega)
  obtain ⟨x, hx⟩ : ∃ x, vs[k]? = some x := ⟨_, List.getElem?_eq_getElem (by omega)⟩
  have hi := h.inn k l x hk hx
  obtain ⟨Ax, cx, rfl, -⟩ := own_slice hi
  refine ⟨G, Ax, cx, rfl, hG, hcell k _ hx, own_ints (l := l.map fun (n : Nat) => (n : Int)) (n := l.length) (c := cx) (base := base) ?_⟩
  have e : intsZ (l.map fun (n : Nat) => (n : Int)) = intsV l := by unfold intsZ intsV; rw [List.map_map]; rfl
  rw [e]; exact hi
def GotLnX (w : World) (ls : List (List Nat)) (er : Int) (e : Ending) (w' : World) : Prop :=
  ∃ A k c, e = .returned (.tuple #[.slice A k c, .int .i64 er]) ∧ Hid (k = ls.length) ∧ Hid (LnAt w' A ls) ∧ Below w.heap.size w w'
theorem GotLnE.x {w : World} {q : List (List Nat) × Int} {e : Ending} {w' : World} (h : GotLnE q w e w') : GotLnX w q.1 q.2 e w' := by
  obtain ⟨A, c, vs, rfl, h1, h2⟩ := h
  exact ⟨A, _, c, rfl, Lib.hid rfl, Lib.hid h1.out.at, h2⟩

end Go.Proofs.YtcijomljopbelaaGreat
