/-
  The line of a text (line).
-/
import Derived.Test.YtbfedahonfjpfaaGLev
namespace Go.Proofs.Ytbfedahonfjpfaa
open Go.RowKit

structure Mk where
  sign : Int
  state : Int
  min : Int
  max : Int
def Mk.cells (m : Mk) : List Value := [.int .i64 m.sign, .int .i64 m.state, .int .i64 m.min, .int .i64 m.max]
def markR (u : Nd) : Mk := if u.kind = 6 then ⟨-1, 0, u.min, u.max⟩ else ⟨u.sign, u.state, 0, 0⟩
def lineP (p : Nat × List Nd) : List Mk := (pickN p.2 (leavesF p.2 5 0)).map markR
def lineR (ns : List Nd) : List Mk := (partsW 0 ns).flatMap lineP
/-- what a text must have for its groups to be read -/
def LinOk (ns : List Nd) : Prop := ∀ p ∈ partsW 0 ns, VisOk p.2
theorem markV_is (u : Nd) : markV u.kind u.sign u.state u.min u.max = .agg #[.int .i64 (markR u).sign, .int .i64 (markR u).state, .int .i64 (markR u).min, .int .i64 (markR u).max] := by
  unfold markV markR; split <;> rfl
theorem mk_one (m : Mk) : ∀ u ∈ m.cells, u.oneCell' = true := fun u hu => by
  simp [Mk.cells] at hu
  rcases hu with rfl | rfl | rfl | rfl <;> rfl
theorem infoMk : (Try.prog.info? 69).map (fun i => (i.zero, i.size, i.bytes)) = some (some (.agg #[.int .i64 0, .int .i64 0, .int .i64 0, .int .i64 0]), 4, 32) := by kernel_rfl
theorem partsW_pos : ∀ (n o : Nat) (l : List Nd), l.length ≤ n → ∀ p ∈ partsW o l, 0 < p.2.length ∧ p.2.length ≤ l.length := by
  intro n
  induction n with
  | zero => intro o l hl p hp; rw [List.eq_nil_of_length_eq_zero (by omega : l.length = 0), partsW_nil] at hp; cases hp
  | succ n ih =>
    intro o l hl p hp
    cases l with
    | nil => rw [partsW_nil] at hp; cases hp
    | cons u r =>
      rw [partsW_cons] at hp
      rcases List.mem_cons.1 hp with rfl | hp
      · constructor
        · rw [List.length_take]; simp; omega
        · rw [List.length_take]; omega
      · have := ih _ _ (by simp at hl ⊢; omega) p hp
        simp only [List.length_drop] at this
        exact ⟨this.1, by omega⟩
theorem own_nodes {w : World} {base : Nat} {A : Option Addr} {n c : Nat} {l : List Nd} (h : w.ownsRow base 78 8 (.slice A n c) n (l.flatMap Nd.cells)) : NdsAt w A l := fun k x hk => by
  obtain ⟨A2, c2, hv, -, -, h3, h4⟩ := own_slice h
  injection hv with e1 e2 e3
  subst e1 e3
  have hlen : l.length = n := by
    have h1 := h.1
    have : (l.flatMap Nd.cells).length = l.length * 8 := flat_len (f := Nd.cells) (fun _ => rfl) _
    omega
  cases A with
  | none => have := h4 rfl; have := (List.getElem?_eq_some_iff.1 hk).1; omega
  | some ad =>
    obtain ⟨g, rfl, _, hg, hc⟩ := h3 ad rfl
    have ha : ∀ i, i < 8 → w.cell? ⟨g, k * 8 + i, none⟩ = (Nd.cells x)[i]? := fun i hi => by
      have hi' : i < (Nd.cells x).length := hi
      rw [hc (k * 8 + i) ((Nd.cells x)[i]) (by rw [flat_at (c := 8) (fun _ => rfl) _ _ _ hk i hi]; exact List.getElem?_eq_getElem hi'), List.getElem?_eq_getElem hi']
    refine ⟨g, 0, rfl, hg, ?_⟩
    rw [Nat.zero_add]
    exact ⟨ha 0 (by omega), ha 1 (by omega), ha 2 (by omega), ha 3 (by omega), ha 4 (by omega), ha 5 (by omega), ha 6 (by omega), ha 7 (by omega)⟩
theorem row_parts {w : World} {base : Nat} {A : Option Addr} {n c : Nat} {l : List Value} (h : w.ownsRow base 25 1 (.slice A n c) n l) : ∀ k v, l[k]? = some v → ∃ g, A = some ⟨g, 0, none⟩ ∧ base ≤ g ∧ g < w.heap.size ∧ w.cell? ⟨g, k, none⟩ = some v := fun k v hk => by
  obtain ⟨A2, c2, hv, -, -, h3, h4⟩ := own_slice h
  injection hv with e1 e2 e3
  subst e1 e3
  have hlen : l.length = n := by have := h.1; omega
  cases A with
  | none => have := h4 rfl; have := (List.getElem?_eq_some_iff.1 hk).1; omega
  | some ad =>
    obtain ⟨g, rfl, hb, hg, hc⟩ := h3 ad rfl
    exact ⟨g, rfl, hb, hg, hc k v hk⟩
/-- an own row, appended to behind new memory -/
theorem keeps_append {bf : Nat} {v v' : Value} {w wq w1 : World} {blk : Obj} (hb : Below w.heap.size w wq) (hg : (wq.alloc blk).grownBy w1 v.ownBlock) (hat : v'.ownBlock = v.ownBlock ∨ v'.ownBlock = some (wq.heap.size + 1)) : VKeeps bf v w v' w1 where
  os := hg.os.trans hb.os
  tape := hg.tape.trans hb.tape
  output := hg.output.trans hb.output
  size := by have := hg.size; have := hb.size; rw [World.size_alloc] at *; omega
  block := fun k hk _ hne => by
    have := hb.size
    rw [hg.block k (by rw [World.size_alloc]; omega) (fun e => hne e.symm), heap_alloc_other _ _ _ (by omega), hb.block k hk]
  row := by
    rcases hat with h | h
    · exact .inl h
    · exact .inr ⟨_, h, by have := hb.size; omega⟩

/-- the marks so far, while the leaves of a group are gone through -/
structure Marks (w0 w : World) (v : Value) (ms : List Mk) (L : Option Addr) (l : List Nd) : Prop where
  below : Below w0.heap.size w0 w
  own : w.ownsRow w0.heap.size 69 4 v ms.length (ms.flatMap Mk.cells)
  nds : NdsAt w L l
  ne : ∀ b o, L = some ⟨b, o, none⟩ → 0 < l.length → v.ownBlock ≠ some b
theorem Marks.below_ {w0 w w' : World} {v : Value} {ms : List Mk} {L : Option Addr} {l : List Nd} (h : Marks w0 w v ms L l) (hb : Below w.heap.size w w') : Marks w0 w' v ms L l :=
  ⟨below_more h.below hb, ownsRow_of_block h.own (fun g hg => hb.block g (h.own.lt g hg).2), h.nds.below hb, h.ne⟩
theorem Marks.append {w0 w w1 : World} {v v' : Value} {ms : List Mk} {m : Mk} {L : Option Addr} {l : List Nd} {blk : Obj} (h : Marks w0 w v ms L l)
    (hown : w1.ownsRow w0.heap.size 69 4 v' (ms.length + 1) (ms.flatMap Mk.cells ++ m.cells)) (hg : (w.alloc blk).grownBy w1 v.ownBlock) (hat : v'.ownBlock = v.ownBlock ∨ v'.ownBlock = some (w.heap.size + 1)) :
    Marks w0 w1 v' (ms ++ [m]) L l := by
  have hs : w.heap.size + 1 ≤ w1.heap.size := by have := hg.size; rw [World.size_alloc] at this; exact this
  have hs0 := h.below.size
  refine ⟨((h.below.alloc hs0 blk).grown hg (by rw [World.size_alloc]; omega) (fun g hg => (h.own.lt g hg).1)), ?_, fun k x hk => ?_, fun b o e h0 => ?_⟩
  · have e : (ms ++ [m]).length = ms.length + 1 := by simp
    rw [e, List.flatMap_append]
    simpa using hown
  · obtain ⟨b, o, e, hlt, hv⟩ := h.nds k x hk
    have hne := h.ne b o e (by have := (List.getElem?_eq_some_iff.1 hk).1; omega)
    have hbk : w1.heap[b]? = w.heap[b]? := by rw [hg.block b (by rw [World.size_alloc]; omega) (fun e2 => hne e2.symm), heap_alloc_other _ _ _ hlt]
    have hc : ∀ q, w1.cell? ⟨b, q, none⟩ = w.cell? ⟨b, q, none⟩ := fun q => World.cell?_of_block (a := ⟨b, q, none⟩) hbk
    exact ⟨b, o, e, by omega, ⟨(hc _).trans hv.c0, (hc _).trans hv.c1, (hc _).trans hv.c2, (hc _).trans hv.c3, (hc _).trans hv.c4, (hc _).trans hv.c5, (hc _).trans hv.c6, (hc _).trans hv.c7⟩⟩
  · have hne := h.ne b o e h0
    rcases hat with hat | hat
    · rw [hat]; exact hne
    · rw [hat]
      obtain ⟨x, hx⟩ : ∃ x, l[0]? = some x := ⟨_, List.getElem?_eq_getElem h0⟩
      obtain ⟨b', o', e', hlt, _⟩ := h.nds 0 x hx
      rw [e] at e'; injection e' with e'; injection e' with e' _
      intro e2; injection e2 with e2; omega

theorem partsW_sub : ∀ (n o : Nat) (l : List Nd), l.length ≤ n → ∀ p ∈ partsW o l, ∃ q, p.1 = o + q ∧ p.2 = (l.drop q).take p.2.length := by
  intro n
  induction n with
  | zero => intro o l hl p hp; rw [List.eq_nil_of_length_eq_zero (by omega : l.length = 0), partsW_nil] at hp; cases hp
  | succ n ih =>
    intro o l hl p hp
    cases l with
    | nil => rw [partsW_nil] at hp; cases hp
    | cons u r =>
      rw [partsW_cons] at hp
      rcases List.mem_cons.1 hp with rfl | hp
      · refine ⟨0, rfl, ?_⟩
        rw [List.drop_zero, List.length_take, List.take_eq_take_iff]
        omega
      · obtain ⟨q, h1, h2⟩ := ih _ _ (by simp at hl ⊢; omega) p hp
        refine ⟨1 + spanN (u :: r) u.depth 0 + q, by omega, ?_⟩
        rw [List.drop_drop] at h2
        exact h2
theorem partsW_len : ∀ (n o : Nat) (l : List Nd), l.length ≤ n → (partsW o l).length ≤ l.length := by
  intro n
  induction n with
  | zero => intro o l hl; rw [List.eq_nil_of_length_eq_zero (by omega : l.length = 0), partsW_nil]; simp
  | succ n ih =>
    intro o l hl
    cases l with
    | nil => rw [partsW_nil]; simp
    | cons u r =>
      rw [partsW_cons]
      have := ih (o + (1 + spanN (u :: r) u.depth 0)) ((u :: r).drop (1 + spanN (u :: r) u.depth 0)) (by simp at hl ⊢; omega)
      simp only [List.length_cons, List.length_drop] at this ⊢
      omega
theorem lineP_len {p : Nat × List Nd} (h : VisOk p.2) : (lineP p).length ≤ 7776 := by
  unfold lineP pickN
  rw [List.length_map, List.length_map]
  have := leavesF_len h 5 0
  rw [pow_five] at this; exact this

theorem markOf_is (u : Nd) (w : World) : Calls Try.prog 100 #[.agg #[.int .i64 u.kind, .int .i64 u.depth, .int .i64 u.sign, .int .i64 u.turn, .bool u.mirror, .int .i64 u.state, .int .i64 u.min, .int .i64 u.max]] w fun e w' => e = .returned (.agg #[.int .i64 (markR u).sign, .int .i64 (markR u).state, .int .i64 (markR u).min, .int .i64 (markR u).max]) ∧ Below w.heap.size w w' := by
  rw [← markV_is]; exact markOf_any u w

set_option maxRecDepth 100000 in
set_option maxHeartbeats 8000000 in
theorem line_any (A : Option Addr) (cap : Nat) (ns : List Nd) (hok : LinOk ns) (hl : ns.length ≤ cap) (hc : cap ≤ maxLen) (hsm : ns.length ≤ 250) (w : World) (hns : NdsAt w A ns) :
    Calls Try.prog 68 #[.agg #[.slice A ns.length cap]] w (GotRow w 69 4 (lineR ns).length ((lineR ns).flatMap Mk.cells)) := by
  obtain ⟨iv, hiv, hzv, hsv, hbv⟩ := info_hid infoMk
  have HSP := Lib.hid (fun wx (hb : Below w.heap.size w wx) => split_any A cap ns wx (hns.below hb) hl hc (by omega))
  have HNS := Lib.hid hns
  have HOK := Lib.hid hok
  have HPP := Lib.hid (partsW_pos ns.length 0 ns (Nat.le_refl _))
  have hlen := hsm
  obtain ⟨N, hN⟩ : ∃ N, N = ns.length := ⟨_, rfl⟩
  rw [← hN] at HSP hl ⊢
  clear hns hok hN hsm
  have HB0 := Lib.hid (below_alloc w (.cells #[.slice A N cap] 27))
  go_enter Try.func68, Try.ntmps68
  go_wp2_with fail
  refine (HSP.out _ HB0.out).mono ?_; rintro e w1 ⟨Ap, cp, rfl, hown, hb⟩
  have HB1 := Lib.hid (below_more HB0.out hb)
  have HRP := Lib.hid (row_parts hown)
  have HOL := Lib.hid (own_len hown)
  clear hown hb HSP HB0
  obtain ⟨n, hn⟩ : ∃ n, n = (partsW 0 ns).length := ⟨_, rfl⟩
  have HN := Lib.hid hn
  rw [← hn] at HOL ⊢
  have hcp := HOL.out.1
  have hmp := HOL.out.2.1
  unfold maxLen at hmp
  clear hn
  have HPS := Lib.hid (partsW_sub ns.length 0 ns (Nat.le_refl _))
  have hnl : n ≤ 250 := by rw [HN.out]; have := partsW_len ns.length 0 ns (Nat.le_refl _); omega
  obtain ⟨ps, hps⟩ : ∃ ps, ps = partsW 0 ns := ⟨_, rfl⟩
  have HLR := Lib.hid (show lineR ns = ps.flatMap lineP by rw [hps]; rfl)
  unfold LinOk at HOK
  rw [← hps] at HPS HOK HRP HN HPP
  clear hps
  go_wp2_with fail
  go_loopw [3, 12] (fun v i wr => ∃ (k c : Nat), k ≤ n ∧ c ≤ k * 7776 ∧ i = .int .i64 k ∧ Hid (c = ((ps.take k).flatMap lineP).length) ∧ Hid (wr.ownsRow w1.heap.size 69 4 v c (((ps.take k).flatMap lineP).flatMap Mk.cells)) ∧ Hid (Below w1.heap.size w1 wr)) (fun _ i _ => n - (intOf i).toNat)
  case atStart => exact ⟨0, 0, Nat.zero_le _, Nat.le_refl _, rfl, Lib.hid rfl, Lib.hid (World.ownsRow_nil _ _ _ _), Lib.hid (Below.refl _ _)⟩
  case round =>
    obtain ⟨k, c, hk, hck, rfl, hcl, hown, hbw⟩ := hrel
    have HBW := Lib.hid hbw.out
    have HCL := Lib.hid hcl.out
    have HOW := Lib.hid hown.out
    clear hcl hown hbw
    by_cases hlt : k < n
    · obtain ⟨p, hp⟩ : ∃ p, ps[k]? = some p := ⟨_, List.getElem?_eq_getElem (by have := HN.out; omega)⟩
      obtain ⟨g, hAp, hg1, hg2, hgc⟩ := HRP.out k (partV A p) (by unfold partsV; rw [List.getElem?_map, hp]; rfl)
      subst hAp
      have hpm := List.mem_of_getElem? hp
      obtain ⟨hp0, hpl⟩ := HPP.out p hpm
      obtain ⟨q, hq, hps⟩ := HPS.out p hpm
      rw [Nat.zero_add] at hq
      obtain ⟨b, o, hA, hblt, hva0⟩ := HNS.out 0 _ (List.getElem?_eq_getElem (by omega))
      have HVO := Lib.hid (HOK.out p hpm)
      have HLP := Lib.hid (lineP_len (HOK.out p hpm))
      have HPV := Lib.hid (show partV A p = .slice (some ⟨b, o + p.1 * 8, none⟩) p.2.length p.2.length by rw [hA]; rfl)
      rw [HPV.out] at hgc
      have y1 := (HBW.out.cell (p := ⟨g, k, none⟩) hg2).trans hgc
      have hgw : g < wr.heap.size := by have := HBW.out.size; omega
      have HNP := Lib.hid (show NdsAt w (some ⟨b, o + p.1 * 8, none⟩) p.2 by
        have h1 := HNS.out
        rw [hA] at h1
        have h2 := (h1.drop q).take p.2.length
        rw [← hps, ← hq] at h2
        exact h2)
      have HLV := Lib.hid (leaves_any (some ⟨b, o + p.1 * 8, none⟩) p.2.length p.2 HVO.out hp0 (Nat.le_refl _) (by unfold maxLen; omega) (by omega) wr (HNP.out.below (below_more HB1.out HBW.out)))
      have HFM := Lib.hid (show (ps.take (k + 1)).flatMap lineP = (ps.take k).flatMap lineP ++ lineP p by
        obtain ⟨hk', e⟩ := List.getElem?_eq_some_iff.1 hp
        rw [List.take_succ_eq_append_getElem hk', e]; simp)
      obtain ⟨l, hll⟩ : ∃ l, l = pickN p.2 (leavesF p.2 5 0) := ⟨_, rfl⟩
      have HLL := Lib.hid (show lineP p = l.map markR by rw [hll]; rfl)
      have hml : (leavesF p.2 5 0).length = l.length := by rw [hll]; unfold pickN; rw [List.length_map]
      rw [← hll, hml] at HLV
      obtain ⟨m, hm⟩ : ∃ m, m = l.length := ⟨_, rfl⟩
      have HM := Lib.hid hm
      have hm7 : m ≤ 7776 := by have := HLP.out; rw [HLL.out, List.length_map] at this; omega
      rw [← hm] at HLV
      obtain ⟨P2, hP2⟩ : ∃ P2, P2 = p.2.length := ⟨_, rfl⟩
      obtain ⟨P1, hP1⟩ : ∃ P1, P1 = p.1 := ⟨_, rfl⟩
      rw [← hP1, ← hP2] at y1 HLV
      clear hp hpm hgc hps hq hva0 hll hml hm hP1 hP2 hA hp0 hpl HNP HPV
      go_wp2_with fail
      refine HLV.out.mono ?_; rintro e w2 ⟨Al, cl, rfl, hown, hb⟩
      have hol := own_len hown
      have hcl1 := hol.1
      have hcl2 := hol.2.1
      unfold maxLen at hcl2
      have hblk := HOW.out.lt
      have HMK := Lib.hid (show Marks w1 w2 u3 ((ps.take k).flatMap lineP) Al l from
        ⟨HBW.out.trans (hb.mono HBW.out.size), by rw [← HCL.out]; exact ownsRow_of_block HOW.out (fun g hg => hb.block g (HOW.out.lt g hg).2), own_nodes hown, fun b o e h0 e2 => by
          have h1 := own_blk hown b o e
          have h2 := (hblk b e2).2
          omega⟩)
      clear hown hb hol hblk y1 HLV HOW
      obtain ⟨base, hbase⟩ : ∃ base, base = (ps.take k).flatMap lineP := ⟨_, rfl⟩
      rw [← hbase] at HMK HCL HFM
      have HFM2 := Lib.hid (show (ps.take (k + 1)).flatMap lineP = base ++ l.map markR by rw [HFM.out, HLL.out])
      clear hbase
      go_wp2_with fail
      obtain ⟨wo, rfl⟩ : ∃ wo : World, wo = wr := ⟨_, rfl⟩
      go_loopw [3, 19] (fun v i wr => ∃ (j c2 : Nat), j ≤ m ∧ c2 ≤ c + j ∧ i = .int .i64 j ∧ Hid (c2 = (base ++ (l.take j).map markR).length) ∧ Hid (Marks w1 wr v (base ++ (l.take j).map markR) Al l)) (fun _ i _ => m - (intOf i).toNat)
      case atStart => exact ⟨0, c, Nat.zero_le _, by omega, rfl, Lib.hid (by simpa using HCL.out), Lib.hid (by simpa using HMK.out)⟩
      case round =>
        obtain ⟨j, c2, hj, hc2, rfl, hcl2', hmk⟩ := hrel
        have HC2 := Lib.hid hcl2'.out
        have HMJ := Lib.hid hmk.out
        clear hcl2' hmk
        by_cases hlj : j < m
        · obtain ⟨x, hx⟩ : ∃ x, l[j]? = some x := ⟨_, List.getElem?_eq_getElem (by have := HM.out; omega)⟩
          obtain ⟨lb, lo, hAl, hlb, hvx⟩ := HMJ.out.nds j x hx
          subst hAl
          obtain ⟨y0, y1, y2, y3, y4, y5, y6, y7⟩ := hvx
          have HSN := Lib.hid (show (l.take (j + 1)).map markR = (l.take j).map markR ++ [markR x] by
            obtain ⟨hk', e⟩ := List.getElem?_eq_some_iff.1 hx
            rw [List.take_succ_eq_append_getElem hk', e]; simp)
          obtain ⟨L2, hL2⟩ : ∃ L2, L2 = base ++ (l.take j).map markR := ⟨_, rfl⟩
          have HL2 := Lib.hid hL2
          rw [← hL2] at HMJ HC2
          clear hL2
          obtain ⟨Av, cv, hv, -, -, -, -⟩ := own_slice HMJ.out.own
          rw [← HC2.out] at hv
          subst hv
          have HMO := Lib.hid (fun wx => markOf_is x wx)
          obtain ⟨⟨ms, mt, mn, mx⟩, hmr⟩ : ∃ mm, mm = markR x := ⟨_, rfl⟩
          rw [← hmr] at HMO HSN
          dsimp only at HMO
          clear hx hmr
          go_wp2_with fail
          refine (HMO.out _).mono ?_; rintro e wq ⟨rfl, hbq⟩
          have HMQ := Lib.hid (HMJ.out.below_ (below_of hbq))
          clear hbq y0 y1 y2 y3 y4 y5 y6 y7
          have hsq := HMQ.out.below.size
          go_wp2_with (first
            | (at_builtin; refine wpList_append_src _ rfl (.tmp 23) (.tmp 26) 44 rfl w1.heap.size 69 iv (.agg #[.int .i64 0, .int .i64 0, .int .i64 0, .int .i64 0]) 4 32 Try.underlying44 hiv.out hzv.out hsv.out hbv.out rfl (by decide) (.slice Av c2 cv) c2 (L2.flatMap Mk.cells) rfl ?own2 (some ⟨wq.heap.size, 0, none⟩) 1 1 [.int .i64 ms, .int .i64 mt, .int .i64 mn, .int .i64 mx] rfl ?l2 ?n2 ?c2 ?o2 ?m2 ?b2 ?s2 (c2 + 1) rfl ?_))
          case own2 => have := HMQ.out.own; rw [← HC2.out] at this; exact this.alloc _
          case l2 => rfl
          case n2 => intro h; cases h
          case o2 => exact mk_one ⟨ms, mt, mn, mx⟩
          case c2 => intro ad had i u' hj; injection had with had; subst had; exact World.news_of_block (cs := #[.int .i64 ms, .int .i64 mt, .int .i64 mn, .int .i64 mx]) (heap_alloc_new wq _) i u' hj
          case m2 => unfold maxLen; omega
          case b2 => omega
          case s2 => rw [World.size_alloc]; omega
          intro A3 c3 w3 own3 hg3 hat3
          have HM3 := Lib.hid (HMQ.out.append (m := ⟨ms, mt, mn, mx⟩) (v' := .slice A3 (c2 + 1) c3) (by rw [← HC2.out]; exact own3) hg3 hat3)
          clear own3 hg3 hat3
          go_wp2_with fail
          go_roundw
          case rel => exact ⟨j + 1, c2 + 1, by omega, by omega, by go_num, Lib.hid (by rw [HSN.out, ← List.append_assoc, ← HL2.out, List.length_append, ← HC2.out]; rfl), Lib.hid (by rw [HSN.out, ← List.append_assoc, ← HL2.out]; exact HM3.out)⟩
          case measure => simp [intOf]; omega
        · obtain rfl : j = m := by omega
          have HT := Lib.hid (show l.take j = l by rw [HM.out, List.take_length])
          go_wp2_with fail
          go_roundw
          case rel => exact ⟨k + 1, c2, by omega, by omega, by go_num, Lib.hid (by rw [HFM2.out, HC2.out, HT.out]), Lib.hid (by have := HMJ.out.own; rw [HT.out] at this; rw [HFM2.out, HC2.out, HT.out]; exact this), Lib.hid HMJ.out.below⟩
          case measure => simp [intOf]; omega
    · obtain rfl : k = n := by omega
      have HT := Lib.hid (show ps.take k = ps by rw [HN.out, List.take_length])
      have HX := Lib.hid (show GotRow w 69 4 (lineR ns).length ((lineR ns).flatMap Mk.cells) (.returned u3) wr from by
        have h1 := HOW.out
        rw [HCL.out, HT.out, ← HLR.out] at h1
        obtain ⟨A2, c2, hv, -, -, -, -⟩ := own_slice h1
        exact ⟨A2, c2, by rw [hv], own_base (by rw [← hv]; exact h1) HB1.out.size, below_more HB1.out HBW.out⟩)
      go_wp2_with fail
      go_ret
      exact HX.out

end Go.Proofs.Ytbfedahonfjpfaa
