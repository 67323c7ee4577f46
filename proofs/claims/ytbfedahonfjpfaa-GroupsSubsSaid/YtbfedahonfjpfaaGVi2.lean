/-
  The closure that visits a node, by its contract.
-/
import Derived.Test.YtbfedahonfjpfaaGVis
import Derived.Deep.DeepCutAuto
namespace Go.Proofs.Ytbfedahonfjpfaa
open Go.RowKit

theorem isLeaf_is (u : Nd) (w : World) (B : Bool) (h : leafB u.kind = B) : Calls Try.prog 108 #[.agg #[.int .i64 u.kind, .int .i64 u.depth, .int .i64 u.sign, .int .i64 u.turn, .bool u.mirror, .int .i64 u.state, .int .i64 u.min, .int .i64 u.max]] w (fun e w' => e = .returned (.bool B) ∧ Below w.heap.size w w') := by
  rw [← h]; exact isLeaf_any u w
theorem infoNd : (Try.prog.info? 78).map (fun i => (i.zero, i.size, i.bytes)) = some (some (.agg #[.int .i64 0, .int .i64 0, .int .i64 0, .int .i64 0, .bool false, .int .i64 0, .int .i64 0, .int .i64 0]), 8, 64) := by kernel_rfl

set_option maxRecDepth 100000 in
set_option maxHeartbeats 8000000 in
theorem visit_leaf (base bg bf bv cap : Nat) (A : Option Addr) (ns : List Nd) (_hl : ns.length ≤ cap) (_hc : cap ≤ maxLen) (hbg : bg < base) (hbf : bf < base) (hbv : bv < base) (hgf : bg ≠ bf) (hvf : bv ≠ bf)
    (j : Nat) (u : Nd) (acc : List Nd) (v : Value) (w : World) (hj : ns[j]? = some u) (hleaf : leafB u.kind = true) (hlen : acc.length + 1 ≤ 2000000) (hvis : Vis base bg bf bv A cap ns w acc v) :
    Calls Try.prog 113 #[.int .i64 j, .pointer (some ⟨bg, 0, none⟩), .pointer (some ⟨bf, 0, none⟩), .pointer (some ⟨bv, 0, none⟩)] w fun e w' => e = .returned (.tuple #[]) ∧ ∃ v', Vis base bg bf bv A cap ns w' (acc ++ [u]) v' ∧ VKeeps bf v w v' w' := by
  have hsz := hvis.sz
  have hjn : j < ns.length := (List.getElem?_eq_some_iff.1 hj).1
  obtain ⟨b, o, hA, hb1, hb2, hva⟩ := hvis.nds j u hj
  subst hA
  have HVIS := Lib.hid hvis
  have HIS := Lib.hid (fun w => isLeaf_is u w true hleaf)
  have HUV := Lib.hid hva
  obtain ⟨iv, hiv, hzv, hsv, hbv'⟩ := info_hid infoNd
  have hg0 := hvis.g.cell
  obtain ⟨y0, y1, y2, y3, y4, y5, y6, y7⟩ := hva
  obtain ⟨N, hN⟩ : ∃ N, N = ns.length := ⟨_, rfl⟩
  have HN := Lib.hid hN
  rw [← hN] at _hl hjn hg0
  unfold maxLen at _hc
  clear hj hvis hleaf hN
  go_enter Try.func113, Try.ntmps113
  go_wp2_with fail
  refine (HIS.out _).mono ?_; rintro e w1 ⟨rfl, hb⟩
  have HV1 := Lib.hid (HVIS.out.below hb)
  have HK1 := Lib.hid (VKeeps.of_below (bf := bf) v hb)
  have hs1 : b < w1.heap.size := by have := hb.size; omega
  have HB := Lib.hid (HUV.out.below hb (by omega))
  clear hb y0 y1 y2 y3 y4 y5 y6 y7 hg0
  obtain ⟨y0, y1, y2, y3, y4, y5, y6, y7⟩ := HB.out
  have hg1 := HV1.out.g.cell
  rw [← HN.out] at hg1
  have hf1 := HV1.out.f.cell
  have HOW := Lib.hid HV1.out.own
  have hsb := HV1.out.sz
  have hs2 : bf < w1.heap.size := by omega
  have hs3 : bg < w1.heap.size := by omega
  have hmx : acc.length + 1 ≤ maxLen := by unfold maxLen; omega
  go_wp2_with fail
  go_region_law (refine step_append_lies _ (by rfl) _ _ 25 (by rfl) base 78 iv (.agg #[.int .i64 0, .int .i64 0, .int .i64 0, .int .i64 0, .bool false, .int .i64 0, .int .i64 0, .int .i64 0]) 8 64 Try.underlying25 hiv.out hzv.out hsv.out hbv'.out rfl (by omega) v acc.length (acc.flatMap Nd.cells) (by rfl) ((HOW.out.alloc _).drew) ⟨w1.heap.size, 0, none⟩ 1 1 u.cells (by rfl) (by rfl) (World.news_of_block (cs := u.cells.toArray) (t := 78) (fr := (0, 0)) (heap_alloc_new w1 _)) (nd_one u) (by omega) hmx (by omega) (by simp; omega) (w1.heap.size + 1) (by simp) ?_; intro gg cap1 w2 hown1 hgrow hat hlt; have HQ := Lib.hid (HV1.out.append (u := u) (blk := .cells u.cells.toArray 78) hbg hbf hbv hgf hvf hown1 ⟨hgrow.os, hgrow.tape, hgrow.output, hgrow.size, hgrow.block⟩ (by rcases hat with h | h; exact .inl h.symm; exact .inr (by rw [h]; rfl))); have hc2 := HQ.out.1.cell; have hf2 := HQ.out.1.frozen; clear hown1 hgrow hat hlt)
  all_goals (
    go_wp2
    refine bodyPost_ret (results_none rfl _ _ _) rfl ?_
    exact ⟨rfl, _, HQ.out.2.1, HK1.out.trans HQ.out.2.2⟩)

theorem row_ints {w : World} {base : Nat} {A : Option Addr} {n c : Nat} {l : List Nat} (h : w.ownsRow base 3 1 (.slice A n c) n (intsV l)) : NatsAt w A l := fun k j hk => by
  obtain ⟨A2, c2, hv, -, -, h3, h4⟩ := own_slice h
  injection hv with e1 e2 e3
  subst e1 e3
  have hlen : l.length = n := by have := h.1; simpa [intsV] using this
  cases A with
  | none => have := h4 rfl; have := (List.getElem?_eq_some_iff.1 hk).1; omega
  | some ad =>
    obtain ⟨g, rfl, _, hg, hc⟩ := h3 ad rfl
    refine ⟨g, 0, rfl, hg, ?_⟩
    rw [Nat.zero_add]
    exact hc k _ (by unfold intsV; rw [List.getElem?_map, hk]; rfl)
theorem own_len {w : World} {base : Nat} {e : TypeId} {A : Option Addr} {n c : Nat} {xs : List Value} {size : Nat} (h : w.ownsRow base e size (.slice A n c) n xs) : n ≤ c ∧ c ≤ maxLen ∧ (A = none → n = 0) := by
  obtain ⟨A2, c2, hv, h1, h2, _, h4⟩ := own_slice h
  injection hv with e1 e2 e3
  subst e1 e3
  exact ⟨h1, h2, h4⟩
theorem own_blk {w : World} {base : Nat} {e : TypeId} {A : Option Addr} {n c : Nat} {xs : List Value} {size : Nat} (h : w.ownsRow base e size (.slice A n c) n xs) : ∀ b o, A = some ⟨b, o, none⟩ → base ≤ b ∧ b < w.heap.size ∧ o = 0 := fun b o e0 => by
  obtain ⟨A2, c2, hv, _, _, h3, _⟩ := own_slice h
  injection hv with e1 e2 e3
  subst e1 e3
  obtain ⟨g, e1, h4, h5, _⟩ := h3 _ e0
  injection e1 with e1 e2
  subst e1 e2
  exact ⟨h4, h5, rfl⟩

theorem src_ints {w : World} {kb : Nat} {l : List Nat} (h : ∀ k x, l[k]? = some x → w.cell? ⟨kb, k, none⟩ = some (.int .i64 (x : Nat))) (hlt : kb < w.heap.size) (p n c : Nat) (hn : p + n ≤ l.length) : SrcOk 1 w ⟨some ⟨kb, p, none⟩, n, c, intsV ((l.drop p).take n)⟩ where
  len := by simp [intsV]; omega
  none := fun e => by cases e
  cells := fun ad e j u hj => by
    injection e with e
    subst e
    have e2 : (⟨kb, p, none⟩ : Addr).add j = ⟨kb, p + j, none⟩ := by unfold Addr.add; split <;> simp_all
    rw [e2]
    unfold intsV at hj
    rw [List.getElem?_map, List.getElem?_take] at hj
    split at hj
    · rw [List.getElem?_drop] at hj
      cases hx : l[p + j]? with
      | none => rw [hx] at hj; cases hj
      | some x => rw [hx] at hj; injection hj with hj; rw [← hj]; exact h _ _ hx
    · cases hj
  one := fun u hu => by
    unfold intsV at hu
    obtain ⟨x, _, rfl⟩ := List.mem_map.1 hu
    rfl
  lt := fun ad e _ => by injection e with e; subst e; exact hlt

/-- the numbers that are visited one after the other, in memory apart from what has been found -/
structure Todo (bf : Nat) (w : World) (v : Value) (A : Option Addr) (l : List Nat) : Prop where
  at_ : NatsAt w A l
  ne : ∀ b o, A = some ⟨b, o, none⟩ → 0 < l.length → b ≠ bf ∧ v.ownBlock ≠ some b
theorem Todo.kept {bf : Nat} {w w' : World} {v v' : Value} {A : Option Addr} {l : List Nat} (h : Todo bf w v A l) (hk : VKeeps bf v w v' w') : Todo bf w' v' A l where
  at_ := fun k j hj => by
    obtain ⟨b, o, e, hlt, hc⟩ := h.at_ k j hj
    obtain ⟨h1, h2⟩ := h.ne b o e (by have := (List.getElem?_eq_some_iff.1 hj).1; omega)
    exact ⟨b, o, e, by have := hk.size; omega, (World.cell?_of_block (a := ⟨b, o + k, none⟩) (hk.block b hlt h1 h2)).trans hc⟩
  ne := fun b o e h0 => by
    obtain ⟨h1, h2⟩ := h.ne b o e h0
    refine ⟨h1, fun e2 => ?_⟩
    obtain ⟨j, hj⟩ : ∃ j, l[0]? = some j := ⟨_, List.getElem?_eq_getElem h0⟩
    obtain ⟨b', o', e', hlt, _⟩ := h.at_ 0 j hj
    rw [e] at e'; injection e' with e'; injection e' with e' _
    rcases hk.row with hr | ⟨g, hr, hg⟩
    · rw [hr] at e2; exact h2 e2
    · rw [hr] at e2; injection e2 with e2; omega

set_option maxRecDepth 100000 in
set_option maxHeartbeats 8000000 in
theorem visit_any (base bg bf bv cap : Nat) (A : Option Addr) (ns : List Nd) (hok : VisOk ns) (hl : ns.length ≤ cap) (hc : cap ≤ maxLen) (hsm : ns.length ≤ 1000000) (hbg : bg < base) (hbf : bf < base) (hbv : bv < base) (hgf : bg ≠ bf) (hvf : bv ≠ bf) :
    ∀ (f j : Nat) (u : Nd) (acc : List Nd) (v : Value) (w : World), ns[j]? = some u → 5 ≤ u.depth + f → acc.length + (leavesF ns f j).length ≤ 2000000 → Vis base bg bf bv A cap ns w acc v →
    Calls Try.prog 113 #[.int .i64 j, .pointer (some ⟨bg, 0, none⟩), .pointer (some ⟨bf, 0, none⟩), .pointer (some ⟨bv, 0, none⟩)] w fun e w' => e = .returned (.tuple #[]) ∧ ∃ v', Vis base bg bf bv A cap ns w' (acc ++ pickN ns (leavesF ns f j)) v' ∧ VKeeps bf v w v' w' := by
  intro f
  induction f with
  | zero => intro j u acc v w hj hd; have := (hok.dep u (List.mem_of_getElem? hj)).2; omega
  | succ f ih =>
  intro j u acc v w hj hdf hlen hvis
  by_cases hleaf : leafB u.kind = true
  · have e1 : leavesF ns (f + 1) j = [j] := by rw [leavesF_at hj, if_pos hleaf]
    rw [e1] at hlen ⊢
    have e2 : pickN ns [j] = [u] := by unfold pickN; rw [List.map_singleton, getN_at hj]
    rw [e2]
    exact visit_leaf base bg bf bv cap A ns hl hc hbg hbf hbv hgf hvf j u acc v w hj hleaf (by simpa using hlen) hvis
  have hleaf : leafB u.kind = false := by simpa using hleaf
  have e1 : leavesF ns (f + 1) j = (kidsO ns j u.kind).flatMap (leavesF ns f) := by rw [leavesF_at hj, hleaf]; rfl
  rw [e1] at hlen ⊢
  have hud := hok.dep u (List.mem_of_getElem? hj)
  have HKD := Lib.hid (fun k (hk : k ∈ kidsO ns j u.kind) => kids_at hj (kidsO_mem hk))
  have hsz := hvis.sz
  have hjn : j < ns.length := (List.getElem?_eq_some_iff.1 hj).1
  have HJ := Lib.hid hj
  have HK6 := Lib.hid (hok.six j)
  have HHN := Lib.hid (fun (h : u.kind = 7) => hok.hon j u hj h)
  have HKK := Lib.hid (fun wx (hn : NdsAt wx A ns) => kidsOf_any A cap j ns u hj hl hc hsm (by omega) wx hn)
  obtain ⟨b, o, hA, hb1, hb2, hva⟩ := hvis.nds j u hj
  subst hA
  have HVIS := Lib.hid hvis
  have HIS := Lib.hid (fun w => isLeaf_is u w false hleaf)
  have HUV := Lib.hid hva
  have HLEN := Lib.hid hlen
  have HIH := Lib.hid ih
  have hg0 := hvis.g.cell
  obtain ⟨y0, y1, y2, y3, y4, y5, y6, y7⟩ := hva
  obtain ⟨N, hN⟩ : ∃ N, N = ns.length := ⟨_, rfl⟩
  have HN := Lib.hid hN
  rw [← hN] at hl hjn hg0 HKK
  unfold maxLen at hc
  clear hj hvis hleaf hN ih e1 hlen
  go_enter Try.func113, Try.ntmps113
  go_wp2_with fail
  refine (HIS.out _).mono ?_; rintro e w1 ⟨rfl, hb⟩
  have HV1 := Lib.hid (HVIS.out.below hb)
  have HK1 := Lib.hid (VKeeps.of_below (bf := bf) v hb)
  have hs1 : b < w1.heap.size := by have := hb.size; omega
  have HB := Lib.hid (HUV.out.below hb (by omega))
  clear hb y0 y1 y2 y3 y4 y5 y6 y7 hg0
  have hg1 := HV1.out.g.cell
  rw [← HN.out] at hg1
  have hsb := HV1.out.sz
  have hs3 : bg < w1.heap.size := by omega
  go_wp2_with fail
  refine (HKK.out w1 (fun k x hx => by obtain ⟨b', o', e, h1, h2, h3⟩ := HV1.out.nds k x hx; exact ⟨b', o', e, by omega, h3⟩)).mono ?_
  rintro e w2 ⟨Ak, ck, rfl, hown, hb⟩
  have HV2 := Lib.hid (HV1.out.below hb)
  have HK2 := Lib.hid (HK1.out.trans (VKeeps.of_below (bf := bf) v hb))
  have HOW := Lib.hid hown
  have hs12 : w1.heap.size ≤ w2.heap.size := hb.size
  have hs2 : b < w2.heap.size := by omega
  have y0 := (HB.out.below hb (by omega)).c0
  clear hown hb hg1
  have hg2 := HV2.out.g.cell
  rw [← HN.out] at hg2
  have hbw1 : ∀ g, v.ownBlock = some g → g < w1.heap.size := fun g e => (HV1.out.own.lt g e).2
  have HTD := Lib.hid (show Todo bf w2 v Ak (kidsL ns j) from ⟨row_ints HOW.out, fun b' o' e h0 => by
    have h1 := own_blk HOW.out b' o' e
    exact ⟨by omega, fun e2 => by have := hbw1 b' e2; omega⟩⟩)
  have HOB := Lib.hid (own_len HOW.out)
  have HOK := Lib.hid (own_blk HOW.out)
  have HBW := Lib.hid hbw1
  clear hbw1
  go_upto_if 28 with fail
  go_cut [5] (fun s wx => ∃ (A2 : Option Addr) (c2 : Nat), s = .slice A2 (kidsO ns j u.kind).length c2 ∧ (kidsO ns j u.kind).length ≤ c2 ∧ c2 ≤ 9223372036854775807 ∧ Hid (Vis base bg bf bv (some ⟨b, o, none⟩) cap ns wx acc v) ∧ Hid (VKeeps bf v w v wx) ∧ Hid (Todo bf wx v A2 (kidsO ns j u.kind)))
  case first =>
    by_cases hk7 : u.kind = 7
    · have hkb : (u.kind == 7) = true := by simpa using hk7
      have HKO := Lib.hid (show kidsO ns j u.kind = (kidsL ns j).drop 1 ++ (kidsL ns j).take 1 by unfold kidsO; rw [if_pos hk7])
      have h1k := HHN.out hk7
      have h6k := HK6.out
      obtain ⟨K, hK⟩ : ∃ K, K = (kidsL ns j).length := ⟨_, rfl⟩
      have HKL := Lib.hid hK
      rw [← hK] at h1k h6k HOW HOB ⊢
      clear hK
      have hck := HOB.out.1
      have hcm := HOB.out.2.1
      unfold maxLen at hcm
      obtain ⟨kb, rfl⟩ : ∃ kb, Ak = some ⟨kb, 0, none⟩ := by
        cases Ak with
        | none => have := HOB.out.2.2 rfl; omega
        | some ad =>
          obtain ⟨A2, c2, hv, -, -, h3, -⟩ := own_slice HOW.out
          injection hv with e1 e2 e3
          subst e1 e3
          obtain ⟨g, e, _⟩ := h3 ad rfl
          exact ⟨g, by rw [e]⟩
      have HCC := Lib.hid (fun (p1 c1 : Nat) (h1 : p1 + (K - 1) ≤ K) (h2 : ((kidsL ns j).drop p1).take (K - 1) = (kidsL ns j).drop 1) =>
        show Calls Try.prog 114 #[.slice (some ⟨w2.heap.size, 0, none⟩) 2 2] (w2.alloc (.cells #[.slice (some ⟨kb, p1, none⟩) (K - 1) c1, .slice (some ⟨kb, 0, none⟩) 1 ck] 38)).drew (GotRow (w2.alloc (.cells #[.slice (some ⟨kb, p1, none⟩) (K - 1) c1, .slice (some ⟨kb, 0, none⟩) 1 ck] 38)).drew 3 1 K (intsV (kidsO ns j u.kind))) from by
        have hb : Below w2.heap.size w2 (w2.alloc (.cells #[.slice (some ⟨kb, p1, none⟩) (K - 1) c1, .slice (some ⟨kb, 0, none⟩) 1 ck] 38)).drew := ((Below.refl _ _).alloc (Nat.le_refl _) _).drew
        have hx := heap_alloc_new w2 (.cells #[.slice (some ⟨kb, p1, none⟩) (K - 1) c1, .slice (some ⟨kb, 0, none⟩) 1 ck] 38)
        generalize hW : (w2.alloc (.cells #[.slice (some ⟨kb, p1, none⟩) (K - 1) c1, .slice (some ⟨kb, 0, none⟩) 1 ck] 38)).drew = W at hb
        have hx : W.heap[w2.heap.size]? = some (.cells #[.slice (some ⟨kb, p1, none⟩) (K - 1) c1, .slice (some ⟨kb, 0, none⟩) 1 ck] 38 (0, 0)) := by rw [← hW]; exact hx
        have hkl : kb < w2.heap.size := (HOK.out kb 0 rfl).2.1
        have hna := row_ints HOW.out
        have hcell : ∀ k x, (kidsL ns j)[k]? = some x → W.cell? ⟨kb, k, none⟩ = some (.int .i64 (x : Nat)) := fun k x hk => by
          obtain ⟨b', o', e, hlt, hc⟩ := hna k x hk
          injection e with e; injection e with e1 e2
          subst e1 e2
          rw [Nat.zero_add] at hc
          exact (hb.cell (p := ⟨kb, k, none⟩) hkl).trans hc
        have hWs := (Array.getElem?_eq_some_iff.1 hx).1
        have h0 := concatInt (some ⟨w2.heap.size, 0, none⟩) 2 [⟨some ⟨kb, p1, none⟩, K - 1, c1, intsV (((kidsL ns j).drop p1).take (K - 1))⟩, ⟨some ⟨kb, 0, none⟩, 1, ck, intsV (((kidsL ns j).drop 0).take 1)⟩] W (fun k s hk => by
            refine ⟨w2.heap.size, 0, rfl, hWs, ?_⟩
            rw [Nat.zero_add, cell_of_blk hx]
            match k, hk with
            | 0, hk => injection hk with hk; subst hk; rfl
            | 1, hk => injection hk with hk; subst hk; rfl
            | k + 2, hk => simp at hk) (fun s hs => by
            simp at hs
            rcases hs with rfl | rfl
            · exact src_ints hcell (by omega) p1 (K - 1) c1 (by rw [← HKL.out]; exact h1)
            · exact src_ints hcell (by omega) 0 1 ck (by rw [← HKL.out]; omega)) (by simp [sumN]; omega) (by simp)
        have e1 : sumN [⟨some ⟨kb, p1, none⟩, K - 1, c1, intsV (((kidsL ns j).drop p1).take (K - 1))⟩, ⟨some ⟨kb, 0, none⟩, 1, ck, intsV (((kidsL ns j).drop 0).take 1)⟩] = K := by simp [sumN]; omega
        rw [e1] at h0
        rw [HKO.out, ← h2]
        have e2 : intsV (((kidsL ns j).drop p1).take (K - 1) ++ (kidsL ns j).take 1) = [(⟨some ⟨kb, p1, none⟩, K - 1, c1, intsV (((kidsL ns j).drop p1).take (K - 1))⟩ : Src), ⟨some ⟨kb, 0, none⟩, 1, ck, intsV (((kidsL ns j).drop 0).take 1)⟩].flatMap (·.xs) := by simp [intsV]
        rw [e2]
        exact h0)
      have HND := Lib.hid (fun (W w4 : World) (A3 : Option Addr) (c3 : Nat) (hb : Below w2.heap.size w2 W) (own : w4.ownsRow W.heap.size 3 1 (.slice A3 K c3) K (intsV (kidsO ns j u.kind))) (hb4 : Below W.heap.size W w4) =>
        show Vis base bg bf bv (some ⟨b, o, none⟩) cap ns w4 acc v ∧ VKeeps bf v w v w4 ∧ Todo bf w4 v A3 (kidsO ns j u.kind) from
        ⟨HV2.out.below (below_more hb hb4), HK2.out.trans (VKeeps.of_below v (below_more hb hb4)), row_ints own, fun b' o' e h0 => by
          have h1 := own_blk own b' o' e
          have h2 := hb.size
          exact ⟨by omega, fun e2 => by have := HBW.out b' e2; omega⟩⟩)
      by_cases hc1 : ck = 1
      · have hK1 : K = 1 := by omega
        have HC1 := Lib.hid (HCC.out 0 0 (by omega) (by rw [show (kidsL ns j).drop 1 = [] from List.drop_eq_nil_of_le (by rw [← HKL.out]; omega), hK1]; rfl))
        subst hK1
        subst hc1
        clear HCC
        go_wp2_with fail
        go_region_with (go_at_call 114; refine HC1.out.mono ?_; rintro e w4 ⟨A3, c3, rfl, own, hb4⟩; have HR := Lib.hid (HND.out _ w4 A3 c3 (((Below.refl _ _).alloc (Nat.le_refl _) _).drew) own hb4); have HOL := Lib.hid (own_len own); clear own hb4)
        all_goals (
          go_wp2_with fail
          go_meet
          exact ⟨A3, c3, by rw [kidsO_len, ← HKL.out], by rw [kidsO_len, ← HKL.out]; exact HOL.out.1, by have := HOL.out.2.1; unfold maxLen at this; omega, Lib.hid HR.out.1, Lib.hid HR.out.2.1, Lib.hid HR.out.2.2⟩)
      · have hcf : (ck = 1) = False := eq_false hc1
        have HC1 := Lib.hid (HCC.out 1 (ck - 1) (by omega) (by rw [List.take_of_length_le (by rw [List.length_drop, ← HKL.out]; omega)]))
        clear HCC
        go_wp2_with fail
        go_region_with (go_at_call 114; refine HC1.out.mono ?_; rintro e w4 ⟨A3, c3, rfl, own, hb4⟩; have HR := Lib.hid (HND.out _ w4 A3 c3 (((Below.refl _ _).alloc (Nat.le_refl _) _).drew) own hb4); have HOL := Lib.hid (own_len own); clear own hb4)
        all_goals (
          go_wp2_with fail
          go_meet
          exact ⟨A3, c3, by rw [kidsO_len, ← HKL.out], by rw [kidsO_len, ← HKL.out]; exact HOL.out.1, by have := HOL.out.2.1; unfold maxLen at this; omega, Lib.hid HR.out.1, Lib.hid HR.out.2.1, Lib.hid HR.out.2.2⟩)
    · have hkb : (u.kind == 7) = false := by simpa using hk7
      have HKO := Lib.hid (show kidsO ns j u.kind = kidsL ns j by unfold kidsO; rw [if_neg hk7])
      go_wp2_with fail
      go_meet
      refine ⟨Ak, ck, by rw [HKO.out], by rw [HKO.out]; exact HOB.out.1, by have := HOB.out.2.1; unfold maxLen at this; omega, HV2, HK2, Lib.hid (by rw [HKO.out]; exact HTD.out)⟩
  case rest =>
  obtain ⟨A2, c2, rfl, hn2, hc2, hv3, hk3, ht3⟩ := hcut
  obtain ⟨w3, rfl⟩ : ∃ w3, w3 = wc := ⟨_, rfl⟩
  have HV3 := hv3
  have HK3 := hk3
  have HT3 := ht3
  clear hv3 hk3 ht3 hg2 y0 HV2 HK2 HTD HOW HOB HOK HV1 HK1 HBW
  obtain ⟨ks, hks⟩ : ∃ ks, ks = kidsO ns j u.kind := ⟨_, rfl⟩
  rw [← hks] at HKD HLEN HT3 hn2 ⊢
  have HKS := Lib.hid hks
  obtain ⟨n, hn⟩ : ∃ n, n = ks.length := ⟨_, rfl⟩
  rw [← hn] at hn2 ⊢
  have HNK := Lib.hid hn
  clear hks hn hs1 hs2 hs12 hs3 hsb
  go_wp2_with fail
  go_loopw [7, 37] (fun _ i wr => ∃ (k : Nat) (v' : Value), k ≤ n ∧ i = .int .i64 k ∧ Hid (Vis base bg bf bv (some ⟨b, o, none⟩) cap ns wr (acc ++ pickN ns ((ks.take k).flatMap (leavesF ns f))) v') ∧ Hid (VKeeps bf v w v' wr) ∧ Hid (Todo bf wr v' A2 ks)) (fun _ i _ => n - (intOf i).toNat)
  case atStart => exact ⟨0, v, Nat.zero_le _, rfl, Lib.hid (by simpa [pickN] using HV3.out), HK3, HT3⟩
  case round =>
    obtain ⟨k, v', hk, rfl, hv, hkk, ht⟩ := hrel
    have HVk := Lib.hid hv.out
    have HKk := Lib.hid hkk.out
    have HTk := Lib.hid ht.out
    clear hv hkk ht
    by_cases hlt : k < n
    · obtain ⟨x, hx⟩ : ∃ x, ks[k]? = some x := ⟨_, List.getElem?_eq_getElem (by have := HNK.out; omega)⟩
      obtain ⟨ux, hux, hdx⟩ := HKD.out x (List.mem_of_getElem? hx)
      obtain ⟨b', o', e, hblt, hcx⟩ := HTk.out.at_ k x hx
      subst e
      have hfn := HVk.out.fn.cell
      have HFM := Lib.hid (show (ks.take (k + 1)).flatMap (leavesF ns f) = (ks.take k).flatMap (leavesF ns f) ++ leavesF ns f x by
        obtain ⟨hk', e⟩ := List.getElem?_eq_some_iff.1 hx
        rw [List.take_succ_eq_append_getElem hk', e]; simp)
      have HLB := Lib.hid (show (acc ++ pickN ns ((ks.take k).flatMap (leavesF ns f))).length + (leavesF ns f x).length ≤ 2000000 by
        have h1 : ((ks.take (k + 1)).flatMap (leavesF ns f)).length ≤ (ks.flatMap (leavesF ns f)).length := by
          conv => rhs; rw [← List.take_append_drop (k + 1) ks]
          rw [List.flatMap_append, List.length_append]; omega
        rw [HFM.out, List.length_append] at h1
        have := HLEN.out
        unfold pickN
        rw [List.length_append, List.length_map]; omega)
      have HC := Lib.hid (HIH.out x ux _ v' wr hux (by omega) HLB.out HVk.out)
      clear hx hux hdx
      go_wp2_with fail
      refine HC.out.mono ?_; rintro e w4 ⟨rfl, v4, hv4, hk4⟩
      have HV4 := Lib.hid (show Vis base bg bf bv (some ⟨b, o, none⟩) cap ns w4 (acc ++ pickN ns ((ks.take (k + 1)).flatMap (leavesF ns f))) v4 by
        rw [HFM.out]
        unfold pickN at hv4 ⊢
        rw [List.map_append, ← List.append_assoc]; exact hv4)
      have HK4 := Lib.hid (HKk.out.trans hk4)
      have HT4 := Lib.hid (HTk.out.kept hk4)
      clear hv4 hk4 hcx hfn
      go_wp2_with fail
      go_roundw
      case rel => exact ⟨k + 1, v4, by omega, by go_num, HV4, HK4, HT4⟩
      case measure => simp [intOf]; omega
    · obtain rfl : k = n := by omega
      have HT := Lib.hid (show ks.take k = ks by rw [HNK.out, List.take_length])
      go_wp2_with fail
      go_end0
      exact ⟨rfl, v', by have := HVk.out; rw [HT.out, HKS.out] at this; exact this, HKk.out⟩

end Go.Proofs.Ytbfedahonfjpfaa
