/-
  Contracts of slices.Grow (onto nothing) and slices.Concat, at elements of type int. And what builds on it.
-/
import Derived.Test.YtilagndfohnjnaaPkB
import Derived.Test.YtilagndfohnjnaaShelfg
import Derived.Shelf.Spec.SlicesGrow
import Derived.Test.YtilagndfohnjnaaPkC
import Derived.Deep.AppendLies
import Derived.Deep.RegionLaw
import Derived.Deep.RegionWith
import Derived.Deep.DeepCutAuto
import Derived.Laws.EntriesVeiled

/- Contracts of slices.Grow (onto nothing) and slices.Concat, at elements of type int. -/
namespace Go.Proofs.Ytilagndfohnjnaa
open Go.RowKit

theorem infoCInt : (Try.prog.info? 3).map (fun i => (i.zero, i.size, i.bytes)) = some (some (.int .i64 0), 1, 8) := by kernel_rfl

theorem growInt (n : Nat) (w : World) (hn : n ≤ 2000000) :
    Calls Try.prog 120 #[.slice none 0 0, .int .i64 n] w (GotRow w 3 1 0 []) := by
  by_cases h0 : n = 0
  · subst h0
    have h := Any8.slices_Grow_room Try.growInt none 0 0 0 w (Nat.le_refl _) (by omega) (by omega) (by omega)
    refine Calls.mono h ?_
    rintro e w' ⟨rfl, rfl⟩
    exact ⟨none, 0, rfl, World.ownsRow_nil _ _ _ _, Below.refl _ _⟩
  · obtain ⟨iv, hi, hz, hs, hb⟩ := info_parts infoCInt
    have h := Any8.slices_Grow_grow Try.growInt iv _ hi hz (by rw [hs]; omega) none 0 0 n [] w (Nat.le_refl _) (by omega) (by rw [hb]; omega) (by omega) (by simp) (fun _ => rfl) (fun a h => by cases h)
    refine Calls.mono h ?_
    rintro e w' ⟨rfl, rfl⟩
    refine ⟨_, _, rfl, ?_, ?_⟩
    · have hc : n ≤ grownCap w (0 + n) 0 3 := by have := grownCap_ge w (0 + n) 0 3; omega
      have hm := grownCap_le_maxLen w (0 + n) 0 3 (by unfold maxLen; omega)
      have := World.ownsRow_made (base := w.heap.size) (e := 3) (size := 1) w.drew (#[] ++ Builtin.zeroCells (Value.int .i64 0).cells (0 + n - 0) ++ Builtin.zeroCells (Value.int .i64 0).cells (grownCap w (0 + n) 0 3 - (0 + n))) (grownCap w (0 + n) 0 3) (Nat.le_refl _) hm (by
        rw [Array.size_append, Array.size_append, size_zeroCells, size_zeroCells]
        have : (Value.int .i64 0).cells.size = 1 := rfl
        rw [this]
        rw [Nat.zero_add] at hc ⊢
        simp
        omega)
      exact this
    · exact ((Below.refl _ _).drew).alloc (Nat.le_refl _) _

set_option maxHeartbeats 3200000 in
set_option maxRecDepth 100000 in
theorem concatInt (A : Option Addr) (c : Nat) (ss : List Src) (w : World) (hA : SlicesAt w A ss) (hs : ∀ s ∈ ss, SrcOk 1 w s) (hN : sumN ss ≤ 2000000) (hl : ss.length ≤ 1000000) :
    Calls Try.prog 114 #[.slice A ss.length c] w (GotRow w 3 1 (sumN ss) (ss.flatMap (·.xs))) := by
  obtain ⟨iv, hiv, hzv, hsv, hbv⟩ := info_hid infoCInt
  have HA := Lib.hid hA
  have HS := Lib.hid hs
  have HT := Lib.hid (fun k (s : Src) (h : ss[k]? = some s) => sumN_take h)
  obtain ⟨N, hNN⟩ : ∃ N, N = ss.length := ⟨_, rfl⟩
  rw [← hNN] at hl ⊢
  have HN := Lib.hid hNN
  have HTA := Lib.hid (show ss.take N = ss by rw [hNN, List.take_length])
  obtain ⟨M, hM⟩ : ∃ M, M = sumN ss := ⟨_, rfl⟩
  rw [← hM] at hN
  have HM := Lib.hid hM
  have HLE := Lib.hid (fun k => show sumN (ss.take k) ≤ M by rw [hM]; exact sumN_take_le ss k)
  clear hA hs hNN hM
  go_enter Try.func114, Try.ntmps114
  go_wp2_with fail
  go_loop [3, 5, 11] (fun s _ i => ∃ k t : Nat, k ≤ N ∧ i = .int .i64 k ∧ s = .int .i64 t ∧ t ≤ 2000000 ∧ Hid (t = sumN (ss.take k))) (fun _ _ i => N - (intOf i).toNat)
  case atStart => exact ⟨0, 0, Nat.zero_le _, rfl, rfl, by omega, Lib.hid rfl⟩
  case round =>
    obtain ⟨k, t, hk, rfl, rfl, ht, hts⟩ := hrel
    by_cases hlt : k < N
    · have hget : ss[k]? = some (ss[k]'(by have := HN.out; omega)) := List.getElem?_eq_getElem _
      obtain ⟨s, hs⟩ : ∃ s, s = ss[k]'(by have := HN.out; omega) := ⟨_, rfl⟩
      rw [← hs] at hget
      obtain ⟨g, o, hAe, hg, hc0⟩ := HA.out k s hget
      subst hAe
      have ht2 : t + s.n ≤ 2000000 := by
        have h1 := HT.out k s hget
        have h2 := HLE.out (k + 1)
        have := hts.out
        omega
      have HT2 := Lib.hid (show t + s.n = sumN (ss.take (k + 1)) by rw [HT.out k s hget, hts.out])
      clear hs hget
      obtain ⟨sA, sn, sc, sx⟩ := s
      dsimp only at hc0 ht2 HT2
      go_wp2_with fail
      go_round
      case rel => exact ⟨k + 1, t + sn, by omega, by go_num, by go_num, ht2, HT2⟩
      case measure => simp [intOf]; omega
    · obtain rfl : k = N := by omega
      have HTM := Lib.hid (show t = M by rw [hts.out, HTA.out, HM.out])
      obtain rfl : t = M := HTM.out
      go_wp2_with fail
      refine (growInt t w (by omega)).mono ?_; rintro e w1 ⟨A1, cc, rfl, own1, hb1⟩
      have OWN := Lib.hid own1
      have HB := Lib.hid hb1
      clear own1 hb1
      go_wp2_with fail
      have hws := HB.out.size
      go_loopw [6, 8, 27] (fun v _ i wr => ∃ j d : Nat, j ≤ k ∧ i = .int .i64 j ∧ d ≤ 2000000 ∧ Hid (d = sumN (ss.take j)) ∧ Hid (wr.ownsRow w.heap.size 3 1 v d ((ss.take j).flatMap (·.xs))) ∧ Hid (Below w.heap.size w wr)) (fun _ _ i _ => k - (intOf i).toNat)
      case atStart => exact ⟨0, 0, Nat.zero_le _, rfl, by omega, Lib.hid rfl, OWN, HB⟩
      case round =>
        obtain ⟨j, d, hj, rfl, hd9, hd, hown, hbw⟩ := hrel
        obtain ⟨B, d2, hv, -, -, -, -⟩ := own_slice hown.out
        subst hv
        by_cases hlj : j < k
        · have hget : ss[j]? = some (ss[j]'(by have := HN.out; omega)) := List.getElem?_eq_getElem _
          obtain ⟨s, hs⟩ : ∃ s, s = ss[j]'(by have := HN.out; omega) := ⟨_, rfl⟩
          rw [← hs] at hget
          obtain ⟨g, o, hAe, hg, hc0⟩ := HA.out j s hget
          subst hAe
          have z1 := (hbw.out.cell (p := ⟨g, o + j, none⟩) hg).trans hc0
          have hgw : g < wr.heap.size := Nat.lt_of_lt_of_le hg hbw.out.size
          have HSO := Lib.hid ((HS.out s (List.mem_of_getElem? hget)).below hbw.out)
          have hd2 : d + s.n ≤ 2000000 := by
            have h1 := HT.out j s hget
            have h2 := HLE.out (j + 1)
            have := hd.out
            omega
          have HT2 := Lib.hid (show d + s.n = sumN (ss.take (j + 1)) by rw [HT.out j s hget, hd.out])
          have HF := Lib.hid (show (ss.take (j + 1)).flatMap (·.xs) = (ss.take j).flatMap (·.xs) ++ s.xs by
            obtain ⟨hk', e⟩ := List.getElem?_eq_some_iff.1 hget
            rw [List.take_succ_eq_append_getElem hk', e]; simp)
          clear hs hget hc0
          obtain ⟨sA, sn, sc, sx⟩ := s
          dsimp only at z1 hd2 HT2 HF
          go_wp2_with (first
            | (at_builtin; refine wpList_append_src _ rfl (.tmp 31) (.tmp 32) 38 rfl w.heap.size 3 iv (.int .i64 0) 1 8 Try.underlying38 hiv.out hzv.out hsv.out hbv.out rfl (by decide) (.slice B d d2) d ((ss.take j).flatMap (·.xs)) rfl ?own0 sA sn sc sx rfl ?l0 ?n0 ?c0 ?o0 ?m0 ?b0 ?s0 (d + sn) rfl ?_))
          case own0 => exact hown.out
          case l0 => have := HSO.out.len; first | exact this | simpa using this
          case n0 => exact HSO.out.none
          case c0 => exact HSO.out.cells
          case o0 => exact HSO.out.one
          case m0 => unfold maxLen; omega
          case b0 => omega
          case s0 => exact hbw.out.size
          intro B2 d3 w3 own3 hg3 _
          have BB := Lib.hid (hbw.out.grown hg3 hbw.out.size (fun g hg => (hown.out.lt g hg).1))
          have OWN3 := Lib.hid (show w3.ownsRow w.heap.size 3 1 (.slice B2 (d + sn) d3) (d + sn) ((ss.take (j + 1)).flatMap (·.xs)) by rw [HF.out]; exact own3)
          clear own3 hg3
          go_wp2_with fail
          go_roundw
          case rel => exact ⟨j + 1, d + sn, by omega, by go_num, hd2, HT2, OWN3, BB⟩
          case measure => simp [intOf]; omega
        · obtain rfl : j = k := by omega
          have HX := Lib.hid (show GotRow w 3 1 (sumN ss) (ss.flatMap (·.xs)) (.returned (.slice B d d2)) wr from
            ⟨B, d2, by rw [hd.out, HTA.out], by have := hown.out; rw [hd.out, HTA.out] at this; exact this, hbw.out⟩)
          go_wp2_with fail
          go_ret
          exact HX.out

end Go.Proofs.Ytilagndfohnjnaa

/- The leaves of a group in the order in which they are read (leaves): the closure that visits a node. -/
namespace Go.Proofs.Ytilagndfohnjnaa
open Go.RowKit

def kidsO (ns : List Nd) (i : Nat) (kind : Int) : List Nat := if kind = 7 then (kidsL ns i).drop 1 ++ (kidsL ns i).take 1 else kidsL ns i
/-- the numbers of the leaves of a node, read in order; the depth bounds the recursion -/
def leavesF (ns : List Nd) : Nat → Nat → List Nat
  | 0, _ => []
  | f + 1, i => match ns[i]? with
    | none => []
    | some u => if leafB u.kind then [i] else (kidsO ns i u.kind).flatMap (leavesF ns f)
theorem leavesF_at {ns : List Nd} {i : Nat} {u : Nd} (h : ns[i]? = some u) (f : Nat) : leavesF ns (f + 1) i = if leafB u.kind then [i] else (kidsO ns i u.kind).flatMap (leavesF ns f) := by
  rw [leavesF, h]
def getN (ns : List Nd) (j : Nat) : Nd := ns[j]?.getD ⟨0, 0, 0, 0, false, 0, 0, 0⟩
def pickN (ns : List Nd) (l : List Nat) : List Nd := l.map (getN ns)
theorem getN_at {ns : List Nd} {j : Nat} {u : Nd} (h : ns[j]? = some u) : getN ns j = u := by unfold getN; rw [h]; rfl
/-- what a text must have for its leaves to be read -/
structure VisOk (ns : List Nd) : Prop where
  dep : ∀ u ∈ ns, 0 ≤ u.depth ∧ u.depth ≤ 4
  hon : ∀ (i : Nat) (u : Nd), ns[i]? = some u → u.kind = 7 → 1 ≤ (kidsL ns i).length
  six : ∀ i, (kidsL ns i).length ≤ 6
theorem kids_at {ns : List Nd} {i j : Nat} {u : Nd} (h : ns[i]? = some u) (hj : j ∈ kidsL ns i) : ∃ x, ns[j]? = some x ∧ x.depth = u.depth + 1 := by
  unfold kidsL at hj
  rw [h] at hj
  have := (List.mem_filter.1 hj).2
  unfold kidB at this
  cases hx : ns[j]? with
  | none => rw [hx] at this; cases this
  | some x => rw [hx] at this; exact ⟨x, rfl, by simpa using this⟩
theorem kidsO_mem {ns : List Nd} {i j : Nat} {k : Int} (hj : j ∈ kidsO ns i k) : j ∈ kidsL ns i := by
  unfold kidsO at hj
  split at hj
  · rcases List.mem_append.1 hj with h | h
    · exact List.mem_of_mem_drop h
    · exact List.mem_of_mem_take h
  · exact hj
theorem kidsO_len (ns : List Nd) (i : Nat) (k : Int) : (kidsO ns i k).length = (kidsL ns i).length := by
  unfold kidsO
  split
  · simp; omega
  · rfl
theorem leavesF_len {ns : List Nd} (h : VisOk ns) : ∀ (f i : Nat), (leavesF ns f i).length ≤ 6 ^ f := by
  intro f
  induction f with
  | zero => intro i; simp [leavesF]
  | succ f ih =>
    intro i
    rw [leavesF]
    split
    · simp
    · split
      · simp; exact Nat.one_le_pow _ _ (by omega)
      · rename_i u _ _
        have h6 : (kidsO ns i u.kind).length ≤ 6 := by rw [kidsO_len]; exact h.six i
        have : ∀ l : List Nat, (l.flatMap (leavesF ns f)).length ≤ l.length * 6 ^ f := by
          intro l
          induction l with
          | nil => simp
          | cons x l ihl => rw [List.flatMap_cons, List.length_append, List.length_cons, Nat.succ_mul]; have := ih x; omega
        have h1 := this (kidsO ns i u.kind)
        have h2 : (kidsO ns i u.kind).length * 6 ^ f ≤ 6 * 6 ^ f := Nat.mul_le_mul_right _ h6
        rw [Nat.pow_succ, Nat.mul_comm (6 ^ f) 6]; omega
def Nd.cells (n : Nd) : List Value := [.int .i64 n.kind, .int .i64 n.depth, .int .i64 n.sign, .int .i64 n.turn, .bool n.mirror, .int .i64 n.state, .int .i64 n.min, .int .i64 n.max]
theorem nd_one (n : Nd) : ∀ u ∈ n.cells, u.oneCell' = true := fun u hu => by
  simp [Nd.cells] at hu
  rcases hu with rfl | rfl | rfl | rfl | rfl | rfl | rfl | rfl <;> rfl

/-- ints in memory -/
def NatsAt (w : World) (A : Option Addr) (l : List Nat) : Prop := ∀ k j, l[k]? = some j → ∃ b o, A = some ⟨b, o, none⟩ ∧ b < w.heap.size ∧ w.cell? ⟨b, o + k, none⟩ = some (.int .i64 (j : Nat))

/-- the boxes of the closure, the group and what has been found -/
structure Vis (base bg bf bv : Nat) (A : Option Addr) (cap : Nat) (ns : List Nd) (w : World) (acc : List Nd) (v : Value) : Prop where
  g : Boxed w bg 25 (.slice A ns.length cap)
  f : Boxed w bf 25 v
  fn : Boxed w bv 128 (.func (.func 113) #[] #[.pointer (some ⟨bg, 0, none⟩), .pointer (some ⟨bf, 0, none⟩), .pointer (some ⟨bv, 0, none⟩)])
  nds : NdsIn bf base w A ns
  own : w.ownsRow base 78 8 v acc.length (acc.flatMap Nd.cells)
  sz : base ≤ w.heap.size
structure VKeeps (bf : Nat) (v : Value) (w : World) (v' : Value) (w' : World) : Prop where
  os : w'.os = w.os
  tape : w'.tape = w.tape
  output : w'.output = w.output
  size : w.heap.size ≤ w'.heap.size
  block : ∀ k, k < w.heap.size → k ≠ bf → v.ownBlock ≠ some k → w'.heap[k]? = w.heap[k]?
  row : v'.ownBlock = v.ownBlock ∨ ∃ g, v'.ownBlock = some g ∧ w.heap.size ≤ g
theorem VKeeps.trans {bf : Nat} {v v1 v2 : Value} {w w1 w2 : World} (h : VKeeps bf v w v1 w1) (k : VKeeps bf v1 w1 v2 w2) : VKeeps bf v w v2 w2 where
  os := k.os.trans h.os
  tape := k.tape.trans h.tape
  output := k.output.trans h.output
  size := Nat.le_trans h.size k.size
  block := fun j hj h1 h2 => by
    have hs := h.size
    rw [k.block j (by omega) h1 (fun e => ?_), h.block j hj h1 h2]
    rcases h.row with hr | ⟨g, hr, hg⟩
    · rw [hr] at e; exact h2 e
    · rw [hr] at e; injection e with e; omega
  row := by
    have hs := h.size
    rcases k.row with hr | ⟨g, hr, hg⟩
    · rw [hr]; exact h.row
    · exact .inr ⟨g, hr, by omega⟩
theorem VKeeps.of_below {bf : Nat} (v : Value) {w w' : World} (hb : Below w.heap.size w w') : VKeeps bf v w v w' :=
  ⟨hb.os, hb.tape, hb.output, hb.size, fun k hk _ _ => hb.block k hk, .inl rfl⟩
theorem Vis.below {base bg bf bv cap : Nat} {A : Option Addr} {ns acc : List Nd} {w w' : World} {v : Value} (h : Vis base bg bf bv A cap ns w acc v) (hb : Below w.heap.size w w') : Vis base bg bf bv A cap ns w' acc v where
  g := (hb.block _ h.g.lt).trans h.g
  f := (hb.block _ h.f.lt).trans h.f
  fn := (hb.block _ h.fn.lt).trans h.fn
  nds := h.nds.kept (KpB.of_below (hb.mono h.sz))
  own := ownsRow_of_block h.own (fun g hg => hb.block g (h.own.lt g hg).2)
  sz := Nat.le_trans h.sz hb.size
theorem Vis.append {base bg bf bv cap : Nat} {A : Option Addr} {ns acc : List Nd} {w w1 : World} {v v' : Value} {u : Nd} {blk : Obj} (h : Vis base bg bf bv A cap ns w acc v) (hbg : bg < base) (hbf : bf < base) (hbv : bv < base) (hgf : bg ≠ bf) (hvf : bv ≠ bf)
    (hown : w1.ownsRow base 78 8 v' (acc.length + 1) (acc.flatMap Nd.cells ++ u.cells)) (hg : (w.alloc blk).grownBy w1 v.ownBlock) (hat : v'.ownBlock = v.ownBlock ∨ v'.ownBlock = some (w.heap.size + 1)) :
    Boxed w1 bf 25 v ∧ Vis base bg bf bv A cap ns (w1.setCell ⟨bf, 0, none⟩ v') (acc ++ [u]) v' ∧ VKeeps bf v w v' (w1.setCell ⟨bf, 0, none⟩ v') := by
  have hsz := h.sz
  have hs1 : w.heap.size + 1 ≤ w1.heap.size := by have := hg.size; rw [World.size_alloc] at this; exact this
  have hown0 : ∀ g, v.ownBlock = some g → base ≤ g := fun g e => (h.own.lt g e).1
  have hown1 : ∀ g, v'.ownBlock = some g → base ≤ g := fun g e => (hown.lt g e).1
  have hblk : ∀ k, k < w.heap.size → v.ownBlock ≠ some k → w1.heap[k]? = w.heap[k]? := fun k hk hne => by
    rw [hg.block k (by rw [World.size_alloc]; omega) (fun e => hne e.symm), heap_alloc_other _ _ _ hk]
  have hblk2 : ∀ k, k ≠ bf → (w1.setCell ⟨bf, 0, none⟩ v').heap[k]? = w1.heap[k]? := fun k hk => heap_setCell_other _ _ _ _ hk
  have hk : KpB bf base w (w1.setCell ⟨bf, 0, none⟩ v') := ⟨by have := ((Below.refl 0 w1).setCell (p := ⟨bf, 0, none⟩) (Nat.zero_le _) v').size; omega, fun k h1 h2 => by
    rw [hblk2 k h2, hblk k (by omega) (fun e => by have := hown0 k e; omega)]⟩
  have hf1 : Boxed w1 bf 25 v := (hblk bf (by omega) (fun e => by have := hown0 bf e; omega)).trans h.f
  refine ⟨hf1, ⟨Boxed.keptK h.g hk hbg hgf, hf1.set v', Boxed.keptK h.fn hk hbv hvf, h.nds.kept hk, ?_, by have := hk.size; omega⟩, ⟨hg.os, hg.tape, hg.output, hk.size, fun k h1 h2 h3 => by rw [hblk2 k h2, hblk k h1 h3], ?_⟩⟩
  · have e : (acc ++ [u]).length = acc.length + 1 := by simp
    rw [e, List.flatMap_append]
    have := ownsRow_of_block hown (fun g e2 => hblk2 g (fun e3 => by have := hown1 g e2; omega))
    simpa using this
  · rcases hat with hat | hat
    · exact .inl hat
    · exact .inr ⟨_, hat, by omega⟩

end Go.Proofs.Ytilagndfohnjnaa

/- The closure that visits a node, by its contract. -/
namespace Go.Proofs.Ytilagndfohnjnaa
open Go.RowKit

theorem isLeaf_is (u : Nd) (w : World) (B : Bool) (h : leafB u.kind = B) : Calls Try.prog 108 #[.agg #[.int .i64 u.kind, .int .i64 u.depth, .int .i64 u.sign, .int .i64 u.turn, .bool u.mirror, .int .i64 u.state, .int .i64 u.min, .int .i64 u.max]] w (fun e w' => e = .returned (.bool B) ∧ Below w.heap.size w w') := by
  rw [← h]; exact isLeaf_any u w
theorem infoNd : (Try.prog.info? 78).map (fun i => (i.zero, i.size, i.bytes)) = some (some (.agg #[.int .i64 0, .int .i64 0, .int .i64 0, .int .i64 0, .bool false, .int .i64 0, .int .i64 0, .int .i64 0]), 8, 64) := by kernel_rfl

set_option maxRecDepth 100000 in
set_option maxHeartbeats 8000000 in
theorem visit_leaf (base bg bf bv cap : Nat) (A : Option Addr) (ns : List Nd) (_hl : ns.length ≤ cap) (_hc : cap ≤ maxLen) (hbg : bg < base) (hbf : bf < base) (hbv : bv < base) (hgf : bg ≠ bf) (hvf : bv ≠ bf)
    (j : Nat) (u : Nd) (acc : List Nd) (v : Value) (w : World) (hj : ns[j]? = some u) (hleaf : leafB u.kind = true) (hlen : acc.length + 1 ≤ 2000000) (hvis : Vis base bg bf bv A cap ns w acc v) :
    Calls Try.prog 113 #[.int .i64 j, .pointer (some ⟨bg, 0, none⟩), .pointer (some ⟨bf, 0, none⟩), .pointer (some ⟨bv, 0, none⟩)] w fun e w' => e = .returned (.tuple #[]) ∧ ∃ v', Vis base bg bf bv A cap ns w' (acc ++ [u]) v' ∧ VKeeps bf v w v' w' := by
  have hsz := hvis.sz
  have hjn : j < ns.length := (List.getElem?_eq_some_iff.1 hj).1
  obtain ⟨b, o, hA, hb1, hb2, hva⟩ := hvis.nds j u hj
  subst hA
  have HVIS := Lib.hid hvis
  have HIS := Lib.hid (fun w => isLeaf_is u w true hleaf)
  have HUV := Lib.hid hva
  obtain ⟨iv, hiv, hzv, hsv, hbv'⟩ := info_hid infoNd
  have hg0 := hvis.g.cell
  obtain ⟨y0, y1, y2, y3, y4, y5, y6, y7⟩ := hva
  obtain ⟨N, hN⟩ : ∃ N, N = ns.length := ⟨_, rfl⟩
  have HN := Lib.hid hN
  rw [← hN] at _hl hjn hg0
  unfold maxLen at _hc
  clear hj hvis hleaf hN
  go_enter Try.func113, Try.ntmps113
  go_wp2_with fail
  refine (HIS.out _).mono ?_; rintro e w1 ⟨rfl, hb⟩
  have HV1 := Lib.hid (HVIS.out.below hb)
  have HK1 := Lib.hid (VKeeps.of_below (bf := bf) v hb)
  have hs1 : b < w1.heap.size := by have := hb.size; omega
  have HB := Lib.hid (HUV.out.below hb (by omega))
  clear hb y0 y1 y2 y3 y4 y5 y6 y7 hg0
  obtain ⟨y0, y1, y2, y3, y4, y5, y6, y7⟩ := HB.out
  have hg1 := HV1.out.g.cell
  rw [← HN.out] at hg1
  have hf1 := HV1.out.f.cell
  have HOW := Lib.hid HV1.out.own
  have hsb := HV1.out.sz
  have hs2 : bf < w1.heap.size := by omega
  have hs3 : bg < w1.heap.size := by omega
  have hmx : acc.length + 1 ≤ maxLen := by unfold maxLen; omega
  go_wp2_with fail
  go_region_law (refine step_append_lies _ (by rfl) _ _ 25 (by rfl) base 78 iv (.agg #[.int .i64 0, .int .i64 0, .int .i64 0, .int .i64 0, .bool false, .int .i64 0, .int .i64 0, .int .i64 0]) 8 64 Try.underlying25 hiv.out hzv.out hsv.out hbv'.out rfl (by omega) v acc.length (acc.flatMap Nd.cells) (by rfl) ((HOW.out.alloc _).drew) ⟨w1.heap.size, 0, none⟩ 1 1 u.cells (by rfl) (by rfl) (World.news_of_block (cs := u.cells.toArray) (t := 78) (fr := (0, 0)) (heap_alloc_new w1 _)) (nd_one u) (by omega) hmx (by omega) (by simp; omega) (w1.heap.size + 1) (by simp) ?_; intro gg cap1 w2 hown1 hgrow hat hlt; have HQ := Lib.hid (HV1.out.append (u := u) (blk := .cells u.cells.toArray 78) hbg hbf hbv hgf hvf hown1 ⟨hgrow.os, hgrow.tape, hgrow.output, hgrow.size, hgrow.block⟩ (by rcases hat with h | h; exact .inl h.symm; exact .inr (by rw [h]; rfl))); have hc2 := HQ.out.1.cell; have hf2 := HQ.out.1.frozen; clear hown1 hgrow hat hlt)
  all_goals (
    go_wp2
    refine bodyPost_ret (results_none rfl _ _ _) rfl ?_
    exact ⟨rfl, _, HQ.out.2.1, HK1.out.trans HQ.out.2.2⟩)

theorem row_ints {w : World} {base : Nat} {A : Option Addr} {n c : Nat} {l : List Nat} (h : w.ownsRow base 3 1 (.slice A n c) n (intsV l)) : NatsAt w A l := fun k j hk => by
  obtain ⟨A2, c2, hv, -, -, h3, h4⟩ := own_slice h
  injection hv with e1 e2 e3
  subst e1 e3
  have hlen : l.length = n := by have := h.1; simpa [intsV] using this
  cases A with
  | none => have := h4 rfl; have := (List.getElem?_eq_some_iff.1 hk).1; omega
  | some ad =>
    obtain ⟨g, rfl, _, hg, hc⟩ := h3 ad rfl
    refine ⟨g, 0, rfl, hg, ?_⟩
    rw [Nat.zero_add]
    exact hc k _ (by unfold intsV; rw [List.getElem?_map, hk]; rfl)
theorem own_len {w : World} {base : Nat} {e : TypeId} {A : Option Addr} {n c : Nat} {xs : List Value} {size : Nat} (h : w.ownsRow base e size (.slice A n c) n xs) : n ≤ c ∧ c ≤ maxLen ∧ (A = none → n = 0) := by
  obtain ⟨A2, c2, hv, h1, h2, _, h4⟩ := own_slice h
  injection hv with e1 e2 e3
  subst e1 e3
  exact ⟨h1, h2, h4⟩
theorem own_blk {w : World} {base : Nat} {e : TypeId} {A : Option Addr} {n c : Nat} {xs : List Value} {size : Nat} (h : w.ownsRow base e size (.slice A n c) n xs) : ∀ b o, A = some ⟨b, o, none⟩ → base ≤ b ∧ b < w.heap.size ∧ o = 0 := fun b o e0 => by
  obtain ⟨A2, c2, hv, _, _, h3, _⟩ := own_slice h
  injection hv with e1 e2 e3
  subst e1 e3
  obtain ⟨g, e1, h4, h5, _⟩ := h3 _ e0
  injection e1 with e1 e2
  subst e1 e2
  exact ⟨h4, h5, rfl⟩

theorem src_ints {w : World} {kb : Nat} {l : List Nat} (h : ∀ k x, l[k]? = some x → w.cell? ⟨kb, k, none⟩ = some (.int .i64 (x : Nat))) (hlt : kb < w.heap.size) (p n c : Nat) (hn : p + n ≤ l.length) : SrcOk 1 w ⟨some ⟨kb, p, none⟩, n, c, intsV ((l.drop p).take n)⟩ where
  len := by simp [intsV]; omega
  none := fun e => by cases e
  cells := fun ad e j u hj => by
    injection e with e
    subst e
    have e2 : (⟨kb, p, none⟩ : Addr).add j = ⟨kb, p + j, none⟩ := by unfold Addr.add; split <;> simp_all
    rw [e2]
    unfold intsV at hj
    rw [List.getElem?_map, List.getElem?_take] at hj
    split at hj
    · rw [List.getElem?_drop] at hj
      cases hx : l[p + j]? with
      | none => rw [hx] at hj; cases hj
      | some x => rw [hx] at hj; injection hj with hj; rw [← hj]; exact h _ _ hx
    · cases hj
  one := fun u hu => by
    unfold intsV at hu
    obtain ⟨x, _, rfl⟩ := List.mem_map.1 hu
    rfl
  lt := fun ad e _ => by injection e with e; subst e; exact hlt

/-- the numbers that are visited one after the other, in memory apart from what has been found -/
structure Todo (bf : Nat) (w : World) (v : Value) (A : Option Addr) (l : List Nat) : Prop where
  at_ : NatsAt w A l
  ne : ∀ b o, A = some ⟨b, o, none⟩ → 0 < l.length → b ≠ bf ∧ v.ownBlock ≠ some b
theorem Todo.kept {bf : Nat} {w w' : World} {v v' : Value} {A : Option Addr} {l : List Nat} (h : Todo bf w v A l) (hk : VKeeps bf v w v' w') : Todo bf w' v' A l where
  at_ := fun k j hj => by
    obtain ⟨b, o, e, hlt, hc⟩ := h.at_ k j hj
    obtain ⟨h1, h2⟩ := h.ne b o e (by have := (List.getElem?_eq_some_iff.1 hj).1; omega)
    exact ⟨b, o, e, by have := hk.size; omega, (World.cell?_of_block (a := ⟨b, o + k, none⟩) (hk.block b hlt h1 h2)).trans hc⟩
  ne := fun b o e h0 => by
    obtain ⟨h1, h2⟩ := h.ne b o e h0
    refine ⟨h1, fun e2 => ?_⟩
    obtain ⟨j, hj⟩ : ∃ j, l[0]? = some j := ⟨_, List.getElem?_eq_getElem h0⟩
    obtain ⟨b', o', e', hlt, _⟩ := h.at_ 0 j hj
    rw [e] at e'; injection e' with e'; injection e' with e' _
    rcases hk.row with hr | ⟨g, hr, hg⟩
    · rw [hr] at e2; exact h2 e2
    · rw [hr] at e2; injection e2 with e2; omega

set_option maxRecDepth 100000 in
set_option maxHeartbeats 8000000 in
theorem visit_any (base bg bf bv cap : Nat) (A : Option Addr) (ns : List Nd) (hok : VisOk ns) (hl : ns.length ≤ cap) (hc : cap ≤ maxLen) (hsm : ns.length ≤ 1000000) (hbg : bg < base) (hbf : bf < base) (hbv : bv < base) (hgf : bg ≠ bf) (hvf : bv ≠ bf) :
    ∀ (f j : Nat) (u : Nd) (acc : List Nd) (v : Value) (w : World), ns[j]? = some u → 5 ≤ u.depth + f → acc.length + (leavesF ns f j).length ≤ 2000000 → Vis base bg bf bv A cap ns w acc v →
    Calls Try.prog 113 #[.int .i64 j, .pointer (some ⟨bg, 0, none⟩), .pointer (some ⟨bf, 0, none⟩), .pointer (some ⟨bv, 0, none⟩)] w fun e w' => e = .returned (.tuple #[]) ∧ ∃ v', Vis base bg bf bv A cap ns w' (acc ++ pickN ns (leavesF ns f j)) v' ∧ VKeeps bf v w v' w' := by
  intro f
  induction f with
  | zero => intro j u acc v w hj hd; have := (hok.dep u (List.mem_of_getElem? hj)).2; omega
  | succ f ih =>
  intro j u acc v w hj hdf hlen hvis
  by_cases hleaf : leafB u.kind = true
  · have e1 : leavesF ns (f + 1) j = [j] := by rw [leavesF_at hj, if_pos hleaf]
    rw [e1] at hlen ⊢
    have e2 : pickN ns [j] = [u] := by unfold pickN; rw [List.map_singleton, getN_at hj]
    rw [e2]
    exact visit_leaf base bg bf bv cap A ns hl hc hbg hbf hbv hgf hvf j u acc v w hj hleaf (by simpa using hlen) hvis
  have hleaf : leafB u.kind = false := by simpa using hleaf
  have e1 : leavesF ns (f + 1) j = (kidsO ns j u.kind).flatMap (leavesF ns f) := by rw [leavesF_at hj, hleaf]; rfl
  rw [e1] at hlen ⊢
  have hud := hok.dep u (List.mem_of_getElem? hj)
  have HKD := Lib.hid (fun k (hk : k ∈ kidsO ns j u.kind) => kids_at hj (kidsO_mem hk))
  have hsz := hvis.sz
  have hjn : j < ns.length := (List.getElem?_eq_some_iff.1 hj).1
  have HJ := Lib.hid hj
  have HK6 := Lib.hid (hok.six j)
  have HHN := Lib.hid (fun (h : u.kind = 7) => hok.hon j u hj h)
  have HKK := Lib.hid (fun wx (hn : NdsAt wx A ns) => kidsOf_any A cap j ns u hj hl hc hsm (by omega) wx hn)
  obtain ⟨b, o, hA, hb1, hb2, hva⟩ := hvis.nds j u hj
  subst hA
  have HVIS := Lib.hid hvis
  have HIS := Lib.hid (fun w => isLeaf_is u w false hleaf)
  have HUV := Lib.hid hva
  have HLEN := Lib.hid hlen
  have HIH := Lib.hid ih
  have hg0 := hvis.g.cell
  obtain ⟨y0, y1, y2, y3, y4, y5, y6, y7⟩ := hva
  obtain ⟨N, hN⟩ : ∃ N, N = ns.length := ⟨_, rfl⟩
  have HN := Lib.hid hN
  rw [← hN] at hl hjn hg0 HKK
  unfold maxLen at hc
  clear hj hvis hleaf hN ih e1 hlen
  go_enter Try.func113, Try.ntmps113
  go_wp2_with fail
  refine (HIS.out _).mono ?_; rintro e w1 ⟨rfl, hb⟩
  have HV1 := Lib.hid (HVIS.out.below hb)
  have HK1 := Lib.hid (VKeeps.of_below (bf := bf) v hb)
  have hs1 : b < w1.heap.size := by have := hb.size; omega
  have HB := Lib.hid (HUV.out.below hb (by omega))
  clear hb y0 y1 y2 y3 y4 y5 y6 y7 hg0
  have hg1 := HV1.out.g.cell
  rw [← HN.out] at hg1
  have hsb := HV1.out.sz
  have hs3 : bg < w1.heap.size := by omega
  go_wp2_with fail
  refine (HKK.out w1 (fun k x hx => by obtain ⟨b', o', e, h1, h2, h3⟩ := HV1.out.nds k x hx; exact ⟨b', o', e, by omega, h3⟩)).mono ?_
  rintro e w2 ⟨Ak, ck, rfl, hown, hb⟩
  have HV2 := Lib.hid (HV1.out.below hb)
  have HK2 := Lib.hid (HK1.out.trans (VKeeps.of_below (bf := bf) v hb))
  have HOW := Lib.hid hown
  have hs12 : w1.heap.size ≤ w2.heap.size := hb.size
  have hs2 : b < w2.heap.size := by omega
  have y0 := (HB.out.below hb (by omega)).c0
  clear hown hb hg1
  have hg2 := HV2.out.g.cell
  rw [← HN.out] at hg2
  have hbw1 : ∀ g, v.ownBlock = some g → g < w1.heap.size := fun g e => (HV1.out.own.lt g e).2
  have HTD := Lib.hid (show Todo bf w2 v Ak (kidsL ns j) from ⟨row_ints HOW.out, fun b' o' e h0 => by
    have h1 := own_blk HOW.out b' o' e
    exact ⟨by omega, fun e2 => by have := hbw1 b' e2; omega⟩⟩)
  have HOB := Lib.hid (own_len HOW.out)
  have HOK := Lib.hid (own_blk HOW.out)
  have HBW := Lib.hid hbw1
  clear hbw1
  go_upto_if 28 with fail
  go_cut [5] (fun s wx => ∃ (A2 : Option Addr) (c2 : Nat), s = .slice A2 (kidsO ns j u.kind).length c2 ∧ (kidsO ns j u.kind).length ≤ c2 ∧ c2 ≤ 9223372036854775807 ∧ Hid (Vis base bg bf bv (some ⟨b, o, none⟩) cap ns wx acc v) ∧ Hid (VKeeps bf v w v wx) ∧ Hid (Todo bf wx v A2 (kidsO ns j u.kind)))
  case first =>
    by_cases hk7 : u.kind = 7
    · have hkb : (u.kind == 7) = true := by simpa using hk7
      have HKO := Lib.hid (show kidsO ns j u.kind = (kidsL ns j).drop 1 ++ (kidsL ns j).take 1 by unfold kidsO; rw [if_pos hk7])
      have h1k := HHN.out hk7
      have h6k := HK6.out
      obtain ⟨K, hK⟩ : ∃ K, K = (kidsL ns j).length := ⟨_, rfl⟩
      have HKL := Lib.hid hK
      rw [← hK] at h1k h6k HOW HOB ⊢
      clear hK
      have hck := HOB.out.1
      have hcm := HOB.out.2.1
      unfold maxLen at hcm
      obtain ⟨kb, rfl⟩ : ∃ kb, Ak = some ⟨kb, 0, none⟩ := by
        cases Ak with
        | none => have := HOB.out.2.2 rfl; omega
        | some ad =>
          obtain ⟨A2, c2, hv, -, -, h3, -⟩ := own_slice HOW.out
          injection hv with e1 e2 e3
          subst e1 e3
          obtain ⟨g, e, _⟩ := h3 ad rfl
          exact ⟨g, by rw [e]⟩
      have HCC := Lib.hid (fun (p1 c1 : Nat) (h1 : p1 + (K - 1) ≤ K) (h2 : ((kidsL ns j).drop p1).take (K - 1) = (kidsL ns j).drop 1) =>
        show Calls Try.prog 114 #[.slice (some ⟨w2.heap.size, 0, none⟩) 2 2] (w2.alloc (.cells #[.slice (some ⟨kb, p1, none⟩) (K - 1) c1, .slice (some ⟨kb, 0, none⟩) 1 ck] 38)).drew (GotRow (w2.alloc (.cells #[.slice (some ⟨kb, p1, none⟩) (K - 1) c1, .slice (some ⟨kb, 0, none⟩) 1 ck] 38)).drew 3 1 K (intsV (kidsO ns j u.kind))) from by
        have hb : Below w2.heap.size w2 (w2.alloc (.cells #[.slice (some ⟨kb, p1, none⟩) (K - 1) c1, .slice (some ⟨kb, 0, none⟩) 1 ck] 38)).drew := ((Below.refl _ _).alloc (Nat.le_refl _) _).drew
        have hx := heap_alloc_new w2 (.cells #[.slice (some ⟨kb, p1, none⟩) (K - 1) c1, .slice (some ⟨kb, 0, none⟩) 1 ck] 38)
        generalize hW : (w2.alloc (.cells #[.slice (some ⟨kb, p1, none⟩) (K - 1) c1, .slice (some ⟨kb, 0, none⟩) 1 ck] 38)).drew = W at hb
        have hx : W.heap[w2.heap.size]? = some (.cells #[.slice (some ⟨kb, p1, none⟩) (K - 1) c1, .slice (some ⟨kb, 0, none⟩) 1 ck] 38 (0, 0)) := by rw [← hW]; exact hx
        have hkl : kb < w2.heap.size := (HOK.out kb 0 rfl).2.1
        have hna := row_ints HOW.out
        have hcell : ∀ k x, (kidsL ns j)[k]? = some x → W.cell? ⟨kb, k, none⟩ = some (.int .i64 (x : Nat)) := fun k x hk => by
          obtain ⟨b', o', e, hlt, hc⟩ := hna k x hk
          injection e with e; injection e with e1 e2
          subst e1 e2
          rw [Nat.zero_add] at hc
          exact (hb.cell (p := ⟨kb, k, none⟩) hkl).trans hc
        have hWs := (Array.getElem?_eq_some_iff.1 hx).1
        have h0 := concatInt (some ⟨w2.heap.size, 0, none⟩) 2 [⟨some ⟨kb, p1, none⟩, K - 1, c1, intsV (((kidsL ns j).drop p1).take (K - 1))⟩, ⟨some ⟨kb, 0, none⟩, 1, ck, intsV (((kidsL ns j).drop 0).take 1)⟩] W (fun k s hk => by
            refine ⟨w2.heap.size, 0, rfl, hWs, ?_⟩
            rw [Nat.zero_add, cell_of_blk hx]
            match k, hk with
            | 0, hk => injection hk with hk; subst hk; rfl
            | 1, hk => injection hk with hk; subst hk; rfl
            | k + 2, hk => simp at hk) (fun s hs => by
            simp at hs
            rcases hs with rfl | rfl
            · exact src_ints hcell (by omega) p1 (K - 1) c1 (by rw [← HKL.out]; exact h1)
            · exact src_ints hcell (by omega) 0 1 ck (by rw [← HKL.out]; omega)) (by simp [sumN]; omega) (by simp)
        have e1 : sumN [⟨some ⟨kb, p1, none⟩, K - 1, c1, intsV (((kidsL ns j).drop p1).take (K - 1))⟩, ⟨some ⟨kb, 0, none⟩, 1, ck, intsV (((kidsL ns j).drop 0).take 1)⟩] = K := by simp [sumN]; omega
        rw [e1] at h0
        rw [HKO.out, ← h2]
        have e2 : intsV (((kidsL ns j).drop p1).take (K - 1) ++ (kidsL ns j).take 1) = [(⟨some ⟨kb, p1, none⟩, K - 1, c1, intsV (((kidsL ns j).drop p1).take (K - 1))⟩ : Src), ⟨some ⟨kb, 0, none⟩, 1, ck, intsV (((kidsL ns j).drop 0).take 1)⟩].flatMap (·.xs) := by simp [intsV]
        rw [e2]
        exact h0)
      have HND := Lib.hid (fun (W w4 : World) (A3 : Option Addr) (c3 : Nat) (hb : Below w2.heap.size w2 W) (own : w4.ownsRow W.heap.size 3 1 (.slice A3 K c3) K (intsV (kidsO ns j u.kind))) (hb4 : Below W.heap.size W w4) =>
        show Vis base bg bf bv (some ⟨b, o, none⟩) cap ns w4 acc v ∧ VKeeps bf v w v w4 ∧ Todo bf w4 v A3 (kidsO ns j u.kind) from
        ⟨HV2.out.below (below_more hb hb4), HK2.out.trans (VKeeps.of_below v (below_more hb hb4)), row_ints own, fun b' o' e h0 => by
          have h1 := own_blk own b' o' e
          have h2 := hb.size
          exact ⟨by omega, fun e2 => by have := HBW.out b' e2; omega⟩⟩)
      by_cases hc1 : ck = 1
      · have hK1 : K = 1 := by omega
        have HC1 := Lib.hid (HCC.out 0 0 (by omega) (by rw [show (kidsL ns j).drop 1 = [] from List.drop_eq_nil_of_le (by rw [← HKL.out]; omega), hK1]; rfl))
        subst hK1
        subst hc1
        clear HCC
        go_wp2_with fail
        go_region_with (go_at_call 114; refine HC1.out.mono ?_; rintro e w4 ⟨A3, c3, rfl, own, hb4⟩; have HR := Lib.hid (HND.out _ w4 A3 c3 (((Below.refl _ _).alloc (Nat.le_refl _) _).drew) own hb4); have HOL := Lib.hid (own_len own); clear own hb4)
        all_goals (
          go_wp2_with fail
          go_meet
          exact ⟨A3, c3, by rw [kidsO_len, ← HKL.out], by rw [kidsO_len, ← HKL.out]; exact HOL.out.1, by have := HOL.out.2.1; unfold maxLen at this; omega, Lib.hid HR.out.1, Lib.hid HR.out.2.1, Lib.hid HR.out.2.2⟩)
      · have hcf : (ck = 1) = False := eq_false hc1
        have HC1 := Lib.hid (HCC.out 1 (ck - 1) (by omega) (by rw [List.take_of_length_le (by rw [List.length_drop, ← HKL.out]; omega)]))
        clear HCC
        go_wp2_with fail
        go_region_with (go_at_call 114; refine HC1.out.mono ?_; rintro e w4 ⟨A3, c3, rfl, own, hb4⟩; have HR := Lib.hid (HND.out _ w4 A3 c3 (((Below.refl _ _).alloc (Nat.le_refl _) _).drew) own hb4); have HOL := Lib.hid (own_len own); clear own hb4)
        all_goals (
          go_wp2_with fail
          go_meet
          exact ⟨A3, c3, by rw [kidsO_len, ← HKL.out], by rw [kidsO_len, ← HKL.out]; exact HOL.out.1, by have := HOL.out.2.1; unfold maxLen at this; omega, Lib.hid HR.out.1, Lib.hid HR.out.2.1, Lib.hid HR.out.2.2⟩)
    · have hkb : (u.kind == 7) = false := by simpa using hk7
      have HKO := Lib.hid (show kidsO ns j u.kind = kidsL ns j by unfold kidsO; rw [if_neg hk7])
      go_wp2_with fail
      go_meet
      refine ⟨Ak, ck, by rw [HKO.out], by rw [HKO.out]; exact HOB.out.1, by have := HOB.out.2.1; unfold maxLen at this; omega, HV2, HK2, Lib.hid (by rw [HKO.out]; exact HTD.out)⟩
  case rest =>
  obtain ⟨A2, c2, rfl, hn2, hc2, hv3, hk3, ht3⟩ := hcut
  obtain ⟨w3, rfl⟩ : ∃ w3, w3 = wc := ⟨_, rfl⟩
  have HV3 := hv3
  have HK3 := hk3
  have HT3 := ht3
  clear hv3 hk3 ht3 hg2 y0 HV2 HK2 HTD HOW HOB HOK HV1 HK1 HBW
  obtain ⟨ks, hks⟩ : ∃ ks, ks = kidsO ns j u.kind := ⟨_, rfl⟩
  rw [← hks] at HKD HLEN HT3 hn2 ⊢
  have HKS := Lib.hid hks
  obtain ⟨n, hn⟩ : ∃ n, n = ks.length := ⟨_, rfl⟩
  rw [← hn] at hn2 ⊢
  have HNK := Lib.hid hn
  clear hks hn hs1 hs2 hs12 hs3 hsb
  go_wp2_with fail
  go_loopw [7, 37] (fun _ i wr => ∃ (k : Nat) (v' : Value), k ≤ n ∧ i = .int .i64 k ∧ Hid (Vis base bg bf bv (some ⟨b, o, none⟩) cap ns wr (acc ++ pickN ns ((ks.take k).flatMap (leavesF ns f))) v') ∧ Hid (VKeeps bf v w v' wr) ∧ Hid (Todo bf wr v' A2 ks)) (fun _ i _ => n - (intOf i).toNat)
  case atStart => exact ⟨0, v, Nat.zero_le _, rfl, Lib.hid (by simpa [pickN] using HV3.out), HK3, HT3⟩
  case round =>
    obtain ⟨k, v', hk, rfl, hv, hkk, ht⟩ := hrel
    have HVk := Lib.hid hv.out
    have HKk := Lib.hid hkk.out
    have HTk := Lib.hid ht.out
    clear hv hkk ht
    by_cases hlt : k < n
    · obtain ⟨x, hx⟩ : ∃ x, ks[k]? = some x := ⟨_, List.getElem?_eq_getElem (by have := HNK.out; omega)⟩
      obtain ⟨ux, hux, hdx⟩ := HKD.out x (List.mem_of_getElem? hx)
      obtain ⟨b', o', e, hblt, hcx⟩ := HTk.out.at_ k x hx
      subst e
      have hfn := HVk.out.fn.cell
      have HFM := Lib.hid (show (ks.take (k + 1)).flatMap (leavesF ns f) = (ks.take k).flatMap (leavesF ns f) ++ leavesF ns f x by
        obtain ⟨hk', e⟩ := List.getElem?_eq_some_iff.1 hx
        rw [List.take_succ_eq_append_getElem hk', e]; simp)
      have HLB := Lib.hid (show (acc ++ pickN ns ((ks.take k).flatMap (leavesF ns f))).length + (leavesF ns f x).length ≤ 2000000 by
        have h1 : ((ks.take (k + 1)).flatMap (leavesF ns f)).length ≤ (ks.flatMap (leavesF ns f)).length := by
          conv => rhs; rw [← List.take_append_drop (k + 1) ks]
          rw [List.flatMap_append, List.length_append]; omega
        rw [HFM.out, List.length_append] at h1
        have := HLEN.out
        unfold pickN
        rw [List.length_append, List.length_map]; omega)
      have HC := Lib.hid (HIH.out x ux _ v' wr hux (by omega) HLB.out HVk.out)
      clear hx hux hdx
      go_wp2_with fail
      refine HC.out.mono ?_; rintro e w4 ⟨rfl, v4, hv4, hk4⟩
      have HV4 := Lib.hid (show Vis base bg bf bv (some ⟨b, o, none⟩) cap ns w4 (acc ++ pickN ns ((ks.take (k + 1)).flatMap (leavesF ns f))) v4 by
        rw [HFM.out]
        unfold pickN at hv4 ⊢
        rw [List.map_append, ← List.append_assoc]; exact hv4)
      have HK4 := Lib.hid (HKk.out.trans hk4)
      have HT4 := Lib.hid (HTk.out.kept hk4)
      clear hv4 hk4 hcx hfn
      go_wp2_with fail
      go_roundw
      case rel => exact ⟨k + 1, v4, by omega, by go_num, HV4, HK4, HT4⟩
      case measure => simp [intOf]; omega
    · obtain rfl : k = n := by omega
      have HT := Lib.hid (show ks.take k = ks by rw [HNK.out, List.take_length])
      go_wp2_with fail
      go_end0
      exact ⟨rfl, v', by have := HVk.out; rw [HT.out, HKS.out] at this; exact this, HKk.out⟩

end Go.Proofs.Ytilagndfohnjnaa

/- leaves, markOf, and the line of a text, by their contracts. -/
namespace Go.Proofs.Ytilagndfohnjnaa
open Go.RowKit

theorem pow_five : (6 : Nat) ^ 5 = 7776 := by decide
set_option maxRecDepth 100000 in
set_option maxHeartbeats 4000000 in
theorem leaves_any (A : Option Addr) (cap : Nat) (ns : List Nd) (hok : VisOk ns) (h0 : 0 < ns.length) (hl : ns.length ≤ cap) (hc : cap ≤ maxLen) (hsm : ns.length ≤ 1000000) (w : World) (hns : NdsAt w A ns) :
    Calls Try.prog 99 #[.slice A ns.length cap] w (GotRow w 78 8 (leavesF ns 5 0).length ((pickN ns (leavesF ns 5 0)).flatMap Nd.cells)) := by
  obtain ⟨u, hu⟩ : ∃ u, ns[0]? = some u := ⟨_, List.getElem?_eq_getElem h0⟩
  have HLL := Lib.hid (leavesF_len hok 5 0)
  rw [pow_five] at HLL
  have HV := Lib.hid (fun w' (acc : List Nd) (v : Value) (h1 : acc.length + (leavesF ns 5 0).length ≤ 2000000) (hvis : Vis (w.heap.size + 3) w.heap.size (w.heap.size + 1) (w.heap.size + 1 + 1) A cap ns w' acc v) =>
    visit_any (w.heap.size + 3) w.heap.size (w.heap.size + 1) (w.heap.size + 1 + 1) cap A ns hok hl hc hsm (by omega) (by omega) (by omega) (by omega) (by omega) 5 0 u acc v w' hu (by have := (hok.dep u (List.mem_of_getElem? hu)).1; omega) h1 hvis)
  have HNS := Lib.hid hns
  clear hns hu
  go_enter Try.func99, Try.ntmps99
  go_wp2_with fail
  obtain ⟨W, hW⟩ : ∃ W, W = (((w.alloc (.cells #[.slice A ns.length cap] 25)).alloc (.cells #[.slice none 0 0] 25)).alloc (.cells #[.func (.func 113) #[] #[.pointer (some ⟨w.heap.size, 0, none⟩), .pointer (some ⟨w.heap.size + 1, 0, none⟩), .pointer (some ⟨w.heap.size + 1 + 1, 0, none⟩)]] 128)) := ⟨_, rfl⟩
  rw [← hW]
  have hsz : W.heap.size = w.heap.size + 3 := by rw [hW]; simp
  have hB0 : Below w.heap.size w W := by
    rw [hW]; exact (((Below.refl _ w).alloc (Nat.le_refl _) _).alloc (by simp) _).alloc (by simp; omega) _
  have B2 : Boxed W (w.heap.size + 1 + 1) 128 (.func (.func 113) #[] #[.pointer (some ⟨w.heap.size, 0, none⟩), .pointer (some ⟨w.heap.size + 1, 0, none⟩), .pointer (some ⟨w.heap.size + 1 + 1, 0, none⟩)]) := by
    have := Boxed.new ((w.alloc (.cells #[.slice A ns.length cap] 25)).alloc (.cells #[.slice none 0 0] 25)) 128 (.func (.func 113) #[] #[.pointer (some ⟨w.heap.size, 0, none⟩), .pointer (some ⟨w.heap.size + 1, 0, none⟩), .pointer (some ⟨w.heap.size + 1 + 1, 0, none⟩)])
    simp only [World.size_alloc] at this; rw [hW]; exact this
  have B1 : Boxed W (w.heap.size + 1) 25 (.slice none 0 0) := by
    have := Boxed.new (w.alloc (.cells #[.slice A ns.length cap] 25)) 25 (.slice none 0 0)
    simp only [World.size_alloc] at this; rw [hW]; exact this.alloc _
  have B0 : Boxed W w.heap.size 25 (.slice A ns.length cap) := by
    have := Boxed.new w 25 (.slice A ns.length cap)
    rw [hW]; exact (this.alloc _).alloc _
  have HVI := Lib.hid (show Vis (w.heap.size + 3) w.heap.size (w.heap.size + 1) (w.heap.size + 1 + 1) A cap ns W [] (.slice none 0 0) from
    ⟨B0, B1, B2, fun k x hk => by
      obtain ⟨b, o, e, hlt, hv⟩ := HNS.out k x hk
      exact ⟨b, o, e, by omega, by omega, hv.below hB0 hlt⟩, World.ownsRow_nil _ _ _ _, by omega⟩)
  have HB0 := Lib.hid hB0
  have HSZ := Lib.hid hsz
  clear hW hsz hB0 B0 B1 B2
  refine (HV.out W [] (.slice none 0 0) (by have := HLL.out; simp; omega) HVI.out).mono ?_; rintro e w1 ⟨rfl, v, hv, hk⟩
  have hc1 := hv.f.cell
  have HR := Lib.hid (And.intro hv.own hk)
  clear hv hk
  go_wp2_with fail
  go_ret
  obtain ⟨A2, c2, rfl, -, -, -, -⟩ := own_slice HR.out.1
  have e1 : (([] : List Nd) ++ pickN ns (leavesF ns 5 0)).length = (leavesF ns 5 0).length := by simp [pickN]
  have h1 := HR.out.1
  rw [e1] at h1
  refine ⟨A2, c2, by rw [← e1]; rfl, own_base h1 (by omega), ?_⟩
  have hs := HSZ.out
  have hb := HB0.out
  refine ⟨HR.out.2.os.trans hb.os, HR.out.2.tape.trans hb.tape, HR.out.2.output.trans hb.output, by have := HR.out.2.size; omega, fun j hj => ?_⟩
  rw [HR.out.2.block j (by omega) (by omega) (by simp [Value.ownBlock]), hb.block j hj]

def markV (k s st mn mx : Int) : Value := if k = 6 then .agg #[.int .i64 (-1), .int .i64 0, .int .i64 mn, .int .i64 mx] else .agg #[.int .i64 s, .int .i64 st, .int .i64 0, .int .i64 0]
set_option maxHeartbeats 1600000 in
theorem markOf_any (u : Nd) (w : World) : Calls Try.prog 100 #[u.val] w fun e w' => e = .returned (markV u.kind u.sign u.state u.min u.max) ∧ Below w.heap.size w w' := by
  obtain ⟨kind, depth, sign, turn, mirror, state, mn, mx⟩ := u
  unfold Nd.val
  dsimp only
  by_cases h6 : kind = 6
  · subst h6
    have HF := Lib.hid (show markV 6 sign state mn mx = .agg #[.int .i64 (-1), .int .i64 0, .int .i64 mn, .int .i64 mx] from if_pos rfl)
    go_enter Try.func100, Try.ntmps100
    go_wp2
    refine bodyPost_ret (v := .agg #[.int .i64 (-1), .int .i64 0, .int .i64 mn, .int .i64 mx]) (by simp [results, Try.results100, go_sem]) rfl ⟨by rw [HF.out], two_under _ _ _⟩
  · have hb : (kind == 6) = false := by simpa using h6
    have HF := Lib.hid (show markV kind sign state mn mx = .agg #[.int .i64 sign, .int .i64 state, .int .i64 0, .int .i64 0] from if_neg h6)
    clear h6
    go_enter Try.func100, Try.ntmps100
    go_wp2
    refine bodyPost_ret (v := .agg #[.int .i64 sign, .int .i64 state, .int .i64 0, .int .i64 0]) (by simp [results, Try.results100, go_sem]) rfl ⟨by rw [HF.out], two_under _ _ _⟩

end Go.Proofs.Ytilagndfohnjnaa

/- The line of a text (line). -/
namespace Go.Proofs.Ytilagndfohnjnaa
open Go.RowKit

structure Mk where
  sign : Int
  state : Int
  min : Int
  max : Int
def Mk.cells (m : Mk) : List Value := [.int .i64 m.sign, .int .i64 m.state, .int .i64 m.min, .int .i64 m.max]
def markR (u : Nd) : Mk := if u.kind = 6 then ⟨-1, 0, u.min, u.max⟩ else ⟨u.sign, u.state, 0, 0⟩
def lineP (p : Nat × List Nd) : List Mk := (pickN p.2 (leavesF p.2 5 0)).map markR
def lineR (ns : List Nd) : List Mk := (partsW 0 ns).flatMap lineP
/-- what a text must have for its groups to be read -/
def LinOk (ns : List Nd) : Prop := ∀ p ∈ partsW 0 ns, VisOk p.2
theorem markV_is (u : Nd) : markV u.kind u.sign u.state u.min u.max = .agg #[.int .i64 (markR u).sign, .int .i64 (markR u).state, .int .i64 (markR u).min, .int .i64 (markR u).max] := by
  unfold markV markR; split <;> rfl
theorem mk_one (m : Mk) : ∀ u ∈ m.cells, u.oneCell' = true := fun u hu => by
  simp [Mk.cells] at hu
  rcases hu with rfl | rfl | rfl | rfl <;> rfl
theorem infoMk : (Try.prog.info? 69).map (fun i => (i.zero, i.size, i.bytes)) = some (some (.agg #[.int .i64 0, .int .i64 0, .int .i64 0, .int .i64 0]), 4, 32) := by kernel_rfl
theorem partsW_pos : ∀ (n o : Nat) (l : List Nd), l.length ≤ n → ∀ p ∈ partsW o l, 0 < p.2.length ∧ p.2.length ≤ l.length := by
  intro n
  induction n with
  | zero => intro o l hl p hp; rw [List.eq_nil_of_length_eq_zero (by omega : l.length = 0), partsW_nil] at hp; cases hp
  | succ n ih =>
    intro o l hl p hp
    cases l with
    | nil => rw [partsW_nil] at hp; cases hp
    | cons u r =>
      rw [partsW_cons] at hp
      rcases List.mem_cons.1 hp with rfl | hp
      · constructor
        · rw [List.length_take]; simp; omega
        · rw [List.length_take]; omega
      · have := ih _ _ (by simp at hl ⊢; omega) p hp
        simp only [List.length_drop] at this
        exact ⟨this.1, by omega⟩
theorem own_nodes {w : World} {base : Nat} {A : Option Addr} {n c : Nat} {l : List Nd} (h : w.ownsRow base 78 8 (.slice A n c) n (l.flatMap Nd.cells)) : NdsAt w A l := fun k x hk => by
  obtain ⟨A2, c2, hv, -, -, h3, h4⟩ := own_slice h
  injection hv with e1 e2 e3
  subst e1 e3
  have hlen : l.length = n := by
    have h1 := h.1
    have : (l.flatMap Nd.cells).length = l.length * 8 := flat_len (f := Nd.cells) (fun _ => rfl) _
    omega
  cases A with
  | none => have := h4 rfl; have := (List.getElem?_eq_some_iff.1 hk).1; omega
  | some ad =>
    obtain ⟨g, rfl, _, hg, hc⟩ := h3 ad rfl
    have ha : ∀ i, i < 8 → w.cell? ⟨g, k * 8 + i, none⟩ = (Nd.cells x)[i]? := fun i hi => by
      have hi' : i < (Nd.cells x).length := hi
      rw [hc (k * 8 + i) ((Nd.cells x)[i]) (by rw [flat_at (c := 8) (fun _ => rfl) _ _ _ hk i hi]; exact List.getElem?_eq_getElem hi'), List.getElem?_eq_getElem hi']
    refine ⟨g, 0, rfl, hg, ?_⟩
    rw [Nat.zero_add]
    exact ⟨ha 0 (by omega), ha 1 (by omega), ha 2 (by omega), ha 3 (by omega), ha 4 (by omega), ha 5 (by omega), ha 6 (by omega), ha 7 (by omega)⟩
theorem row_parts {w : World} {base : Nat} {A : Option Addr} {n c : Nat} {l : List Value} (h : w.ownsRow base 25 1 (.slice A n c) n l) : ∀ k v, l[k]? = some v → ∃ g, A = some ⟨g, 0, none⟩ ∧ base ≤ g ∧ g < w.heap.size ∧ w.cell? ⟨g, k, none⟩ = some v := fun k v hk => by
  obtain ⟨A2, c2, hv, -, -, h3, h4⟩ := own_slice h
  injection hv with e1 e2 e3
  subst e1 e3
  have hlen : l.length = n := by have := h.1; omega
  cases A with
  | none => have := h4 rfl; have := (List.getElem?_eq_some_iff.1 hk).1; omega
  | some ad =>
    obtain ⟨g, rfl, hb, hg, hc⟩ := h3 ad rfl
    exact ⟨g, rfl, hb, hg, hc k v hk⟩
/-- an own row, appended to behind new memory -/
theorem keeps_append {bf : Nat} {v v' : Value} {w wq w1 : World} {blk : Obj} (hb : Below w.heap.size w wq) (hg : (wq.alloc blk).grownBy w1 v.ownBlock) (hat : v'.ownBlock = v.ownBlock ∨ v'.ownBlock = some (wq.heap.size + 1)) : VKeeps bf v w v' w1 where
  os := hg.os.trans hb.os
  tape := hg.tape.trans hb.tape
  output := hg.output.trans hb.output
  size := by have := hg.size; have := hb.size; rw [World.size_alloc] at *; omega
  block := fun k hk _ hne => by
    have := hb.size
    rw [hg.block k (by rw [World.size_alloc]; omega) (fun e => hne e.symm), heap_alloc_other _ _ _ (by omega), hb.block k hk]
  row := by
    rcases hat with h | h
    · exact .inl h
    · exact .inr ⟨_, h, by have := hb.size; omega⟩

/-- the marks so far, while the leaves of a group are gone through -/
structure Marks (w0 w : World) (v : Value) (ms : List Mk) (L : Option Addr) (l : List Nd) : Prop where
  below : Below w0.heap.size w0 w
  own : w.ownsRow w0.heap.size 69 4 v ms.length (ms.flatMap Mk.cells)
  nds : NdsAt w L l
  ne : ∀ b o, L = some ⟨b, o, none⟩ → 0 < l.length → v.ownBlock ≠ some b
theorem Marks.below_ {w0 w w' : World} {v : Value} {ms : List Mk} {L : Option Addr} {l : List Nd} (h : Marks w0 w v ms L l) (hb : Below w.heap.size w w') : Marks w0 w' v ms L l :=
  ⟨below_more h.below hb, ownsRow_of_block h.own (fun g hg => hb.block g (h.own.lt g hg).2), h.nds.below hb, h.ne⟩
theorem Marks.append {w0 w w1 : World} {v v' : Value} {ms : List Mk} {m : Mk} {L : Option Addr} {l : List Nd} {blk : Obj} (h : Marks w0 w v ms L l)
    (hown : w1.ownsRow w0.heap.size 69 4 v' (ms.length + 1) (ms.flatMap Mk.cells ++ m.cells)) (hg : (w.alloc blk).grownBy w1 v.ownBlock) (hat : v'.ownBlock = v.ownBlock ∨ v'.ownBlock = some (w.heap.size + 1)) :
    Marks w0 w1 v' (ms ++ [m]) L l := by
  have hs : w.heap.size + 1 ≤ w1.heap.size := by have := hg.size; rw [World.size_alloc] at this; exact this
  have hs0 := h.below.size
  refine ⟨((h.below.alloc hs0 blk).grown hg (by rw [World.size_alloc]; omega) (fun g hg => (h.own.lt g hg).1)), ?_, fun k x hk => ?_, fun b o e h0 => ?_⟩
  · have e : (ms ++ [m]).length = ms.length + 1 := by simp
    rw [e, List.flatMap_append]
    simpa using hown
  · obtain ⟨b, o, e, hlt, hv⟩ := h.nds k x hk
    have hne := h.ne b o e (by have := (List.getElem?_eq_some_iff.1 hk).1; omega)
    have hbk : w1.heap[b]? = w.heap[b]? := by rw [hg.block b (by rw [World.size_alloc]; omega) (fun e2 => hne e2.symm), heap_alloc_other _ _ _ hlt]
    have hc : ∀ q, w1.cell? ⟨b, q, none⟩ = w.cell? ⟨b, q, none⟩ := fun q => World.cell?_of_block (a := ⟨b, q, none⟩) hbk
    exact ⟨b, o, e, by omega, ⟨(hc _).trans hv.c0, (hc _).trans hv.c1, (hc _).trans hv.c2, (hc _).trans hv.c3, (hc _).trans hv.c4, (hc _).trans hv.c5, (hc _).trans hv.c6, (hc _).trans hv.c7⟩⟩
  · have hne := h.ne b o e h0
    rcases hat with hat | hat
    · rw [hat]; exact hne
    · rw [hat]
      obtain ⟨x, hx⟩ : ∃ x, l[0]? = some x := ⟨_, List.getElem?_eq_getElem h0⟩
      obtain ⟨b', o', e', hlt, _⟩ := h.nds 0 x hx
      rw [e] at e'; injection e' with e'; injection e' with e' _
      intro e2; injection e2 with e2; omega

theorem partsW_sub : ∀ (n o : Nat) (l : List Nd), l.length ≤ n → ∀ p ∈ partsW o l, ∃ q, p.1 = o + q ∧ p.2 = (l.drop q).take p.2.length := by
  intro n
  induction n with
  | zero => intro o l hl p hp; rw [List.eq_nil_of_length_eq_zero (by omega : l.length = 0), partsW_nil] at hp; cases hp
  | succ n ih =>
    intro o l hl p hp
    cases l with
    | nil => rw [partsW_nil] at hp; cases hp
    | cons u r =>
      rw [partsW_cons] at hp
      rcases List.mem_cons.1 hp with rfl | hp
      · refine ⟨0, rfl, ?_⟩
        rw [List.drop_zero, List.length_take, List.take_eq_take_iff]
        omega
      · obtain ⟨q, h1, h2⟩ := ih _ _ (by simp at hl ⊢; omega) p hp
        refine ⟨1 + spanN (u :: r) u.depth 0 + q, by omega, ?_⟩
        rw [List.drop_drop] at h2
        exact h2
theorem partsW_len : ∀ (n o : Nat) (l : List Nd), l.length ≤ n → (partsW o l).length ≤ l.length := by
  intro n
  induction n with
  | zero => intro o l hl; rw [List.eq_nil_of_length_eq_zero (by omega : l.length = 0), partsW_nil]; simp
  | succ n ih =>
    intro o l hl
    cases l with
    | nil => rw [partsW_nil]; simp
    | cons u r =>
      rw [partsW_cons]
      have := ih (o + (1 + spanN (u :: r) u.depth 0)) ((u :: r).drop (1 + spanN (u :: r) u.depth 0)) (by simp at hl ⊢; omega)
      simp only [List.length_cons, List.length_drop] at this ⊢
      omega
theorem lineP_len {p : Nat × List Nd} (h : VisOk p.2) : (lineP p).length ≤ 7776 := by
  unfold lineP pickN
  rw [List.length_map, List.length_map]
  have := leavesF_len h 5 0
  rw [pow_five] at this; exact this

theorem markOf_is (u : Nd) (w : World) : Calls Try.prog 100 #[.agg #[.int .i64 u.kind, .int .i64 u.depth, .int .i64 u.sign, .int .i64 u.turn, .bool u.mirror, .int .i64 u.state, .int .i64 u.min, .int .i64 u.max]] w fun e w' => e = .returned (.agg #[.int .i64 (markR u).sign, .int .i64 (markR u).state, .int .i64 (markR u).min, .int .i64 (markR u).max]) ∧ Below w.heap.size w w' := by
  rw [← markV_is]; exact markOf_any u w

set_option maxRecDepth 100000 in
set_option maxHeartbeats 8000000 in
theorem line_any (A : Option Addr) (cap : Nat) (ns : List Nd) (hok : LinOk ns) (hl : ns.length ≤ cap) (hc : cap ≤ maxLen) (hsm : ns.length ≤ 250) (w : World) (hns : NdsAt w A ns) :
    Calls Try.prog 68 #[.agg #[.slice A ns.length cap]] w (GotRow w 69 4 (lineR ns).length ((lineR ns).flatMap Mk.cells)) := by
  obtain ⟨iv, hiv, hzv, hsv, hbv⟩ := info_hid infoMk
  have HSP := Lib.hid (fun wx (hb : Below w.heap.size w wx) => split_any A cap ns wx (hns.below hb) hl hc (by omega))
  have HNS := Lib.hid hns
  have HOK := Lib.hid hok
  have HPP := Lib.hid (partsW_pos ns.length 0 ns (Nat.le_refl _))
  have hlen := hsm
  obtain ⟨N, hN⟩ : ∃ N, N = ns.length := ⟨_, rfl⟩
  rw [← hN] at HSP hl ⊢
  clear hns hok hN hsm
  have HB0 := Lib.hid (below_alloc w (.cells #[.slice A N cap] 27))
  go_enter Try.func68, Try.ntmps68
  go_wp2_with fail
  refine (HSP.out _ HB0.out).mono ?_; rintro e w1 ⟨Ap, cp, rfl, hown, hb⟩
  have HB1 := Lib.hid (below_more HB0.out hb)
  have HRP := Lib.hid (row_parts hown)
  have HOL := Lib.hid (own_len hown)
  clear hown hb HSP HB0
  obtain ⟨n, hn⟩ : ∃ n, n = (partsW 0 ns).length := ⟨_, rfl⟩
  have HN := Lib.hid hn
  rw [← hn] at HOL ⊢
  have hcp := HOL.out.1
  have hmp := HOL.out.2.1
  unfold maxLen at hmp
  clear hn
  have HPS := Lib.hid (partsW_sub ns.length 0 ns (Nat.le_refl _))
  have hnl : n ≤ 250 := by rw [HN.out]; have := partsW_len ns.length 0 ns (Nat.le_refl _); omega
  obtain ⟨ps, hps⟩ : ∃ ps, ps = partsW 0 ns := ⟨_, rfl⟩
  have HLR := Lib.hid (show lineR ns = ps.flatMap lineP by rw [hps]; rfl)
  unfold LinOk at HOK
  rw [← hps] at HPS HOK HRP HN HPP
  clear hps
  go_wp2_with fail
  go_loopw [3, 12] (fun v i wr => ∃ (k c : Nat), k ≤ n ∧ c ≤ k * 7776 ∧ i = .int .i64 k ∧ Hid (c = ((ps.take k).flatMap lineP).length) ∧ Hid (wr.ownsRow w1.heap.size 69 4 v c (((ps.take k).flatMap lineP).flatMap Mk.cells)) ∧ Hid (Below w1.heap.size w1 wr)) (fun _ i _ => n - (intOf i).toNat)
  case atStart => exact ⟨0, 0, Nat.zero_le _, Nat.le_refl _, rfl, Lib.hid rfl, Lib.hid (World.ownsRow_nil _ _ _ _), Lib.hid (Below.refl _ _)⟩
  case round =>
    obtain ⟨k, c, hk, hck, rfl, hcl, hown, hbw⟩ := hrel
    have HBW := Lib.hid hbw.out
    have HCL := Lib.hid hcl.out
    have HOW := Lib.hid hown.out
    clear hcl hown hbw
    by_cases hlt : k < n
    · obtain ⟨p, hp⟩ : ∃ p, ps[k]? = some p := ⟨_, List.getElem?_eq_getElem (by have := HN.out; omega)⟩
      obtain ⟨g, hAp, hg1, hg2, hgc⟩ := HRP.out k (partV A p) (by unfold partsV; rw [List.getElem?_map, hp]; rfl)
      subst hAp
      have hpm := List.mem_of_getElem? hp
      obtain ⟨hp0, hpl⟩ := HPP.out p hpm
      obtain ⟨q, hq, hps⟩ := HPS.out p hpm
      rw [Nat.zero_add] at hq
      obtain ⟨b, o, hA, hblt, hva0⟩ := HNS.out 0 _ (List.getElem?_eq_getElem (by omega))
      have HVO := Lib.hid (HOK.out p hpm)
      have HLP := Lib.hid (lineP_len (HOK.out p hpm))
      have HPV := Lib.hid (show partV A p = .slice (some ⟨b, o + p.1 * 8, none⟩) p.2.length p.2.length by rw [hA]; rfl)
      rw [HPV.out] at hgc
      have y1 := (HBW.out.cell (p := ⟨g, k, none⟩) hg2).trans hgc
      have hgw : g < wr.heap.size := by have := HBW.out.size; omega
      have HNP := Lib.hid (show NdsAt w (some ⟨b, o + p.1 * 8, none⟩) p.2 by
        have h1 := HNS.out
        rw [hA] at h1
        have h2 := (h1.drop q).take p.2.length
        rw [← hps, ← hq] at h2
        exact h2)
      have HLV := Lib.hid (leaves_any (some ⟨b, o + p.1 * 8, none⟩) p.2.length p.2 HVO.out hp0 (Nat.le_refl _) (by unfold maxLen; omega) (by omega) wr (HNP.out.below (below_more HB1.out HBW.out)))
      have HFM := Lib.hid (show (ps.take (k + 1)).flatMap lineP = (ps.take k).flatMap lineP ++ lineP p by
        obtain ⟨hk', e⟩ := List.getElem?_eq_some_iff.1 hp
        rw [List.take_succ_eq_append_getElem hk', e]; simp)
      obtain ⟨l, hll⟩ : ∃ l, l = pickN p.2 (leavesF p.2 5 0) := ⟨_, rfl⟩
      have HLL := Lib.hid (show lineP p = l.map markR by rw [hll]; rfl)
      have hml : (leavesF p.2 5 0).length = l.length := by rw [hll]; unfold pickN; rw [List.length_map]
      rw [← hll, hml] at HLV
      obtain ⟨m, hm⟩ : ∃ m, m = l.length := ⟨_, rfl⟩
      have HM := Lib.hid hm
      have hm7 : m ≤ 7776 := by have := HLP.out; rw [HLL.out, List.length_map] at this; omega
      rw [← hm] at HLV
      obtain ⟨P2, hP2⟩ : ∃ P2, P2 = p.2.length := ⟨_, rfl⟩
      obtain ⟨P1, hP1⟩ : ∃ P1, P1 = p.1 := ⟨_, rfl⟩
      rw [← hP1, ← hP2] at y1 HLV
      clear hp hpm hgc hps hq hva0 hll hml hm hP1 hP2 hA hp0 hpl HNP HPV
      go_wp2_with fail
      refine HLV.out.mono ?_; rintro e w2 ⟨Al, cl, rfl, hown, hb⟩
      have hol := own_len hown
      have hcl1 := hol.1
      have hcl2 := hol.2.1
      unfold maxLen at hcl2
      have hblk := HOW.out.lt
      have HMK := Lib.hid (show Marks w1 w2 u3 ((ps.take k).flatMap lineP) Al l from
        ⟨HBW.out.trans (hb.mono HBW.out.size), by rw [← HCL.out]; exact ownsRow_of_block HOW.out (fun g hg => hb.block g (HOW.out.lt g hg).2), own_nodes hown, fun b o e h0 e2 => by
          have h1 := own_blk hown b o e
          have h2 := (hblk b e2).2
          omega⟩)
      clear hown hb hol hblk y1 HLV HOW
      obtain ⟨base, hbase⟩ : ∃ base, base = (ps.take k).flatMap lineP := ⟨_, rfl⟩
      rw [← hbase] at HMK HCL HFM
      have HFM2 := Lib.hid (show (ps.take (k + 1)).flatMap lineP = base ++ l.map markR by rw [HFM.out, HLL.out])
      clear hbase
      go_wp2_with fail
      obtain ⟨wo, rfl⟩ : ∃ wo : World, wo = wr := ⟨_, rfl⟩
      go_loopw [3, 19] (fun v i wr => ∃ (j c2 : Nat), j ≤ m ∧ c2 ≤ c + j ∧ i = .int .i64 j ∧ Hid (c2 = (base ++ (l.take j).map markR).length) ∧ Hid (Marks w1 wr v (base ++ (l.take j).map markR) Al l)) (fun _ i _ => m - (intOf i).toNat)
      case atStart => exact ⟨0, c, Nat.zero_le _, by omega, rfl, Lib.hid (by simpa using HCL.out), Lib.hid (by simpa using HMK.out)⟩
      case round =>
        obtain ⟨j, c2, hj, hc2, rfl, hcl2', hmk⟩ := hrel
        have HC2 := Lib.hid hcl2'.out
        have HMJ := Lib.hid hmk.out
        clear hcl2' hmk
        by_cases hlj : j < m
        · obtain ⟨x, hx⟩ : ∃ x, l[j]? = some x := ⟨_, List.getElem?_eq_getElem (by have := HM.out; omega)⟩
          obtain ⟨lb, lo, hAl, hlb, hvx⟩ := HMJ.out.nds j x hx
          subst hAl
          obtain ⟨y0, y1, y2, y3, y4, y5, y6, y7⟩ := hvx
          have HSN := Lib.hid (show (l.take (j + 1)).map markR = (l.take j).map markR ++ [markR x] by
            obtain ⟨hk', e⟩ := List.getElem?_eq_some_iff.1 hx
            rw [List.take_succ_eq_append_getElem hk', e]; simp)
          obtain ⟨L2, hL2⟩ : ∃ L2, L2 = base ++ (l.take j).map markR := ⟨_, rfl⟩
          have HL2 := Lib.hid hL2
          rw [← hL2] at HMJ HC2
          clear hL2
          obtain ⟨Av, cv, hv, -, -, -, -⟩ := own_slice HMJ.out.own
          rw [← HC2.out] at hv
          subst hv
          have HMO := Lib.hid (fun wx => markOf_is x wx)
          obtain ⟨⟨ms, mt, mn, mx⟩, hmr⟩ : ∃ mm, mm = markR x := ⟨_, rfl⟩
          rw [← hmr] at HMO HSN
          dsimp only at HMO
          clear hx hmr
          go_wp2_with fail
          refine (HMO.out _).mono ?_; rintro e wq ⟨rfl, hbq⟩
          have HMQ := Lib.hid (HMJ.out.below_ (below_of hbq))
          clear hbq y0 y1 y2 y3 y4 y5 y6 y7
          have hsq := HMQ.out.below.size
          go_wp2_with (first
            | (at_builtin; refine wpList_append_src _ rfl (.tmp 23) (.tmp 26) 44 rfl w1.heap.size 69 iv (.agg #[.int .i64 0, .int .i64 0, .int .i64 0, .int .i64 0]) 4 32 Try.underlying44 hiv.out hzv.out hsv.out hbv.out rfl (by decide) (.slice Av c2 cv) c2 (L2.flatMap Mk.cells) rfl ?own2 (some ⟨wq.heap.size, 0, none⟩) 1 1 [.int .i64 ms, .int .i64 mt, .int .i64 mn, .int .i64 mx] rfl ?l2 ?n2 ?c2 ?o2 ?m2 ?b2 ?s2 (c2 + 1) rfl ?_))
          case own2 => have := HMQ.out.own; rw [← HC2.out] at this; exact this.alloc _
          case l2 => rfl
          case n2 => intro h; cases h
          case o2 => exact mk_one ⟨ms, mt, mn, mx⟩
          case c2 => intro ad had i u' hj; injection had with had; subst had; exact World.news_of_block (cs := #[.int .i64 ms, .int .i64 mt, .int .i64 mn, .int .i64 mx]) (heap_alloc_new wq _) i u' hj
          case m2 => unfold maxLen; omega
          case b2 => omega
          case s2 => rw [World.size_alloc]; omega
          intro A3 c3 w3 own3 hg3 hat3
          have HM3 := Lib.hid (HMQ.out.append (m := ⟨ms, mt, mn, mx⟩) (v' := .slice A3 (c2 + 1) c3) (by rw [← HC2.out]; exact own3) hg3 hat3)
          clear own3 hg3 hat3
          go_wp2_with fail
          go_roundw
          case rel => exact ⟨j + 1, c2 + 1, by omega, by omega, by go_num, Lib.hid (by rw [HSN.out, ← List.append_assoc, ← HL2.out, List.length_append, ← HC2.out]; rfl), Lib.hid (by rw [HSN.out, ← List.append_assoc, ← HL2.out]; exact HM3.out)⟩
          case measure => simp [intOf]; omega
        · obtain rfl : j = m := by omega
          have HT := Lib.hid (show l.take j = l by rw [HM.out, List.take_length])
          go_wp2_with fail
          go_roundw
          case rel => exact ⟨k + 1, c2, by omega, by omega, by go_num, Lib.hid (by rw [HFM2.out, HC2.out, HT.out]), Lib.hid (by have := HMJ.out.own; rw [HT.out] at this; rw [HFM2.out, HC2.out, HT.out]; exact this), Lib.hid HMJ.out.below⟩
          case measure => simp [intOf]; omega
    · obtain rfl : k = n := by omega
      have HT := Lib.hid (show ps.take k = ps by rw [HN.out, List.take_length])
      have HX := Lib.hid (show GotRow w 69 4 (lineR ns).length ((lineR ns).flatMap Mk.cells) (.returned u3) wr from by
        have h1 := HOW.out
        rw [HCL.out, HT.out, ← HLR.out] at h1
        obtain ⟨A2, c2, hv, -, -, -, -⟩ := own_slice h1
        exact ⟨A2, c2, by rw [hv], own_base (by rw [← hv]; exact h1) HB1.out.size, below_more HB1.out HBW.out⟩)
      go_wp2_with fail
      go_ret
      exact HX.out

end Go.Proofs.Ytilagndfohnjnaa
