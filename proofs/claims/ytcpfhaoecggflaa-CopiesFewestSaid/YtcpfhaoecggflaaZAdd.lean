/-
  A pair added to a stretch, in the program (layer 9).
-/
import Derived.Test.YtcpfhaoecggflaaZHld
import Derived.Test.YtcpfhaoecggflaaZSt2
import Derived.Test.YtcpfhaoecggflaaZAln
import Derived.IntWalk
namespace Go.Proofs.Ytcpfhaoecggflaa
open Go.RowKit

/-- the cells of a stretch in a block: how many places it has, and its signs -/
structure StIn (cur : Array Value) (off : Nat) (at' ext : Nat) (sg : List Int) (A : Option Addr) (c : Nat) : Prop where
  c0 : cur[off]? = some (.int .i64 at')
  c1 : cur[off + 1]? = some (.int .i64 ext)
  c2 : cur[off + 2]? = some (.slice A sg.length c)
/-- what lies where behind the call of add -/
structure AddQ (w w' : World) (base g off : Nat) (cur : Array Value) (s : St) (A : Option Addr) (c : Nat) (cur' : Array Value) (A' : Option Addr) (c' : Nat) (v : Value) : Prop where
  blk : w'.heap[g]? = some (.cells cur' 98 (0, 0))
  size : cur'.size = cur.size
  st : StIn cur' off s.at' s.ext s.sg A' c'
  rest : ∀ q, q ≠ off + 1 → q ≠ off + 2 → cur'[q]? = cur[q]?
  own : w'.ownsRow base 3 1 (.slice A' s.sg.length c') s.sg.length (intsZ s.sg)
  at_ : (Value.slice A' s.sg.length c').ownBlock = v.ownBlock ∨ ∃ n, (Value.slice A' s.sg.length c').ownBlock = some n ∧ w.heap.size ≤ n
  keep : ∀ k, k < w.heap.size → k ≠ g → some k ≠ v.ownBlock → w'.heap[k]? = w.heap[k]?
  below : Below base w w'
def GotAdd (w : World) (base g off : Nat) (cur : Array Value) (s : St) (A : Option Addr) (c : Nat) (v : Value) (e : Ending) (w' : World) : Prop :=
  e = .returned (.tuple #[]) ∧ ∃ cur' A' c', Hid (AddQ w w' base g off cur s A c cur' A' c' v)
theorem set_at {cur : Array Value} {k : Nat} {v : Value} (h : k < cur.size) : (cur.setIfInBounds k v)[k]? = some v := Array.getElem?_setIfInBounds_self_of_lt h
theorem set_ne {cur : Array Value} {k q : Nat} {v : Value} (h : q ≠ k) : (cur.setIfInBounds k v)[q]? = cur[q]? := Array.getElem?_setIfInBounds_ne (fun e => h e.symm)

theorem not_neg (p : Nat) : ((p : Int) != -1) = true := by simp

set_option maxHeartbeats 6400000 in
set_option maxRecDepth 100000 in
theorem addL_any (base g off : Nat) (cur : Array Value) (at' ext : Nat) (sg : List Int) (A : Option Addr) (c : Nat) (x : Nat) (B : Option Addr) (nb cb : Nat) (b : List Int) (w : World)
    (hg : w.heap[g]? = some (.cells cur 98 (0, 0))) (hst : StIn cur off at' ext sg A c) (hown : w.ownsRow base 3 1 (.slice A sg.length c) sg.length (intsZ sg)) (hext : ext ≤ 1000) (hbg : base ≤ g) (hbw : base ≤ w.heap.size) (hne : ∀ k, (Value.slice A sg.length c).ownBlock = some k → k ≠ g) :
    Calls Try.prog 89 #[.pointer (some ⟨g, off, none⟩), .agg #[.int .i64 x, .int .i64 (-1)], .slice B nb cb] w (GotAdd w base g off cur (St.add b ⟨at', ext, sg⟩ ((x : Int), -1)) A c (.slice A sg.length c)) := by
  have HE := Lib.hid (show St.add b ⟨at', ext, sg⟩ ((x : Int), -1) = ⟨at', ext + 1, sg⟩ by unfold St.add; simp)
  rw [HE.out]
  have hgl : g < w.heap.size := (Array.getElem?_eq_some_iff.1 hg).1
  have c1 : w.cell? ⟨g, off + 1, none⟩ = some (.int .i64 ext) := (cell_of_blk hg _).trans hst.c1
  have f1 : w.frozen? ⟨g, off + 1, none⟩ = false := free_of_blk hg _
  have hs1 : off + 1 < cur.size := (Array.getElem?_eq_some_iff.1 hst.c1).1
  have e1 : ((x : Int) != -1) = true := not_neg x
  have e2 : ((-1 : Int) != -1) = false := by decide
  have HG := Lib.hid hg
  have HST := Lib.hid hst
  have HOW := Lib.hid hown
  have HBW := Lib.hid hbw
  have HNE := Lib.hid hne
  clear hg hst hown HE hbw hne
  go_enter Try.func89, Try.ntmps89
  go_wp2
  refine bodyPost_ret (v := .tuple #[]) (by simp [results, Try.results89, go_sem]) rfl ⟨rfl, cur.setIfInBounds (off + 1) (.int .i64 ((ext + 1 : Nat) : Int)), A, c, Lib.hid ?_⟩
  have hb : (w.setCell ⟨g, off + 1, none⟩ (.int .i64 ((ext : Int) + 1))).heap[g]? = some (.cells (cur.setIfInBounds (off + 1) (.int .i64 ((ext + 1 : Nat) : Int))) 98 (0, 0)) := by
    rw [show ((ext : Int) + 1) = ((ext + 1 : Nat) : Int) by omega]
    exact heap_setCell_same _ _ _ _ _ _ HG.out
  refine ⟨(heap_alloc_other _ _ _ (by simpa using hgl)).trans hb, by simp, ⟨by rw [set_ne (by omega)]; exact HST.out.c0, set_at hs1, by rw [set_ne (by omega)]; exact HST.out.c2⟩, fun q h1 _ => set_ne h1, ?_, .inl rfl, fun k hk hkg _ => ?_, ((Below.refl _ _).setCell hbg _).alloc (by simpa using HBW.out) _⟩
  · refine ownsRow_of_block HOW.out fun k hk => ?_
    rw [heap_alloc_other _ _ _ (by simpa using (HOW.out.lt k hk).2)]
    exact heap_setCell_other _ _ _ _ (HNE.out k hk)
  · rw [heap_alloc_other _ _ _ (by simpa using hk), heap_setCell_other _ _ _ _ hkg]

set_option maxHeartbeats 6400000 in
set_option maxRecDepth 100000 in
theorem addR_any (base g off : Nat) (cur : Array Value) (at' ext : Nat) (sg : List Int) (A : Option Addr) (c : Nat) (x y : Nat) (B : Option Addr) (cb : Nat) (b : List Int) (w : World)
    (hg : w.heap[g]? = some (.cells cur 98 (0, 0))) (hst : StIn cur off at' ext sg A c) (hown : w.ownsRow base 3 1 (.slice A sg.length c) sg.length (intsZ sg)) (_hext : ext ≤ 1000) (hsg : sg.length ≤ 1000) (hbg : base ≤ g) (hbw : base ≤ w.heap.size) (hne : ∀ k, (Value.slice A sg.length c).ownBlock = some k → k ≠ g) (hB : IntsIn w B b) (hBk : ∀ k o, B = some ⟨k, o, none⟩ → k < base) (hy : y < b.length) :
    Calls Try.prog 89 #[.pointer (some ⟨g, off, none⟩), .agg #[.int .i64 (-1), .int .i64 y], .slice B b.length cb] w (GotAdd w base g off cur (St.add b ⟨at', ext, sg⟩ ((-1), (y : Int))) A c (.slice A sg.length c)) := by
  have HE := Lib.hid (show St.add b ⟨at', ext, sg⟩ ((-1), (y : Int)) = ⟨at', ext, sg ++ [b[y]]⟩ by
    unfold St.add
    have h2 : ¬ ((y : Int) = -1) := by omega
    simp [h2, hy])
  rw [HE.out]
  clear HE
  have hgl : g < w.heap.size := (Array.getElem?_eq_some_iff.1 hg).1
  have c1 : w.cell? ⟨g, off + 1, none⟩ = some (.int .i64 ext) := (cell_of_blk hg _).trans hst.c1
  have f1 : w.frozen? ⟨g, off + 1, none⟩ = false := free_of_blk hg _
  have hs1 : off + 2 < cur.size := (Array.getElem?_eq_some_iff.1 hst.c2).1
  have e1 : ((x : Int) != -1) = true := not_neg x
  have e0 : ((-1 : Int) != -1) = false := by decide
  have e2 : ((y : Int) != -1) = true := not_neg y
  obtain ⟨bb, oo, rfl, hbb, hcb⟩ := hB y b[y] (List.getElem?_eq_getElem hy)
  obtain ⟨xx, hxx⟩ : ∃ xx, xx = b[y] := ⟨_, rfl⟩
  rw [← hxx] at hcb ⊢
  have hBb : bb < base := hBk bb oo rfl
  clear hxx hB hBk
  obtain ⟨m, hm⟩ : ∃ m, m = sg.length := ⟨_, rfl⟩
  obtain ⟨nb, hnb⟩ : ∃ nb, nb = b.length := ⟨_, rfl⟩
  rw [← hnb] at hy ⊢
  have HG := Lib.hid hg
  have HST := Lib.hid hst
  have HOW := Lib.hid hown
  have HBW := Lib.hid hbw
  have HNE := Lib.hid hne
  have HSL := Lib.hid hm
  rw [← hm] at HOW HNE hsg ⊢
  clear hg hst hown hbw hne hm hnb
  obtain ⟨iv, hiv, hzv, hsv, hbv⟩ := info_hid infoInt
  have hyn : (y : Int) < (nb : Int) := by omega
  have hy0 : (0 : Int) ≤ (y : Int) := by omega
  go_enter Try.func89, Try.ntmps89
  go_wp2
  obtain ⟨Z, hZ⟩ : ∃ Z, Z = w.alloc (.cells #[.int .i64 (-1), .int .i64 y] 28) := ⟨_, rfl⟩
  rw [← hZ]
  obtain ⟨cur1, hc1⟩ : ∃ cur1, cur1 = cur := ⟨_, rfl⟩
  have HZG := Lib.hid (show Z.heap[g]? = some (.cells cur1 98 (0, 0)) by
    rw [hZ, hc1]
    exact (heap_alloc_other _ _ _ hgl).trans HG.out)
  have HZW := Lib.hid (show Z.heap[w.heap.size]? = some (.cells #[.int .i64 (-1), .int .i64 y] 28 (0, 0)) by
    rw [hZ]; exact heap_alloc_new _ _)
  have HZK := Lib.hid (show ∀ k, k < w.heap.size → k ≠ g → Z.heap[k]? = w.heap[k]? from fun k hk hkg => by
    rw [hZ, heap_alloc_other _ _ _ hk])
  have HZB := Lib.hid (show Below base w Z from hZ ▸ ((Below.refl _ _).alloc HBW.out _))
  have HZS := Lib.hid (show Z.heap.size = w.heap.size + 1 by rw [hZ]; simp)
  have HC1 := Lib.hid (show cur1.size = cur.size ∧ StIn cur1 off at' ext sg A c ∧ ∀ q, q ≠ off + 1 → q ≠ off + 2 → cur1[q]? = cur[q]? from
    ⟨by rw [hc1], hc1 ▸ HST.out, fun q h1 _ => by rw [hc1]⟩)
  clear hZ hc1
  have HZO := Lib.hid (show Z.ownsRow base 3 1 (.slice A m c) m (intsZ sg) from ownsRow_of_block HOW.out fun k hk => HZK.out k (HOW.out.lt k hk).2 (HNE.out k hk))
  have zS : Z.cell? ⟨g, off + 2, none⟩ = some (.slice A m c) := by rw [cell_of_blk HZG.out, HSL.out]; exact HC1.out.2.1.c2
  have zP : Z.cell? ⟨w.heap.size, 1, none⟩ = some (.int .i64 y) := by rw [cell_of_blk HZW.out]; rfl
  have zB : Z.cell? ⟨bb, oo + y, none⟩ = some (.int .i64 xx) := by
    have := World.cell?_of_block (a := ⟨bb, oo + y, none⟩) (HZK.out bb hbb (by omega))
    exact this.trans hcb
  have HZN := Lib.hid (show base ≤ (Z.alloc (.cells #[.int .i64 xx] 3)).drew.heap.size by have := HBW.out; have := HZS.out; simp; omega)
  have hzs : Z.heap.size = w.heap.size + 1 := HZS.out
  have HZA := Lib.hid (show (Z.alloc (.cells #[.int .i64 xx] 3)).drew.cell? ⟨g, off + 2, none⟩ = some (.slice A m c) ∧ (Z.alloc (.cells #[.int .i64 xx] 3)).drew.cell? ⟨w.heap.size, 1, none⟩ = some (.int .i64 y) ∧ (Z.alloc (.cells #[.int .i64 xx] 3)).drew.cell? ⟨bb, oo + y, none⟩ = some (.int .i64 xx) from
    ⟨(World.cell?_of_block (a := ⟨g, off + 2, none⟩) (heap_alloc_other _ _ g (by omega))).trans zS, (World.cell?_of_block (a := ⟨w.heap.size, 1, none⟩) (heap_alloc_other _ _ w.heap.size (by omega))).trans zP, (World.cell?_of_block (a := ⟨bb, oo + y, none⟩) (heap_alloc_other _ _ bb (by omega))).trans zB⟩)
  have HXA := Lib.hid (show (Z.alloc (.cells #[.int .i64 xx] 3)).drew.ownsRow base 3 1 (.slice A m c) m (intsZ sg) from (HZO.out.alloc _).drew)
  have HNR := Lib.hid (show ∀ ad, (some ⟨Z.heap.size, 0, none⟩ : Option Addr) = some ad → ∀ (j : Nat) u, [Value.int .i64 xx][j]? = some u → (Z.alloc (.cells #[.int .i64 xx] 3)).drew.cell? (ad.add j) = some u from fun ad h j u hj => by
    have h := Option.some.inj h
    subst h
    exact new_cells Z [.int .i64 xx] 3 j u hj)
  have HN1 := Lib.hid (show ∀ u ∈ [Value.int .i64 xx], u.oneCell' = true from fun u hu => by simp at hu; subst hu; rfl)
  have HK9 := Lib.hid (fun w9 (hg9 : (Z.alloc (.cells #[.int .i64 xx] 3)).drew.grownBy w9 (Value.slice A m c).ownBlock) k (hk : k < Z.heap.size) (hne : some k ≠ (Value.slice A m c).ownBlock) => show w9.heap[k]? = (Z.alloc (.cells #[.int .i64 xx] 3)).drew.heap[k]? from hg9.block k (by simp; omega) hne)
  have HNW := Lib.hid (show ¬ some w.heap.size = (Value.slice A m c).ownBlock from fun e => by have := (HOW.out.lt _ e.symm).2; omega)
  have HNB := Lib.hid (show ¬ some bb = (Value.slice A m c).ownBlock from fun e => by have := (HOW.out.lt _ e.symm).1; omega)
  have hgz : g < Z.heap.size := by omega
  have HFZ := Lib.hid (show (Z.alloc (.cells #[.int .i64 xx] 3)).drew.frozen? ⟨g, off + 2, none⟩ = false from (World.frozen?_of_block (a := ⟨g, off + 2, none⟩) (heap_alloc_other _ _ g hgz)).trans (free_of_blk HZG.out _))
  clear hzs
  refine wp_region_tillZ (fun wx => wx.cell? ⟨g, off + 2, none⟩ = some (.slice A m c) ∧ wx.cell? ⟨w.heap.size, 1, none⟩ = some (.int .i64 y) ∧ wx.cell? ⟨bb, oo + y, none⟩ = some (.int .i64 xx)) 14 (by kernel_rfl) ?_
  have HS : Z.drew.cell? ⟨g, off + 2, none⟩ = some (.slice A m c) ∧ Z.drew.cell? ⟨w.heap.size, 1, none⟩ = some (.int .i64 y) ∧ Z.drew.cell? ⟨bb, oo + y, none⟩ = some (.int .i64 xx) := ⟨zS, zP, zB⟩
  refine tillZ_take (i := 0) (v := ?_) rfl (by kernel_rfl) (by kernel_rfl) (by kernel_rfl) (by kernel_rfl) (fun _ _ _ h => h) (Or.inl ⟨by rfl, ?_⟩) HS ?_
  case refine_2 => (intro wx hSw; obtain ⟨s1, s2, s3⟩ := hSw; go_simp; try with_reducible rfl)
  refine tillZ_take (i := 1) (v := ?_) rfl (by kernel_rfl) (by kernel_rfl) (by kernel_rfl) (by kernel_rfl) (fun _ _ _ h => h) (Or.inl ⟨by rfl, ?_⟩) HS ?_
  case refine_2 => (intro wx hSw; obtain ⟨s1, s2, s3⟩ := hSw; go_simp; try with_reducible rfl)
  refine tillZ_take (i := 2) (v := ?_) rfl (by kernel_rfl) (by kernel_rfl) (by kernel_rfl) (by kernel_rfl) (fun _ _ _ h => h) (Or.inl ⟨by rfl, ?_⟩) HS ?_
  case refine_2 => (intro wx hSw; obtain ⟨s1, s2, s3⟩ := hSw; go_simp; try with_reducible rfl)
  refine tillZ_take (i := 3) (v := ?_) rfl (by kernel_rfl) (by kernel_rfl) (by kernel_rfl) (by kernel_rfl) (fun _ _ _ h => h) (Or.inl ⟨by rfl, ?_⟩) HS ?_
  case refine_2 => (intro wx hSw; obtain ⟨s1, s2, s3⟩ := hSw; go_simp; try with_reducible rfl)
  refine tillZ_take (i := 4) (v := ?_) rfl (by kernel_rfl) (by kernel_rfl) (by kernel_rfl) (by kernel_rfl) (fun _ _ _ h => h) (Or.inl ⟨by rfl, ?_⟩) HS ?_
  case refine_2 => (intro wx hSw; obtain ⟨s1, s2, s3⟩ := hSw; go_simp; try with_reducible rfl)
  refine tillZ_take (i := 5) (v := ?_) rfl (by kernel_rfl) (by kernel_rfl) (by kernel_rfl) (by kernel_rfl) (fun _ _ _ h => h) (Or.inl ⟨by rfl, ?_⟩) HS ?_
  case refine_2 => (intro wx hSw; obtain ⟨s1, s2, s3⟩ := hSw; go_simp; try with_reducible rfl)
  refine tillZ_take (i := 6) (v := ?_) rfl (by kernel_rfl) (by kernel_rfl) (by kernel_rfl) (by kernel_rfl) (fun _ _ _ h => h) (Or.inl ⟨by rfl, ?_⟩) HS ?_
  case refine_2 => (intro wx hSw; obtain ⟨s1, s2, s3⟩ := hSw; go_simp; try with_reducible rfl)
  refine tillZ_take (i := 7) (v := ?_) rfl (by kernel_rfl) (by kernel_rfl) (by kernel_rfl) (by kernel_rfl) (fun _ _ _ h => h) (Or.inl ⟨by rfl, ?_⟩) HS ?_
  case refine_2 => (intro wx hSw; obtain ⟨s1, s2, s3⟩ := hSw; go_simp; try with_reducible rfl)
  refine tillZ_take (i := 8) (v := ?_) rfl (by kernel_rfl) (by kernel_rfl) (by kernel_rfl) (by kernel_rfl) (fun _ _ _ h => h) (Or.inl ⟨by rfl, ?_⟩) HS ?_
  case refine_2 => (intro wx hSw; obtain ⟨s1, s2, s3⟩ := hSw; go_simp; try with_reducible rfl)
  refine tillZ_take (i := 9) (v := ?_) rfl (by kernel_rfl) (by kernel_rfl) (by kernel_rfl) (by kernel_rfl) (fun _ _ _ h => h) (Or.inl ⟨by rfl, ?_⟩) HS ?_
  case refine_2 => (intro wx hSw; obtain ⟨s1, s2, s3⟩ := hSw; go_simp; try with_reducible rfl)
  have zA := HZA.out.1
  have zA2 := HZA.out.2.1
  have zA3 := HZA.out.2.2
  refine tillZ_step (i := 10) (by kernel_rfl) rfl (fun K hK => ?_)
  go_simp
  refine hK.out _ _ (.inr ⟨zA, zA2, zA3⟩) ?_
  clear hK K HS
  refine tillZ_step (i := 11) (by kernel_rfl) rfl (fun K hK => ?_)
  refine step_append_src2 _ rfl (.tmp 23) (.tmp 29) 22 rfl base 3 iv (.int .i64 0) 1 8 Try.underlying22 hiv.out hzv.out hsv.out hbv.out rfl (by decide) (.slice A m c) m (intsZ sg) rfl HXA.out (some ⟨Z.heap.size, 0, none⟩) 1 1 [.int .i64 xx] rfl rfl (fun h => by cases h) HNR.out HN1.out (by unfold maxLen; omega) (by omega) HZN.out (m + 1) rfl ?_
  intro A9 c9 w9 own9 hg9 hn9
  have k1 := (World.cell?_of_block (a := ⟨g, off + 2, none⟩) (HK9.out w9 hg9 g hgz (fun e => HNE.out g e.symm rfl))).trans zA
  have k2 := (World.cell?_of_block (a := ⟨w.heap.size, 1, none⟩) (HK9.out w9 hg9 w.heap.size (by have := HZS.out; omega) (fun e => HNW.out e))).trans zA2
  have k3 := (World.cell?_of_block (a := ⟨bb, oo + y, none⟩) (HK9.out w9 hg9 bb (by have := HZS.out; omega) (fun e => HNB.out e))).trans zA3
  have HP9 := Lib.hid own9
  have HG9 := Lib.hid hg9
  have HN9 := Lib.hid hn9
  have HS : w9.cell? ⟨g, off + 2, none⟩ = some (.slice A m c) ∧ w9.cell? ⟨w.heap.size, 1, none⟩ = some (.int .i64 y) ∧ w9.cell? ⟨bb, oo + y, none⟩ = some (.int .i64 xx) := ⟨k1, k2, k3⟩
  have hg9l : g < w9.heap.size := by have := HG9.out.size; simp at this; omega
  clear own9 hg9 hn9
  refine hK.out _ _ (.inr HS) ?_
  clear hK K
  refine tillZ_step (i := 12) (by kernel_rfl) rfl (fun K hK => ?_)
  go_simp
  refine hK.out _ _ (.inr HS) ?_
  clear hK K
  refine tillZ_take (i := 13) (v := ?_) rfl (by kernel_rfl) (by kernel_rfl) (by kernel_rfl) (by kernel_rfl) (fun _ _ _ h => h) (Or.inl ⟨by rfl, ?_⟩) HS ?_
  case refine_2 => (intro wx hSw; obtain ⟨s1, s2, s3⟩ := hSw; go_simp; try with_reducible rfl)
  have hf9 : w9.frozen? ⟨g, off + 2, none⟩ = false := (World.frozen?_of_block (a := ⟨g, off + 2, none⟩) (HK9.out w9 HG9.out g hgz (fun e => HNE.out g e.symm rfl))).trans HFZ.out
  refine tillZ_step (i := 14) (by kernel_rfl) rfl (fun K hK => ?_)
  go_simp
  refine hK.out _ _ (.inl rfl) ?_
  clear hK K
  refine tillZ_done (by kernel_rfl) ?_ _
  go_wp2_with fail
  have hc2 : off + 2 < cur1.size := by rw [HC1.out.1]; exact hs1
  have hb9 : w9.heap[g]? = some (.cells cur1 98 (0, 0)) := (HK9.out w9 HG9.out g hgz (fun e => HNE.out g e.symm rfl)).trans ((heap_alloc_other _ _ g hgz).trans HZG.out)
  have hA9 : ∀ k, (Value.slice A9 (m + 1) c9).ownBlock = some k → k ≠ g := fun k hk e => by
    rcases HN9.out with h | h
    · rw [h] at hk; exact HNE.out k hk e
    · rw [h] at hk; injection hk with hk; simp at hk; omega
  have hl9 : (sg ++ [xx]).length = m + 1 := by rw [List.length_append, ← HSL.out]; rfl
  refine bodyPost_end (by simp [results, Try.results89, go_sem]) rfl ⟨rfl, cur1.setIfInBounds (off + 2) (.slice A9 (m + 1) c9), A9, c9, Lib.hid ?_⟩
  have hzs : base ≤ Z.heap.size := by have := HBW.out; have := HZS.out; omega
  refine ⟨heap_setCell_same _ _ _ _ _ _ hb9, by rw [Array.size_setIfInBounds]; exact HC1.out.1, ⟨by rw [set_ne (by omega)]; exact HC1.out.2.1.c0, by rw [set_ne (by omega)]; exact HC1.out.2.1.c1, by rw [hl9]; exact set_at hc2⟩, fun q h1 h2 => by rw [set_ne h2]; exact HC1.out.2.2 q h1 h2, ?_, ?_, fun k hk hkg hkv => ?_, ?_⟩
  · rw [hl9]
    refine ownsRow_of_block (w := w9) ?_ fun k hk => heap_setCell_other _ _ _ _ (hA9 k hk)
    have := HP9.out
    rw [show intsZ (sg ++ [xx]) = intsZ sg ++ [.int .i64 xx] by simp [intsZ]]
    exact this
  · rw [hl9]
    rcases HN9.out with h | h
    · exact .inl h
    · exact .inr ⟨_, h, by have := HZS.out; simp; omega⟩
  · rw [heap_setCell_other _ _ _ _ hkg, HK9.out w9 HG9.out k (by have := HZS.out; omega) hkv]
    exact (heap_alloc_other _ _ k (by have := HZS.out; omega)).trans (HZK.out k hk hkg)
  · exact (((HZB.out.alloc hzs _).drew).grown HG9.out (by simp; omega) (fun q hq => (HXA.out.lt q hq).1)).setCell hbg _

set_option maxHeartbeats 6400000 in
set_option maxRecDepth 100000 in
theorem addB_any (base g off : Nat) (cur : Array Value) (at' ext : Nat) (sg : List Int) (A : Option Addr) (c : Nat) (x y : Nat) (B : Option Addr) (cb : Nat) (b : List Int) (w : World)
    (hg : w.heap[g]? = some (.cells cur 98 (0, 0))) (hst : StIn cur off at' ext sg A c) (hown : w.ownsRow base 3 1 (.slice A sg.length c) sg.length (intsZ sg)) (hext : ext ≤ 1000) (hsg : sg.length ≤ 1000) (hbg : base ≤ g) (hbw : base ≤ w.heap.size) (hne : ∀ k, (Value.slice A sg.length c).ownBlock = some k → k ≠ g) (hB : IntsIn w B b) (hBk : ∀ k o, B = some ⟨k, o, none⟩ → k < base) (hy : y < b.length) :
    Calls Try.prog 89 #[.pointer (some ⟨g, off, none⟩), .agg #[.int .i64 (x : Int), .int .i64 y], .slice B b.length cb] w (GotAdd w base g off cur (St.add b ⟨at', ext, sg⟩ ((x : Int), (y : Int))) A c (.slice A sg.length c)) := by
  have HE := Lib.hid (show St.add b ⟨at', ext, sg⟩ ((x : Int), (y : Int)) = ⟨at', ext + 1, sg ++ [b[y]]⟩ by
    unfold St.add
    have h2 : ¬ ((y : Int) = -1) := by omega
    have h1 : ¬ ((x : Int) = -1) := by omega
    simp [h1, h2, hy])
  rw [HE.out]
  clear HE
  have hgl : g < w.heap.size := (Array.getElem?_eq_some_iff.1 hg).1
  have c1 : w.cell? ⟨g, off + 1, none⟩ = some (.int .i64 ext) := (cell_of_blk hg _).trans hst.c1
  have f1 : w.frozen? ⟨g, off + 1, none⟩ = false := free_of_blk hg _
  have hs1 : off + 2 < cur.size := (Array.getElem?_eq_some_iff.1 hst.c2).1
  have e1 : ((x : Int) != -1) = true := not_neg x
  have e0 : ((-1 : Int) != -1) = false := by decide
  have e2 : ((y : Int) != -1) = true := not_neg y
  obtain ⟨bb, oo, rfl, hbb, hcb⟩ := hB y b[y] (List.getElem?_eq_getElem hy)
  obtain ⟨xx, hxx⟩ : ∃ xx, xx = b[y] := ⟨_, rfl⟩
  rw [← hxx] at hcb ⊢
  have hBb : bb < base := hBk bb oo rfl
  clear hxx hB hBk
  obtain ⟨m, hm⟩ : ∃ m, m = sg.length := ⟨_, rfl⟩
  obtain ⟨nb, hnb⟩ : ∃ nb, nb = b.length := ⟨_, rfl⟩
  rw [← hnb] at hy ⊢
  have HG := Lib.hid hg
  have HST := Lib.hid hst
  have HOW := Lib.hid hown
  have HBW := Lib.hid hbw
  have HNE := Lib.hid hne
  have HSL := Lib.hid hm
  rw [← hm] at HOW HNE hsg ⊢
  clear hg hst hown hbw hne hm hnb
  obtain ⟨iv, hiv, hzv, hsv, hbv⟩ := info_hid infoInt
  have hyn : (y : Int) < (nb : Int) := by omega
  have hy0 : (0 : Int) ≤ (y : Int) := by omega
  go_enter Try.func89, Try.ntmps89
  go_wp2
  obtain ⟨Z, hZ⟩ : ∃ Z, Z = (w.setCell ⟨g, off + 1, none⟩ (.int .i64 ((ext : Int) + 1))).alloc (.cells #[.int .i64 x, .int .i64 y] 28) := ⟨_, rfl⟩
  rw [← hZ]
  obtain ⟨cur1, hc1⟩ : ∃ cur1, cur1 = cur.setIfInBounds (off + 1) (.int .i64 ((ext + 1 : Nat) : Int)) := ⟨_, rfl⟩
  have HZG := Lib.hid (show Z.heap[g]? = some (.cells cur1 98 (0, 0)) by
    rw [hZ, hc1, show ((ext : Int) + 1) = ((ext + 1 : Nat) : Int) by omega]
    exact (heap_alloc_other _ _ _ (by simpa using hgl)).trans (heap_setCell_same _ _ _ _ _ _ HG.out))
  have HZW := Lib.hid (show Z.heap[w.heap.size]? = some (.cells #[.int .i64 x, .int .i64 y] 28 (0, 0)) by
    have := heap_alloc_new (w.setCell ⟨g, off + 1, none⟩ (.int .i64 ((ext : Int) + 1))) (.cells #[.int .i64 x, .int .i64 y] 28)
    rw [hZ]; simpa using this)
  have HZK := Lib.hid (show ∀ k, k < w.heap.size → k ≠ g → Z.heap[k]? = w.heap[k]? from fun k hk hkg => by
    rw [hZ, heap_alloc_other _ _ _ (by simpa using hk), heap_setCell_other _ _ _ _ hkg])
  have HZB := Lib.hid (show Below base w Z from hZ ▸ ((Below.refl _ _).setCell hbg _).alloc (by simpa using HBW.out) _)
  have HZS := Lib.hid (show Z.heap.size = w.heap.size + 1 by rw [hZ]; simp)
  have HC1 := Lib.hid (show cur1.size = cur.size ∧ StIn cur1 off at' (ext + 1) sg A c ∧ ∀ q, q ≠ off + 1 → q ≠ off + 2 → cur1[q]? = cur[q]? from
    ⟨by rw [hc1]; simp, ⟨by rw [hc1, set_ne (by omega)]; exact HST.out.c0, by rw [hc1]; exact set_at (by omega), by rw [hc1, set_ne (by omega)]; exact HST.out.c2⟩, fun q h1 _ => by rw [hc1, set_ne h1]⟩)
  clear hZ hc1
  have HZO := Lib.hid (show Z.ownsRow base 3 1 (.slice A m c) m (intsZ sg) from ownsRow_of_block HOW.out fun k hk => HZK.out k (HOW.out.lt k hk).2 (HNE.out k hk))
  have zS : Z.cell? ⟨g, off + 2, none⟩ = some (.slice A m c) := by rw [cell_of_blk HZG.out, HSL.out]; exact HC1.out.2.1.c2
  have zP : Z.cell? ⟨w.heap.size, 1, none⟩ = some (.int .i64 y) := by rw [cell_of_blk HZW.out]; rfl
  have zB : Z.cell? ⟨bb, oo + y, none⟩ = some (.int .i64 xx) := by
    have := World.cell?_of_block (a := ⟨bb, oo + y, none⟩) (HZK.out bb hbb (by omega))
    exact this.trans hcb
  have HZN := Lib.hid (show base ≤ (Z.alloc (.cells #[.int .i64 xx] 3)).drew.heap.size by have := HBW.out; have := HZS.out; simp; omega)
  have hzs : Z.heap.size = w.heap.size + 1 := HZS.out
  have HZA := Lib.hid (show (Z.alloc (.cells #[.int .i64 xx] 3)).drew.cell? ⟨g, off + 2, none⟩ = some (.slice A m c) ∧ (Z.alloc (.cells #[.int .i64 xx] 3)).drew.cell? ⟨w.heap.size, 1, none⟩ = some (.int .i64 y) ∧ (Z.alloc (.cells #[.int .i64 xx] 3)).drew.cell? ⟨bb, oo + y, none⟩ = some (.int .i64 xx) from
    ⟨(World.cell?_of_block (a := ⟨g, off + 2, none⟩) (heap_alloc_other _ _ g (by omega))).trans zS, (World.cell?_of_block (a := ⟨w.heap.size, 1, none⟩) (heap_alloc_other _ _ w.heap.size (by omega))).trans zP, (World.cell?_of_block (a := ⟨bb, oo + y, none⟩) (heap_alloc_other _ _ bb (by omega))).trans zB⟩)
  have HXA := Lib.hid (show (Z.alloc (.cells #[.int .i64 xx] 3)).drew.ownsRow base 3 1 (.slice A m c) m (intsZ sg) from (HZO.out.alloc _).drew)
  have HNR := Lib.hid (show ∀ ad, (some ⟨Z.heap.size, 0, none⟩ : Option Addr) = some ad → ∀ (j : Nat) u, [Value.int .i64 xx][j]? = some u → (Z.alloc (.cells #[.int .i64 xx] 3)).drew.cell? (ad.add j) = some u from fun ad h j u hj => by
    have h := Option.some.inj h
    subst h
    exact new_cells Z [.int .i64 xx] 3 j u hj)
  have HN1 := Lib.hid (show ∀ u ∈ [Value.int .i64 xx], u.oneCell' = true from fun u hu => by simp at hu; subst hu; rfl)
  have HK9 := Lib.hid (fun w9 (hg9 : (Z.alloc (.cells #[.int .i64 xx] 3)).drew.grownBy w9 (Value.slice A m c).ownBlock) k (hk : k < Z.heap.size) (hne : some k ≠ (Value.slice A m c).ownBlock) => show w9.heap[k]? = (Z.alloc (.cells #[.int .i64 xx] 3)).drew.heap[k]? from hg9.block k (by simp; omega) hne)
  have HNW := Lib.hid (show ¬ some w.heap.size = (Value.slice A m c).ownBlock from fun e => by have := (HOW.out.lt _ e.symm).2; omega)
  have HNB := Lib.hid (show ¬ some bb = (Value.slice A m c).ownBlock from fun e => by have := (HOW.out.lt _ e.symm).1; omega)
  have hgz : g < Z.heap.size := by omega
  have HFZ := Lib.hid (show (Z.alloc (.cells #[.int .i64 xx] 3)).drew.frozen? ⟨g, off + 2, none⟩ = false from (World.frozen?_of_block (a := ⟨g, off + 2, none⟩) (heap_alloc_other _ _ g hgz)).trans (free_of_blk HZG.out _))
  clear hzs
  refine wp_region_tillZ (fun wx => wx.cell? ⟨g, off + 2, none⟩ = some (.slice A m c) ∧ wx.cell? ⟨w.heap.size, 1, none⟩ = some (.int .i64 y) ∧ wx.cell? ⟨bb, oo + y, none⟩ = some (.int .i64 xx)) 14 (by kernel_rfl) ?_
  have HS : Z.drew.cell? ⟨g, off + 2, none⟩ = some (.slice A m c) ∧ Z.drew.cell? ⟨w.heap.size, 1, none⟩ = some (.int .i64 y) ∧ Z.drew.cell? ⟨bb, oo + y, none⟩ = some (.int .i64 xx) := ⟨zS, zP, zB⟩
  refine tillZ_take (i := 0) (v := ?_) rfl (by kernel_rfl) (by kernel_rfl) (by kernel_rfl) (by kernel_rfl) (fun _ _ _ h => h) (Or.inl ⟨by rfl, ?_⟩) HS ?_
  case refine_2 => (intro wx hSw; obtain ⟨s1, s2, s3⟩ := hSw; go_simp; try with_reducible rfl)
  refine tillZ_take (i := 1) (v := ?_) rfl (by kernel_rfl) (by kernel_rfl) (by kernel_rfl) (by kernel_rfl) (fun _ _ _ h => h) (Or.inl ⟨by rfl, ?_⟩) HS ?_
  case refine_2 => (intro wx hSw; obtain ⟨s1, s2, s3⟩ := hSw; go_simp; try with_reducible rfl)
  refine tillZ_take (i := 2) (v := ?_) rfl (by kernel_rfl) (by kernel_rfl) (by kernel_rfl) (by kernel_rfl) (fun _ _ _ h => h) (Or.inl ⟨by rfl, ?_⟩) HS ?_
  case refine_2 => (intro wx hSw; obtain ⟨s1, s2, s3⟩ := hSw; go_simp; try with_reducible rfl)
  refine tillZ_take (i := 3) (v := ?_) rfl (by kernel_rfl) (by kernel_rfl) (by kernel_rfl) (by kernel_rfl) (fun _ _ _ h => h) (Or.inl ⟨by rfl, ?_⟩) HS ?_
  case refine_2 => (intro wx hSw; obtain ⟨s1, s2, s3⟩ := hSw; go_simp; try with_reducible rfl)
  refine tillZ_take (i := 4) (v := ?_) rfl (by kernel_rfl) (by kernel_rfl) (by kernel_rfl) (by kernel_rfl) (fun _ _ _ h => h) (Or.inl ⟨by rfl, ?_⟩) HS ?_
  case refine_2 => (intro wx hSw; obtain ⟨s1, s2, s3⟩ := hSw; go_simp; try with_reducible rfl)
  refine tillZ_take (i := 5) (v := ?_) rfl (by kernel_rfl) (by kernel_rfl) (by kernel_rfl) (by kernel_rfl) (fun _ _ _ h => h) (Or.inl ⟨by rfl, ?_⟩) HS ?_
  case refine_2 => (intro wx hSw; obtain ⟨s1, s2, s3⟩ := hSw; go_simp; try with_reducible rfl)
  refine tillZ_take (i := 6) (v := ?_) rfl (by kernel_rfl) (by kernel_rfl) (by kernel_rfl) (by kernel_rfl) (fun _ _ _ h => h) (Or.inl ⟨by rfl, ?_⟩) HS ?_
  case refine_2 => (intro wx hSw; obtain ⟨s1, s2, s3⟩ := hSw; go_simp; try with_reducible rfl)
  refine tillZ_take (i := 7) (v := ?_) rfl (by kernel_rfl) (by kernel_rfl) (by kernel_rfl) (by kernel_rfl) (fun _ _ _ h => h) (Or.inl ⟨by rfl, ?_⟩) HS ?_
  case refine_2 => (intro wx hSw; obtain ⟨s1, s2, s3⟩ := hSw; go_simp; try with_reducible rfl)
  refine tillZ_take (i := 8) (v := ?_) rfl (by kernel_rfl) (by kernel_rfl) (by kernel_rfl) (by kernel_rfl) (fun _ _ _ h => h) (Or.inl ⟨by rfl, ?_⟩) HS ?_
  case refine_2 => (intro wx hSw; obtain ⟨s1, s2, s3⟩ := hSw; go_simp; try with_reducible rfl)
  refine tillZ_take (i := 9) (v := ?_) rfl (by kernel_rfl) (by kernel_rfl) (by kernel_rfl) (by kernel_rfl) (fun _ _ _ h => h) (Or.inl ⟨by rfl, ?_⟩) HS ?_
  case refine_2 => (intro wx hSw; obtain ⟨s1, s2, s3⟩ := hSw; go_simp; try with_reducible rfl)
  have zA := HZA.out.1
  have zA2 := HZA.out.2.1
  have zA3 := HZA.out.2.2
  refine tillZ_step (i := 10) (by kernel_rfl) rfl (fun K hK => ?_)
  go_simp
  refine hK.out _ _ (.inr ⟨zA, zA2, zA3⟩) ?_
  clear hK K HS
  refine tillZ_step (i := 11) (by kernel_rfl) rfl (fun K hK => ?_)
  refine step_append_src2 _ rfl (.tmp 23) (.tmp 29) 22 rfl base 3 iv (.int .i64 0) 1 8 Try.underlying22 hiv.out hzv.out hsv.out hbv.out rfl (by decide) (.slice A m c) m (intsZ sg) rfl HXA.out (some ⟨Z.heap.size, 0, none⟩) 1 1 [.int .i64 xx] rfl rfl (fun h => by cases h) HNR.out HN1.out (by unfold maxLen; omega) (by omega) HZN.out (m + 1) rfl ?_
  intro A9 c9 w9 own9 hg9 hn9
  have k1 := (World.cell?_of_block (a := ⟨g, off + 2, none⟩) (HK9.out w9 hg9 g hgz (fun e => HNE.out g e.symm rfl))).trans zA
  have k2 := (World.cell?_of_block (a := ⟨w.heap.size, 1, none⟩) (HK9.out w9 hg9 w.heap.size (by have := HZS.out; omega) (fun e => HNW.out e))).trans zA2
  have k3 := (World.cell?_of_block (a := ⟨bb, oo + y, none⟩) (HK9.out w9 hg9 bb (by have := HZS.out; omega) (fun e => HNB.out e))).trans zA3
  have HP9 := Lib.hid own9
  have HG9 := Lib.hid hg9
  have HN9 := Lib.hid hn9
  have HS : w9.cell? ⟨g, off + 2, none⟩ = some (.slice A m c) ∧ w9.cell? ⟨w.heap.size, 1, none⟩ = some (.int .i64 y) ∧ w9.cell? ⟨bb, oo + y, none⟩ = some (.int .i64 xx) := ⟨k1, k2, k3⟩
  have hg9l : g < w9.heap.size := by have := HG9.out.size; simp at this; omega
  clear own9 hg9 hn9
  refine hK.out _ _ (.inr HS) ?_
  clear hK K
  refine tillZ_step (i := 12) (by kernel_rfl) rfl (fun K hK => ?_)
  go_simp
  refine hK.out _ _ (.inr HS) ?_
  clear hK K
  refine tillZ_take (i := 13) (v := ?_) rfl (by kernel_rfl) (by kernel_rfl) (by kernel_rfl) (by kernel_rfl) (fun _ _ _ h => h) (Or.inl ⟨by rfl, ?_⟩) HS ?_
  case refine_2 => (intro wx hSw; obtain ⟨s1, s2, s3⟩ := hSw; go_simp; try with_reducible rfl)
  have hf9 : w9.frozen? ⟨g, off + 2, none⟩ = false := (World.frozen?_of_block (a := ⟨g, off + 2, none⟩) (HK9.out w9 HG9.out g hgz (fun e => HNE.out g e.symm rfl))).trans HFZ.out
  refine tillZ_step (i := 14) (by kernel_rfl) rfl (fun K hK => ?_)
  go_simp
  refine hK.out _ _ (.inl rfl) ?_
  clear hK K
  refine tillZ_done (by kernel_rfl) ?_ _
  go_wp2_with fail
  have hc2 : off + 2 < cur1.size := by rw [HC1.out.1]; exact hs1
  have hb9 : w9.heap[g]? = some (.cells cur1 98 (0, 0)) := (HK9.out w9 HG9.out g hgz (fun e => HNE.out g e.symm rfl)).trans ((heap_alloc_other _ _ g hgz).trans HZG.out)
  have hA9 : ∀ k, (Value.slice A9 (m + 1) c9).ownBlock = some k → k ≠ g := fun k hk e => by
    rcases HN9.out with h | h
    · rw [h] at hk; exact HNE.out k hk e
    · rw [h] at hk; injection hk with hk; simp at hk; omega
  have hl9 : (sg ++ [xx]).length = m + 1 := by rw [List.length_append, ← HSL.out]; rfl
  refine bodyPost_end (by simp [results, Try.results89, go_sem]) rfl ⟨rfl, cur1.setIfInBounds (off + 2) (.slice A9 (m + 1) c9), A9, c9, Lib.hid ?_⟩
  have hzs : base ≤ Z.heap.size := by have := HBW.out; have := HZS.out; omega
  refine ⟨heap_setCell_same _ _ _ _ _ _ hb9, by rw [Array.size_setIfInBounds]; exact HC1.out.1, ⟨by rw [set_ne (by omega)]; exact HC1.out.2.1.c0, by rw [set_ne (by omega)]; exact HC1.out.2.1.c1, by rw [hl9]; exact set_at hc2⟩, fun q h1 h2 => by rw [set_ne h2]; exact HC1.out.2.2 q h1 h2, ?_, ?_, fun k hk hkg hkv => ?_, ?_⟩
  · rw [hl9]
    refine ownsRow_of_block (w := w9) ?_ fun k hk => heap_setCell_other _ _ _ _ (hA9 k hk)
    have := HP9.out
    rw [show intsZ (sg ++ [xx]) = intsZ sg ++ [.int .i64 xx] by simp [intsZ]]
    exact this
  · rw [hl9]
    rcases HN9.out with h | h
    · exact .inl h
    · exact .inr ⟨_, h, by have := HZS.out; simp; omega⟩
  · rw [heap_setCell_other _ _ _ _ hkg, HK9.out w9 HG9.out k (by have := HZS.out; omega) hkv]
    exact (heap_alloc_other _ _ k (by have := HZS.out; omega)).trans (HZK.out k hk hkg)
  · exact (((HZB.out.alloc hzs _).drew).grown HG9.out (by simp; omega) (fun q hq => (HXA.out.lt q hq).1)).setCell hbg _

end Go.Proofs.Ytcpfhaoecggflaa
