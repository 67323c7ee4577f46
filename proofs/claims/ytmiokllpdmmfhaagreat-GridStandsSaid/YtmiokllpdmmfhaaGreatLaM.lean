/-
  The pieces of leaves, by the program. And what builds on it.
-/
import Derived.Test.YtmiokllpdmmfhaaGreatLaJ
import Derived.Test.YtmiokllpdmmfhaaGreatLaH
namespace Go.Proofs.YtmiokllpdmmfhaaGreat
open Go.RowKit
structure Pc where
  n : Nd
  x : Int
  y : Int
  wd : Int
  hg : Int
def Pc.cells (p : Pc) : List Value := p.n.cells ++ [.int .i64 p.x, .int .i64 p.y, .int .i64 p.wd, .int .i64 p.hg]
theorem pc_one (p : Pc) : ∀ u ∈ p.cells, u.oneCell' = true := fun u hu => by
  simp [Pc.cells, Nd.cells] at hu
  rcases hu with rfl | rfl | rfl | rfl | rfl | rfl | rfl | rfl | rfl | rfl | rfl | rfl <;> rfl
theorem pcs_one {l : List Pc} : ∀ u ∈ l.flatMap Pc.cells, u.oneCell' = true := fun u hu => by
  obtain ⟨p, _, h⟩ := List.mem_flatMap.1 hu
  exact pc_one p u h
mutual
def Shp.pcs : Shp → Int → Int → List Pc
  | .gly n a b, x, y => [⟨n, x, y, 4 * a, 4 * b⟩]
  | .gap n, x, y => [⟨n, x, y, 12 * n.max, 24⟩]
  | .ovl n1 a b n2 _ _, x, y => [⟨n1, x, y, 4 * a, 4 * b⟩, ⟨n2, x + a, y + b, 2 * a, 2 * b⟩]
  | .row sp ks, x, y => pcsR sp (maxH ks) ks x y
  | .col sp ks, x, y => pcsC sp (maxW ks) ks x y
  | .rng n s, x, y => ⟨n, x, y, s.size.1 + 24, s.size.2 + 24⟩ :: s.pcs (x + 12) (y + 12)
def pcsR (sp H : Int) : List Shp → Int → Int → List Pc
  | [], _, _ => []
  | k :: r, x, y => k.pcs x (y + (H - k.size.2) / 2) ++ pcsR sp H r (x + (k.size.1 + sp)) y
def pcsC (sp W : Int) : List Shp → Int → Int → List Pc
  | [], _, _ => []
  | k :: r, x, y => k.pcs (x + (W - k.size.1) / 2) y ++ pcsC sp W r x (y + (k.size.2 + sp))
end
mutual
def Shp.cnt : Shp → Nat
  | .gly .. => 1
  | .gap .. => 1
  | .ovl .. => 2
  | .row _ ks => cntS ks
  | .col _ ks => cntS ks
  | .rng _ s => s.cnt + 1
def cntS : List Shp → Nat
  | [] => 0
  | k :: r => k.cnt + cntS r
end
mutual
theorem pcs_cnt : ∀ (s : Shp) (x y : Int), (s.pcs x y).length = s.cnt
  | .gly .., _, _ => by rw [Shp.pcs, Shp.cnt]; rfl
  | .gap .., _, _ => by rw [Shp.pcs, Shp.cnt]; rfl
  | .ovl .., _, _ => by rw [Shp.pcs, Shp.cnt]; rfl
  | .row sp ks, x, y => by rw [Shp.pcs, Shp.cnt]; exact pcsR_cnt sp _ ks x y
  | .col sp ks, x, y => by rw [Shp.pcs, Shp.cnt]; exact pcsC_cnt sp _ ks x y
  | .rng n s, x, y => by rw [Shp.pcs, Shp.cnt, List.length_cons, pcs_cnt s]
theorem pcsR_cnt (sp H : Int) : ∀ (ks : List Shp) (x y : Int), (pcsR sp H ks x y).length = cntS ks
  | [], _, _ => by rw [pcsR, cntS]; rfl
  | k :: r, x, y => by rw [pcsR, cntS, List.length_append, pcs_cnt k, pcsR_cnt sp H r]
theorem pcsC_cnt (sp W : Int) : ∀ (ks : List Shp) (x y : Int), (pcsC sp W ks x y).length = cntS ks
  | [], _, _ => by rw [pcsC, cntS]; rfl
  | k :: r, x, y => by rw [pcsC, cntS, List.length_append, pcs_cnt k, pcsC_cnt sp W r]
end
def GotPcs (l : List Pc) (w : World) : Ending → World → Prop := GotRow w 166 12 l.length (l.flatMap Pc.cells)
def pcFn : Shp → Nat
  | .gly .. => 215
  | .gap .. => 217
  | .ovl .. => 219
  | .row .. => 221
  | .col .. => 223
  | .rng .. => 225
def PcOk (s : Shp) : Prop := ∀ (w : World) (arg : Value) (x y : Int), (0 ≤ x ∧ x + s.size.1 ≤ 1000000000) → (0 ≤ y ∧ y + s.size.2 ≤ 1000000000) → s.cnt ≤ 1000000 → ShV w s (.iface (tyOf s) arg) → Calls Tryz.prog (pcFn s) #[arg, .int .i64 x, .int .i64 y] w (GotPcs (s.pcs x y) w)
theorem own_lit (w : World) (cs : List Value) (e : TypeId) (size n : Nat) (h : cs.length = n * size) (hn : n ≤ maxLen) : (w.alloc (.cells cs.toArray e)).ownsRow w.heap.size e size (.slice (some ⟨w.heap.size, 0, none⟩) n n) n cs :=
  ⟨h, .inr ⟨w.heap.size, n, cs.toArray, rfl, Nat.le_refl _, heap_alloc_new _ _, Nat.le_refl _, hn, by simpa using h, by simp [← h]⟩⟩
set_option maxRecDepth 100000 in
set_option maxHeartbeats 8000000 in
theorem glypcs_any (n : Nd) (a b : Int) (h1 : 0 ≤ a ∧ a ≤ 1000000) (h2 : 0 ≤ b ∧ b ≤ 1000000) : PcOk (.gly n a b) := by
  intro w arg x y hx hy hc hv
  injection hv with _ e
  subst e
  obtain ⟨nk, nd, ns, nt, nm, nst, nmn, nmx⟩ := n
  have HC := Lib.hid (fun wx => gsize_any nk nd ns nt nm nst nmn nmx a b wx h1 h2)
  clear hx hy hc
  obtain ⟨W, hW⟩ : ∃ W, W = w.alloc (.cells #[.int .i64 nk, .int .i64 nd, .int .i64 ns, .int .i64 nt, .bool nm, .int .i64 nst, .int .i64 nmn, .int .i64 nmx, .int .i64 a, .int .i64 b] 201) := ⟨_, rfl⟩
  have HB := Lib.hid (show Below w.heap.size w W from hW ▸ below_alloc _ _)
  have D0 := Lib.hid (show W.heap[w.heap.size]? = some (.cells #[.int .i64 nk, .int .i64 nd, .int .i64 ns, .int .i64 nt, .bool nm, .int .i64 nst, .int .i64 nmn, .int .i64 nmx, .int .i64 a, .int .i64 b] 201 (0, 0)) from hW ▸ heap_alloc_new _ _)
  show Calls Tryz.prog 215 _ w _
  unfold GotPcs
  rw [Shp.pcs]
  go_enter Tryz.func215, Tryz.ntmps215
  go_wp2_with fail
  rw [← hW]
  clear hW
  have x0 := cell_of_blk D0.out 0
  have x1 := cell_of_blk D0.out 1
  have x2 := cell_of_blk D0.out 2
  have x3 := cell_of_blk D0.out 3
  have x4 := cell_of_blk D0.out 4
  have x5 := cell_of_blk D0.out 5
  have x6 := cell_of_blk D0.out 6
  have x7 := cell_of_blk D0.out 7
  have x8 := cell_of_blk D0.out 8
  have x9 := cell_of_blk D0.out 9
  have hs := (Array.getElem?_eq_some_iff.1 D0.out).1
  simp at x0 x1 x2 x3 x4 x5 x6 x7 x8 x9
  go_wp2_with fail
  refine (HC.out _).mono ?_; rintro e w2 ⟨rfl, hb2⟩
  have HB2 := Lib.hid (below_more HB.out hb2)
  have D2 := Lib.hid (blk_keep hb2 D0.out)
  clear hb2 x0 x1 x2 x3 x4 x5 x6 x7 x8 x9 hs
  have x0 := cell_of_blk D2.out 0
  have x1 := cell_of_blk D2.out 1
  have x2 := cell_of_blk D2.out 2
  have x3 := cell_of_blk D2.out 3
  have x4 := cell_of_blk D2.out 4
  have x5 := cell_of_blk D2.out 5
  have x6 := cell_of_blk D2.out 6
  have x7 := cell_of_blk D2.out 7
  have hs := (Array.getElem?_eq_some_iff.1 D2.out).1
  simp at x0 x1 x2 x3 x4 x5 x6 x7
  go_wp2_with fail
  go_ret
  have hsz := HB2.out.size
  refine ⟨_, _, rfl, own_base (own_lit w2 (Pc.cells ⟨⟨nk, nd, ns, nt, nm, nst, nmn, nmx⟩, x, y, 4 * a, 4 * b⟩) _ 12 1 rfl (by unfold maxLen; omega)) hsz, HB2.out.alloc hsz _⟩
open Go.RowKit
theorem infoPc : (Tryz.prog.info? 166).map (fun i => (i.zero, i.size, i.bytes)) = some (some (.agg #[.int .i64 0, .int .i64 0, .int .i64 0, .int .i64 0, .bool false, .int .i64 0, .int .i64 0, .int .i64 0, .int .i64 0, .int .i64 0, .int .i64 0, .int .i64 0]), 12, 96) := by kernel_rfl
theorem pcsR_app (sp H : Int) (k : Shp) : ∀ (a : List Shp) (x y : Int), pcsR sp H (a ++ [k]) x y = pcsR sp H a x y ++ k.pcs (x + (sumW a + sp * (a.length : Int))) (y + (H - k.size.2) / 2)
  | [], x, y => by simp [pcsR, sumW]
  | q :: r, x, y => by
    have e : (sp * ((r.length + 1 : Nat) : Int)) = sp * (r.length : Int) + sp := by push_cast; rw [Int.mul_add, Int.mul_one]
    rw [List.cons_append, pcsR, pcsR, pcsR_app sp H k r, List.append_assoc, sumW, List.length_cons, e]
    have : x + (q.size.1 + sp) + (sumW r + sp * (r.length : Int)) = x + (q.size.1 + sumW r + (sp * (r.length : Int) + sp)) := by omega
    rw [this]
theorem pcsC_app (sp W : Int) (k : Shp) : ∀ (a : List Shp) (x y : Int), pcsC sp W (a ++ [k]) x y = pcsC sp W a x y ++ k.pcs (x + (W - k.size.1) / 2) (y + (sumH a + sp * (a.length : Int)))
  | [], x, y => by simp [pcsC, sumH]
  | q :: r, x, y => by
    have e : (sp * ((r.length + 1 : Nat) : Int)) = sp * (r.length : Int) + sp := by push_cast; rw [Int.mul_add, Int.mul_one]
    rw [List.cons_append, pcsC, pcsC, pcsC_app sp W k r, List.append_assoc, sumH, List.length_cons, e]
    have : y + (q.size.2 + sp) + (sumH r + sp * (r.length : Int)) = y + (q.size.2 + sumH r + (sp * (r.length : Int) + sp)) := by omega
    rw [this]
theorem sumW_app2 : ∀ (a b : List Shp), sumW (a ++ b) = sumW a + sumW b
  | [], b => by simp [sumW]
  | x :: r, b => by rw [List.cons_append, sumW, sumW, sumW_app2 r b]; omega
theorem sumH_app2 : ∀ (a b : List Shp), sumH (a ++ b) = sumH a + sumH b
  | [], b => by simp [sumH]
  | x :: r, b => by rw [List.cons_append, sumH, sumH, sumH_app2 r b]; omega
theorem cntS_app : ∀ (a b : List Shp), cntS (a ++ b) = cntS a + cntS b
  | [], b => by simp [cntS]
  | x :: r, b => by rw [List.cons_append, cntS, cntS, cntS_app r b]; omega
theorem max_mem : ∀ (ks : List Shp), (∀ k ∈ ks, szB k) → ∀ k ∈ ks, k.size.1 ≤ maxW ks ∧ k.size.2 ≤ maxH ks
  | x :: r, h, k, hk => by
    rw [maxW, maxH]
    rcases List.mem_cons.1 hk with rfl | hk
    · omega
    · have := max_mem r (fun k hk => h k (List.mem_cons_of_mem _ hk)) k hk
      omega
theorem row_far {ks : List Shp} {sp : Int} {j : Nat} {k : Shp} (hsp : 0 ≤ sp ∧ sp ≤ 1000) (hB : ∀ k ∈ ks, szB k) (hk : ks[j]? = some k) : (0 ≤ sumW (ks.take j) + sp * (j : Int) ∧ sumW (ks.take j) + sp * (j : Int) + k.size.1 ≤ sp * ((ks.length : Int) - 1) + sumW ks) ∧ cntS (ks.take j) + k.cnt ≤ cntS ks ∧ (sumW (ks.take (j + 1)) + sp * ((j + 1 : Nat) : Int) = sumW (ks.take j) + sp * (j : Int) + (k.size.1 + sp)) := by
  obtain ⟨hj, _⟩ := List.getElem?_eq_some_iff.1 hk
  have e := take_snocS hk
  have h1 := (sum_bd (ks.take j) (fun q hq => hB q (List.mem_of_mem_take hq))).1
  have h2 := (sum_bd (ks.drop (j + 1)) (fun q hq => hB q (List.mem_of_mem_drop hq))).1
  have h3 : sumW ks = sumW (ks.take (j + 1)) + sumW (ks.drop (j + 1)) := by rw [← sumW_app2, List.take_append_drop]
  have h4 : cntS ks = cntS (ks.take (j + 1)) + cntS (ks.drop (j + 1)) := by rw [← cntS_app, List.take_append_drop]
  rw [e, sumW_app] at h3
  rw [e, cntS_app] at h4
  have h5 : cntS [k] = k.cnt := by rw [cntS, cntS]; rfl
  have h6 := Int.mul_le_mul_of_nonneg_left (show (j : Int) ≤ (ks.length : Int) - 1 by omega) hsp.1
  have h7 := Int.mul_nonneg hsp.1 (show (0 : Int) ≤ (j : Int) by omega)
  have h8 : sp * ((j + 1 : Nat) : Int) = sp * (j : Int) + sp := by push_cast; rw [Int.mul_add, Int.mul_one]
  rw [e, sumW_app, h8]
  omega
theorem own_srcP {w : World} {base : Nat} {e : TypeId} {size : Nat} {A : Option Addr} {n c : Nat} {xs : List Value} (h : w.ownsRow base e size (.slice A n c) n xs) : xs.length = n * size ∧ (A = none → n = 0) ∧ (∀ ad, A = some ad → ∀ j u, xs[j]? = some u → w.cell? (ad.add j) = some u) ∧ c ≤ maxLen := by
  have h0 := h.1
  obtain ⟨A2, c2, hv, -, hc, h3, h4⟩ := own_slice h
  injection hv with e1 e2 e3
  subst e1 e3
  refine ⟨h0, h4, fun ad e j u hj => ?_, hc⟩
  obtain ⟨g, rfl, -, -, h5⟩ := h3 ad e
  rw [show (⟨g, 0, none⟩ : Addr).add j = ⟨g, j, none⟩ by cases j <;> simp [Addr.add]]
  exact h5 j u hj
set_option maxRecDepth 100000 in
theorem pc_method (k : Shp) (arg : Value) (w : World) : (method 267 (tyOf k) arg "ostracon/grid.pieces").run Tryz.prog w = .ok (pcFn k, arg) w := by
  cases k <;> kernel_rfl
set_option maxRecDepth 100000 in
set_option maxHeartbeats 16000000 in
theorem rowpcs_any (sp : Int) (ks : List Shp) (hsp : 0 ≤ sp ∧ sp ≤ 1000) (hn : ks.length ≤ 1000) (hRB : szB (.row sp ks)) (hB : ∀ k ∈ ks, szB k) (hO : ∀ k ∈ ks, SzOk k) (hP : ∀ k ∈ ks, PcOk k) : PcOk (.row sp ks) := by
  have hSO := rowsize_any sp ks hsp hn hB hO
  intro w arg x y hx hy hc hv
  have HV0 := Lib.hid hv
  obtain ⟨A, c, e, h1, h2, h3⟩ := hv
  injection e with _ e
  subst e
  have HV := Lib.hid h3
  have HO := Lib.hid hO
  have HP := Lib.hid hP
  obtain ⟨n, hnn⟩ : ∃ n, n = ks.length := ⟨_, rfl⟩
  have HN := Lib.hid hnn
  obtain ⟨H, hH⟩ : ∃ H, H = maxH ks := ⟨_, rfl⟩
  obtain ⟨T, hT⟩ : ∃ T, T = sp * ((n : Int) - 1) + sumW ks := ⟨_, rfl⟩
  have hse : (Shp.row sp ks).size = (T, H) := by rw [Shp.size, hT, hH, hnn]
  unfold szB at hRB
  rw [hse] at hx hy hRB
  dsimp only at hx hy hRB
  rw [Shp.cnt] at hc
  have HSO := Lib.hid (fun wx (hbx : Below w.heap.size w wx) => show Calls Tryz.prog 222 #[.agg #[.int .i64 sp, .slice A n c]] wx (fun e w' => e = .returned (.tuple #[.int .i64 T, .int .i64 H]) ∧ Below wx.heap.size wx w') by
    have := hSO wx _ (ShV.below hbx (.row sp ks) _ HV0.out)
    unfold GotSz at this
    rw [hse, ← hnn] at this; exact this)
  have HFAR := Lib.hid (fun (j : Nat) (k : Shp) (hk : ks[j]? = some k) => show (0 ≤ sumW (ks.take j) + sp * (j : Int) ∧ sumW (ks.take j) + sp * (j : Int) + k.size.1 ≤ T) ∧ cntS (ks.take j) + k.cnt ≤ cntS ks ∧ (sumW (ks.take (j + 1)) + sp * ((j + 1 : Nat) : Int) = sumW (ks.take j) + sp * (j : Int) + (k.size.1 + sp)) by
    rw [hT, hnn]; exact row_far hsp hB hk)
  have HMX := Lib.hid (fun k hk => show k.size.2 ≤ H from hH ▸ (max_mem ks hB k hk).2)
  have HB := Lib.hid hB
  have HF := Lib.hid (show (Shp.row sp ks).pcs x y = pcsR sp H ks x y by rw [Shp.pcs, hH])
  obtain ⟨W, hW⟩ : ∃ W, W = w.alloc (.cells #[.int .i64 sp, .slice A n c] 209) := ⟨_, rfl⟩
  have HBW := Lib.hid (show Below w.heap.size w W from hW ▸ below_alloc _ _)
  have D0 := Lib.hid (show W.heap[w.heap.size]? = some (.cells #[.int .i64 sp, .slice A n c] 209 (0, 0)) from hW ▸ heap_alloc_new _ _)
  have hn0 : (0 : Int) ≤ (n : Int) := by omega
  show Calls Tryz.prog 221 #[.agg #[.int .i64 sp, .slice A ks.length c], .int .i64 x, .int .i64 y] w _
  unfold GotPcs
  rw [HF.out]
  rw [← hnn] at h1 hn ⊢
  unfold maxLen at h2
  obtain ⟨iv, hiv, hzv, hsv, hbv⟩ := info_hid infoPc
  clear h3 hB hO hP hSO hH hT hnn hse HV0 HF
  go_enter Tryz.func221, Tryz.ntmps221
  go_wp2_with fail
  rw [← hW]
  clear hW
  have x0 := cell_of_blk D0.out 0
  have x1 := cell_of_blk D0.out 1
  have hs := (Array.getElem?_eq_some_iff.1 D0.out).1
  simp at x0 x1
  go_wp2_with fail
  refine (HSO.out _ HBW.out).mono ?_; rintro e w1 ⟨rfl, hb1⟩
  have HB1 := Lib.hid (below_more HBW.out hb1)
  have D1 := Lib.hid (blk_keep hb1 D0.out)
  clear hb1 x0 x1 hs
  have x1 := cell_of_blk D1.out 1
  have hs1 := (Array.getElem?_eq_some_iff.1 D1.out).1
  simp at x1
  go_wp2_with fail
  go_loopw [1, 9, 22] (fun a v i wr => ∃ (j m : Nat), j ≤ n ∧ i = .int .i64 j ∧ m ≤ 1000000 ∧ Hid (a = .int .i64 (x + (sumW (ks.take j) + sp * (j : Int)))) ∧ Hid (m = (pcsR sp H (ks.take j) x y).length) ∧ Hid (wr.ownsRow w1.heap.size 166 12 v m ((pcsR sp H (ks.take j) x y).flatMap Pc.cells)) ∧ Hid (Below w1.heap.size w1 wr)) (fun _ _ i _ => n - (intOf i).toNat)
  case atStart => exact ⟨0, 0, Nat.zero_le _, rfl, Nat.zero_le _, Lib.hid (by simp [sumW]), Lib.hid (by simp [pcsR]), Lib.hid (by simpa [pcsR] using World.ownsRow_nil _ _ _ _), Lib.hid (Below.refl _ _)⟩
  case round =>
    obtain ⟨j, m, hj, rfl, hm1, hav, hml, hown, hbw⟩ := hrel
    have HOW := Lib.hid hown.out
    have HBR := Lib.hid hbw.out
    have HML := Lib.hid hml.out
    clear hown hbw hml
    have hav2 := hav.out
    subst hav2
    clear hav
    have D2 := Lib.hid (blk_keep HBR.out D1.out)
    by_cases hlt : j < n
    · obtain ⟨k, hk⟩ : ∃ k, ks[j]? = some k := ⟨_, List.getElem?_eq_getElem (by have := HN.out; omega)⟩
      obtain ⟨b, o, u, hA, hb, hcell, hu⟩ := ShVs.at_ ks 0 j k HV.out hk
      subst hA
      rw [Nat.zero_add] at hcell
      obtain ⟨arg, rfl⟩ := hu.iface
      have hmem := List.mem_of_getElem? hk
      have hkb := HB.out k hmem
      have HBA := Lib.hid (below_more HB1.out HBR.out)
      have z := (HBA.out.cell (p := ⟨b, o + j, none⟩) hb).trans hcell
      have hbr : b < wr.heap.size := by have := HBA.out.size; omega
      have hj0 : (0 : Int) ≤ (j : Int) := by omega
      have hjn : (j : Int) < (n : Int) := by omega
      obtain ⟨f1, f2, f3⟩ := HFAR.out j k hk
      have hle := HMX.out k hmem
      have HC := Lib.hid (fun wx (hbx : Below w.heap.size w wx) => HO.out k hmem wx arg (ShV.below hbx k _ hu))
      obtain ⟨xj, hxj⟩ : ∃ v, v = x + (sumW (ks.take j) + sp * (j : Int)) := ⟨_, rfl⟩
      obtain ⟨yj, hyj⟩ : ∃ v, v = y + (H - k.size.2) / 2 := ⟨_, rfl⟩
      unfold szB at hkb
      have hxb : 0 ≤ xj ∧ xj + k.size.1 ≤ 1000000000 := by rw [hxj]; omega
      have hyb : 0 ≤ yj ∧ yj + k.size.2 ≤ 1000000000 := by rw [hyj]; omega
      have HPC := Lib.hid (fun wx (hbx : Below w.heap.size w wx) => HP.out k hmem wx arg xj yj hxb hyb (by omega) (ShV.below hbx k _ hu))
      have HTK := Lib.hid (show pcsR sp H (ks.take (j + 1)) x y = pcsR sp H (ks.take j) x y ++ k.pcs xj yj by
        rw [take_snocS hk, pcsR_app, List.length_take, Nat.min_eq_left (by have := HN.out; omega), hxj, hyj])
      obtain ⟨L, hL⟩ : ∃ L, L = k.pcs xj yj := ⟨_, rfl⟩
      obtain ⟨q, hq⟩ : ∃ q, q = L.length := ⟨_, rfl⟩
      obtain ⟨done, hdn⟩ : ∃ d, d = pcsR sp H (ks.take j) x y := ⟨_, rfl⟩
      have hmq : m + q ≤ 1000000 := by
        have := HML.out
        rw [this, pcsR_cnt, hq, hL, pcs_cnt]; omega
      have HXN := Lib.hid (show x + (sumW (ks.take (j + 1)) + sp * ((j + 1 : Nat) : Int)) = xj + (k.size.1 + sp) by rw [f3, hxj]; omega)
      obtain ⟨⟨p1, p2⟩, hp⟩ : ∃ p, p = k.size := ⟨_, rfl⟩
      rw [← hp] at hkb hxb hyb hle HXN hyj
      dsimp only at hkb hxb hyb hle HXN hyj
      have HP0 := Lib.hid hp
      have HC2 := Lib.hid (fun wx (hbx : Below w.heap.size w wx) => show Calls Tryz.prog (szFn k) #[arg] wx (fun e w' => e = .returned (.tuple #[.int .i64 p1, .int .i64 p2]) ∧ Below wx.heap.size wx w') by
        have := HC.out wx hbx
        unfold GotSz at this
        rw [← HP0.out] at this; exact this)
      have hdiv : (H - p2).tdiv 2 = (H - p2) / 2 := Int.tdiv_eq_ediv_of_nonneg (by omega)
      have HPC2 := Lib.hid (fun wx (hbx : Below w.heap.size w wx) => show Calls Tryz.prog (pcFn k) #[arg, .int .i64 xj, .int .i64 (y + (H - p2) / 2)] wx (GotRow wx 166 12 q (L.flatMap Pc.cells)) by
        have := HPC.out wx hbx
        unfold GotPcs at this
        rw [hq, hL, ← hyj]; exact this)
      rw [← hL, ← hdn] at HTK
      rw [← hdn] at HOW HML
      rw [← hxj]
      have HL := Lib.hid hL
      have HQ := Lib.hid hq
      clear hcell hu hmem hp HC HPC HP0 f1 f2 f3 hxj hyj hL hq hdn hk HV
      obtain ⟨Av, cv, hv, -, -, -, -⟩ := own_slice HOW.out
      subst hv
      have e2 := cell_of_blk D2.out 1
      have e0 := cell_of_blk D2.out 0
      have hs2 := (Array.getElem?_eq_some_iff.1 D2.out).1
      simp at e0 e2
      clear D2 HFAR HMX HO HP HB
      have HM := fun wx => pc_method k arg wx
      cases k <;> (
        simp only [tyOf, szFn, pcFn] at z HC2 HPC2 HM
        go_wp2_with fail
        refine (HC2.out _ HBA.out).mono ?_; rintro e w2 ⟨rfl, hb2⟩
        have HB2 := Lib.hid (below_more HBR.out hb2)
        have HO2 := Lib.hid (ownsRow_of_block (w' := w2) HOW.out (fun g hg => hb2.block g (HOW.out.lt g hg).2))
        have D2 := Lib.hid (blk_keep HB2.out D1.out)
        have HBA2 := Lib.hid (below_more HB1.out HB2.out)
        clear hb2 e0 e2 hs2
        go_wp2_with fail
        refine (HPC2.out _ HBA2.out).mono ?_; rintro e w3 ⟨A3, c3, rfl, hown3, hb3⟩
        have HB3 := Lib.hid (below_more HB2.out hb3)
        have HO3 := Lib.hid (ownsRow_of_block (w' := w3) HO2.out (fun g hg => hb3.block g (HO2.out.lt g hg).2))
        obtain ⟨g1, g2, g3, g4⟩ := own_srcP hown3
        have G1 := Lib.hid g1
        have G2 := Lib.hid g2
        have G3 := Lib.hid g3
        have hw13 := HB3.out.size
        unfold maxLen at g4
        clear hb3 g1 g2 g3 hown3 D2
        go_wp2_with (first
          | (at_builtin; refine wpList_append_src _ rfl (.tmp 31) (.tmp 40) 163 rfl w1.heap.size 166 iv (.agg #[.int .i64 0, .int .i64 0, .int .i64 0, .int .i64 0, .bool false, .int .i64 0, .int .i64 0, .int .i64 0, .int .i64 0, .int .i64 0, .int .i64 0, .int .i64 0]) 12 96 Tryz.underlying163 hiv.out hzv.out hsv.out hbv.out rfl (by decide) (.slice Av m cv) m (done.flatMap Pc.cells) rfl ?own2 A3 q c3 (L.flatMap Pc.cells) rfl G1.out G2.out ?c2 pcs_one ?m2 ?b2 ?s2 (m + q) rfl ?_))
        case own2 => exact HO3.out
        case c2 => exact G3.out
        case m2 => unfold maxLen; omega
        case b2 => omega
        case s2 => omega
        intro A4 c4 w4 own4 hg4 _
        have HB4 := Lib.hid (HB3.out.grown hg4 (by omega) (fun g hg => (HO3.out.lt g hg).1))
        have HO4 := Lib.hid own4
        clear own4 hg4
        have D4 := Lib.hid (blk_keep HB4.out D1.out)
        have e0 := cell_of_blk D4.out 0
        have hs4 := (Array.getElem?_eq_some_iff.1 D4.out).1
        simp at e0
        go_wp2_with fail
        all_goals go_roundw
        all_goals first
          | exact ⟨j + 1, m + q, by omega, by go_num, by omega, Lib.hid (by rw [HXN.out]), Lib.hid (by rw [HTK.out, List.length_append, ← HML.out, ← HQ.out]), Lib.hid (by rw [HTK.out, List.flatMap_append]; exact HO4.out), HB4⟩
          | (simp [intOf]; done)
          | (simp [intOf]; omega))
    · obtain rfl : j = n := by omega
      have HT := Lib.hid (show ks.take j = ks by rw [HN.out, List.take_length])
      have h1 := HOW.out
      have h2 := HML.out
      rw [HT.out] at h1 h2
      obtain ⟨Av, cv, hv, -, -, -, -⟩ := own_slice h1
      subst hv
      have hsz := HB1.out.size
      have HOF := Lib.hid (own_base h1 hsz)
      have HM2 := Lib.hid h2
      have HBB := Lib.hid (below_more HB1.out HBR.out)
      clear h1 h2 D2 HFAR HMX HO HP HB
      go_wp2_with fail
      go_ret
      exact ⟨Av, cv, by rw [← HM2.out]; rfl, by rw [← HM2.out]; exact HOF.out, HBB.out⟩
end Go.Proofs.YtmiokllpdmmfhaaGreat
