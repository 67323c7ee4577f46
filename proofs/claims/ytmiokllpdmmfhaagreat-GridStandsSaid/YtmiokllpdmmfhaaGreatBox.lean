/-
  The boxes of a group whose lines begin at the left (boxes), by the program.
-/
import Derived.Test.YtmiokllpdmmfhaaGreatLaK
import Derived.Test.YtmiokllpdmmfhaaGreatLaM
import Derived.Test.YtmiokllpdmmfhaaGreatLaD
namespace Go.Proofs.YtmiokllpdmmfhaaGreat
open Go.RowKit
structure Bx where
  kind : Int
  sign : Int
  turn : Int
  mirror : Bool
  state : Int
  min : Int
  max : Int
  x : Fr
  y : Fr
  w : Fr
  h : Fr
def Bx.cells (b : Bx) : List Value := [.int .i64 b.kind, .int .i64 b.sign, .int .i64 b.turn, .bool b.mirror, .int .i64 b.state, .int .i64 b.min, .int .i64 b.max, .int .i64 b.x.num, .int .i64 b.x.den, .int .i64 b.y.num, .int .i64 b.y.den, .int .i64 b.w.num, .int .i64 b.w.den, .int .i64 b.h.num, .int .i64 b.h.den]
theorem bx_one (b : Bx) : ∀ u ∈ b.cells, u.oneCell' = true := fun u hu => by
  simp [Bx.cells] at hu
  rcases hu with rfl | rfl | rfl | rfl | rfl | rfl | rfl | rfl | rfl | rfl | rfl | rfl | rfl | rfl | rfl <;> rfl
theorem infoBx : (Tryz.prog.info? 82).map (fun i => (i.zero, i.size, i.bytes)) = some (some (.agg #[.int .i64 0, .int .i64 0, .int .i64 0, .bool false, .int .i64 0, .int .i64 0, .int .i64 0, .int .i64 0, .int .i64 0, .int .i64 0, .int .i64 0, .int .i64 0, .int .i64 0, .int .i64 0, .int .i64 0]), 15, 120) := by kernel_rfl
def plusF (a b : Fr) : Fr := fracR (a.num * b.den + b.num * a.den) (a.den * b.den)
def boxPc (sc x y : Fr) (p : Pc) : Bx := ⟨p.n.kind, p.n.sign, p.n.turn, p.n.mirror, p.n.state, p.n.min, p.n.max, plusF x (fracR (sc.num * p.x) sc.den), plusF y (fracR (sc.num * p.y) sc.den), fracR (sc.num * p.wd) sc.den, fracR (sc.num * p.hg) sc.den⟩
set_option maxRecDepth 100000 in
set_option maxHeartbeats 4000000 in
theorem boxOf_any (n : Nd) (w : World) : Calls Tryz.prog 108 #[n.val] w
    fun e w' => e = .returned (.agg #[.int .i64 n.kind, .int .i64 n.sign, .int .i64 n.turn, .bool n.mirror, .int .i64 n.state, .int .i64 n.min, .int .i64 n.max, .int .i64 0, .int .i64 0, .int .i64 0, .int .i64 0, .int .i64 0, .int .i64 0, .int .i64 0, .int .i64 0]) ∧ Below w.heap.size w w' := by
  obtain ⟨nk, nd, ns, nt, nm, nst, nmn, nmx⟩ := n
  unfold Nd.val
  dsimp only
  go_enter Tryz.func108, Tryz.ntmps108
  go_wp2
  exact bodyPost_ret (v := .agg #[.int .i64 nk, .int .i64 ns, .int .i64 nt, .bool nm, .int .i64 nst, .int .i64 nmn, .int .i64 nmx, .int .i64 0, .int .i64 0, .int .i64 0, .int .i64 0, .int .i64 0, .int .i64 0, .int .i64 0, .int .i64 0]) (by simp [results, Tryz.results108, go_sem]) rfl ⟨rfl, two_under _ _ _⟩
def smallP (p : Pc) : Prop := (0 ≤ p.x ∧ p.x ≤ 1000000) ∧ (0 ≤ p.y ∧ p.y ≤ 1000000) ∧ (0 ≤ p.wd ∧ p.wd ≤ 1000000) ∧ (0 ≤ p.hg ∧ p.hg ≤ 1000000)
theorem plusF_any (x : Fr) (sn sd k : Int) (hx : -2000000000000 ≤ x.num ∧ x.num ≤ 2000000000000) (hxd : 1 ≤ x.den ∧ x.den ≤ 20000000) (h1 : 0 ≤ sn ∧ sn ≤ 48) (h2 : 1 ≤ sd ∧ sd ≤ 1000000) (hk : 0 ≤ k ∧ k ≤ 1000000) (wx : World) :
    Calls Tryz.prog 109 #[.agg #[.int .i64 x.num, .int .i64 x.den], .agg #[.int .i64 (fracR (sn * k) sd).num, .int .i64 (fracR (sn * k) sd).den]] wx (GotFr wx (plusF x (fracR (sn * k) sd))) := by
  have a := Int.mul_nonneg h1.1 hk.1
  have b := Int.mul_le_mul h1.2 hk.2 hk.1 (by omega)
  have c := fracR_bd a (show 0 < sd by omega)
  obtain ⟨⟨t1, t2⟩, ht⟩ : ∃ t, t = fracR (sn * k) sd := ⟨_, rfl⟩
  rw [← ht] at c ⊢
  dsimp only at c ⊢
  have u1 : -2000000000000000000 ≤ x.num * t2 ∧ x.num * t2 ≤ 2000000000000000000 := by
    rcases Int.le_total 0 x.num with h | h
    · have m1 := Int.mul_nonneg h (show 0 ≤ t2 by omega)
      have m2 := Int.mul_le_mul hx.2 (show t2 ≤ 1000000 by omega) (by omega) (by omega)
      omega
    · have m1 := Int.mul_nonneg (show 0 ≤ -x.num by omega) (show 0 ≤ t2 by omega)
      have m2 := Int.mul_le_mul (show -x.num ≤ 2000000000000 by omega) (show t2 ≤ 1000000 by omega) (by omega) (by omega)
      rw [Int.neg_mul] at m1 m2
      omega
  have u2 := Int.mul_nonneg c.1.1 (show 0 ≤ x.den by omega)
  have u3 := Int.mul_le_mul (show t1 ≤ 48000000 by omega) hxd.2 (by omega) (by omega)
  have u4 := Int.mul_le_mul hxd.2 (show t2 ≤ 1000000 by omega) (by omega) (by omega)
  have u5 := Int.mul_pos (show 0 < x.den by omega) (show 0 < t2 by omega)
  have := plus_any x.num x.den t1 t2 wx (by unfold smallI; omega) (by unfold smallI; omega) (by unfold smallI; omega) u5 (by unfold smallI; omega)
  exact this
theorem new_row (w : World) (cs : List Value) (t : TypeId) : ∀ ad, some (⟨w.heap.size, 0, none⟩ : Addr) = some ad → ∀ (j : Nat) (u : Value), cs[j]? = some u → (w.alloc (.cells cs.toArray t)).cell? (ad.add j) = some u := fun ad had j u hj => by
  injection had with had
  subst had
  rw [show (⟨w.heap.size, 0, none⟩ : Addr).add j = ⟨w.heap.size, j, none⟩ by cases j <;> simp [Addr.add], cell_of_blk (heap_alloc_new w _) j]
  simpa using hj
theorem blk_keepB {B : Nat} {W w' : World} (hb : Below B W w') {g : Nat} {cs : Array Value} {t : TypeId} (h : W.heap[g]? = some (.cells cs t (0, 0))) (hg : g < B) : w'.heap[g]? = some (.cells cs t (0, 0)) := (hb.block g hg).trans h
set_option maxRecDepth 100000 in
set_option maxHeartbeats 16000000 in
theorem boxes_any (cw mw : Bool) (hmw : mw = false) (a1 a2 b1 b2 pw qw : Nat) (s : Shp) (arg : Value) (n1 d1 n2 d2 n3 d3 ln st : Int) (w : World) (hP : PcOk s) (hB : szB s) (hcnt : s.cnt ≤ 100000) (hv : ShV w s (.iface (tyOf s) arg)) (hpc : ∀ p ∈ s.pcs 0 0, smallP p)
    (h1 : 0 ≤ n1 ∧ n1 ≤ 48) (h2 : 1 ≤ d1 ∧ d1 ≤ 1000000) (h3 : 0 ≤ n3 ∧ n3 ≤ 100000000) (h4 : 1 ≤ d3 ∧ d3 ≤ 10000000) (h5 : 0 ≤ ln ∧ ln ≤ 1000) (h6 : 0 ≤ st ∧ st ≤ 1000000000) (X Y : Fr) (hX : X = if cw then croR n3 d3 ln else ⟨st, 1⟩) (hY : Y = if cw then ⟨st, 1⟩ else croR n3 d3 ln) :
    Calls Tryz.prog 63 #[.agg #[.iface (tyOf s) arg, .int .i64 n1, .int .i64 d1, .int .i64 n2, .int .i64 d2, .int .i64 n3, .int .i64 d3, .int .i64 ln, .int .i64 st], .agg #[.bool cw, .bool mw, .func (.func a1) #[] #[], .func (.func a2) #[] #[], .func (.func 172) #[] #[.pointer (some ⟨pw, 0, none⟩)], .func (.func b1) #[] #[], .func (.func b2) #[] #[], .func (.func 172) #[] #[.pointer (some ⟨qw, 0, none⟩)]]] w
      (GotRow w 82 15 (s.pcs 0 0).length (((s.pcs 0 0).map (boxPc ⟨n1, d1⟩ X Y)).flatMap Bx.cells)) := by
  subst hmw
  have hcro : (-2000000000000 ≤ (croR n3 d3 ln).num ∧ (croR n3 d3 ln).num ≤ 2000000000000) ∧ 1 ≤ (croR n3 d3 ln).den ∧ (croR n3 d3 ln).den ≤ 20000000 := by
    have c := marR_bd h3 h4
    have e1 := Int.mul_nonneg (show 0 ≤ 72 * ln by omega) (show 0 ≤ (marR n3 d3).den by omega)
    have e2 := Int.mul_le_mul (show 72 * ln ≤ 72000 by omega) c.2.2 (by omega) (by omega)
    have a := fracR_num (n := 72 * ln * (marR n3 d3).den + (marR n3 d3).num * 1) (d := 1 * (marR n3 d3).den) (B := 2000000000000) (by omega) (by omega)
    have b := fracR_den (n := 72 * ln * (marR n3 d3).den + (marR n3 d3).num * 1) (d := 1 * (marR n3 d3).den) (by omega)
    unfold croR
    exact ⟨a, b.1, by omega⟩
  have hxb : (-2000000000000 ≤ X.num ∧ X.num ≤ 2000000000000) ∧ 1 ≤ X.den ∧ X.den ≤ 20000000 := by
    rw [hX]; cases cw
    · exact ⟨⟨by simp; omega, by simp; omega⟩, by simp, by simp⟩
    · exact hcro
  have hyb : (-2000000000000 ≤ Y.num ∧ Y.num ≤ 2000000000000) ∧ 1 ≤ Y.den ∧ Y.den ≤ 20000000 := by
    rw [hY]; cases cw
    · exact hcro
    · exact ⟨⟨by simp; omega, by simp; omega⟩, by simp, by simp⟩
  have HCO := Lib.hid (fun wx => show Calls Tryz.prog 107 #[.agg #[.iface (tyOf s) arg, .int .i64 n1, .int .i64 d1, .int .i64 n2, .int .i64 d2, .int .i64 n3, .int .i64 d3, .int .i64 ln, .int .i64 st], .agg #[.bool cw, .bool false, .func (.func a1) #[] #[], .func (.func a2) #[] #[], .func (.func 172) #[] #[.pointer (some ⟨pw, 0, none⟩)], .func (.func b1) #[] #[], .func (.func b2) #[] #[], .func (.func 172) #[] #[.pointer (some ⟨qw, 0, none⟩)]]] wx
      (fun e w' => e = .returned (.tuple #[.agg #[.int .i64 X.num, .int .i64 X.den], .agg #[.int .i64 Y.num, .int .i64 Y.den]]) ∧ Below wx.heap.size wx w') by
    have := corner_any cw false a1 a2 b1 b2 pw qw (tyOf s) arg n1 d1 n2 d2 n3 d3 ln st wx h3 h4 (by omega)
    rw [hX, hY]
    cases cw <;> simpa using this)
  obtain ⟨L, hL⟩ : ∃ L, L = s.pcs 0 0 := ⟨_, rfl⟩
  obtain ⟨q, hq⟩ : ∃ q, q = L.length := ⟨_, rfl⟩
  have hqb : q ≤ 100000 := by rw [hq, hL, pcs_cnt]; exact hcnt
  have HPC := Lib.hid (fun wx (hb : Below w.heap.size w wx) => show Calls Tryz.prog (pcFn s) #[arg, .int .i64 0, .int .i64 0] wx (GotRow wx 166 12 q (L.flatMap Pc.cells)) by
    unfold szB at hB
    have := hP wx arg 0 0 (by omega) (by omega) (by omega) (ShV.below hb s _ hv)
    unfold GotPcs at this
    rw [hq, hL]; exact this)
  rw [← hL] at hpc ⊢
  rw [← hq]
  have HL := Lib.hid hpc
  have HQ := Lib.hid hq
  have HM := Lib.hid (fun wx => pc_method s arg wx)
  obtain ⟨F, hF⟩ : ∃ F : Int → Fr, F = fun k => fracR (n1 * k) d1 := ⟨_, rfl⟩
  have HTI := Lib.hid (fun wx k (hk : 0 ≤ k ∧ k ≤ 1000000) => show Calls Tryz.prog 110 #[.agg #[.int .i64 n1, .int .i64 d1], .int .i64 k] wx (fun e w' => e = .returned (.agg #[.int .i64 (F k).num, .int .i64 (F k).den]) ∧ Below wx.heap.size wx w') by
    have a := Int.mul_nonneg h1.1 hk.1
    have b := Int.mul_le_mul h1.2 hk.2 hk.1 (by omega)
    have := times_any n1 d1 k wx (by unfold smallI; omega) (by omega)
    rw [hF]; exact this)
  have HPX := Lib.hid (fun wx k (hk : 0 ≤ k ∧ k ≤ 1000000) => show Calls Tryz.prog 109 #[.agg #[.int .i64 X.num, .int .i64 X.den], .agg #[.int .i64 (F k).num, .int .i64 (F k).den]] wx (fun e w' => e = .returned (.agg #[.int .i64 (plusF X (F k)).num, .int .i64 (plusF X (F k)).den]) ∧ Below wx.heap.size wx w') by
    have := plusF_any X n1 d1 k hxb.1 hxb.2 h1 h2 hk wx
    rw [hF]; exact this)
  have HPY := Lib.hid (fun wx k (hk : 0 ≤ k ∧ k ≤ 1000000) => show Calls Tryz.prog 109 #[.agg #[.int .i64 Y.num, .int .i64 Y.den], .agg #[.int .i64 (F k).num, .int .i64 (F k).den]] wx (fun e w' => e = .returned (.agg #[.int .i64 (plusF Y (F k)).num, .int .i64 (plusF Y (F k)).den]) ∧ Below wx.heap.size wx w') by
    have := plusF_any Y n1 d1 k hyb.1 hyb.2 h1 h2 hk wx
    rw [hF]; exact this)
  have HBX := Lib.hid (fun (p : Pc) => show (boxPc ⟨n1, d1⟩ X Y p).cells = [.int .i64 p.n.kind, .int .i64 p.n.sign, .int .i64 p.n.turn, .bool p.n.mirror, .int .i64 p.n.state, .int .i64 p.n.min, .int .i64 p.n.max, .int .i64 (plusF X (F p.x)).num, .int .i64 (plusF X (F p.x)).den, .int .i64 (plusF Y (F p.y)).num, .int .i64 (plusF Y (F p.y)).den, .int .i64 (F p.wd).num, .int .i64 (F p.wd).den, .int .i64 (F p.hg).num, .int .i64 (F p.hg).den] by rw [hF]; rfl)
  obtain ⟨B, hBd⟩ : ∃ B : Pc → Bx, B = boxPc ⟨n1, d1⟩ X Y := ⟨_, rfl⟩
  rw [← hBd] at HBX ⊢
  obtain ⟨M, hMM⟩ : ∃ M, M = L.map B := ⟨_, rfl⟩
  have HMM := Lib.hid hMM
  rw [← hMM]
  clear hMM
  obtain ⟨⟨X1, X2⟩, hXe⟩ : ∃ x, x = X := ⟨_, rfl⟩
  obtain ⟨⟨Y1, Y2⟩, hYe⟩ : ∃ x, x = Y := ⟨_, rfl⟩
  have HXX := Lib.hid hXe
  have HYY := Lib.hid hYe
  obtain ⟨PX, hPX⟩ : ∃ P : Int → Fr, P = fun k => plusF X (F k) := ⟨_, rfl⟩
  obtain ⟨PY, hPY⟩ : ∃ P : Int → Fr, P = fun k => plusF Y (F k) := ⟨_, rfl⟩
  have HPX := Lib.hid (fun wx k (hk : 0 ≤ k ∧ k ≤ 1000000) => show Calls Tryz.prog 109 #[.agg #[.int .i64 X1, .int .i64 X2], .agg #[.int .i64 (F k).num, .int .i64 (F k).den]] wx (fun e w' => e = .returned (.agg #[.int .i64 (PX k).num, .int .i64 (PX k).den]) ∧ Below wx.heap.size wx w') by
    have := HPX.out wx k hk
    rw [← hXe] at this; rw [hPX, ← hXe]; exact this)
  have HPY := Lib.hid (fun wx k (hk : 0 ≤ k ∧ k ≤ 1000000) => show Calls Tryz.prog 109 #[.agg #[.int .i64 Y1, .int .i64 Y2], .agg #[.int .i64 (F k).num, .int .i64 (F k).den]] wx (fun e w' => e = .returned (.agg #[.int .i64 (PY k).num, .int .i64 (PY k).den]) ∧ Below wx.heap.size wx w') by
    have := HPY.out wx k hk
    rw [← hYe] at this; rw [hPY, ← hYe]; exact this)
  have HBX := Lib.hid (fun (p : Pc) => show (B p).cells = [.int .i64 p.n.kind, .int .i64 p.n.sign, .int .i64 p.n.turn, .bool p.n.mirror, .int .i64 p.n.state, .int .i64 p.n.min, .int .i64 p.n.max, .int .i64 (PX p.x).num, .int .i64 (PX p.x).den, .int .i64 (PY p.y).num, .int .i64 (PY p.y).den, .int .i64 (F p.wd).num, .int .i64 (F p.wd).den, .int .i64 (F p.hg).num, .int .i64 (F p.hg).den] by rw [hPX, hPY]; exact HBX.out p)
  rw [← hXe, ← hYe] at HCO
  dsimp only at HCO
  obtain ⟨iv, hiv, hzv, hsv, hbv⟩ := info_hid infoBx
  clear hP hB hcnt hpc h1 h2 h3 h4 h5 h6 hX hY hcro hxb hyb hL hq hF hBd hXe hYe hPX hPY HXX HYY
  obtain ⟨W1, hW1⟩ : ∃ W1, W1 = w.alloc (.cells #[.iface (tyOf s) arg, .int .i64 n1, .int .i64 d1, .int .i64 n2, .int .i64 d2, .int .i64 n3, .int .i64 d3, .int .i64 ln, .int .i64 st] 123) := ⟨_, rfl⟩
  obtain ⟨W, hW⟩ : ∃ W, W = W1.alloc (.cells #[.bool cw, .bool false, .func (.func a1) #[] #[], .func (.func a2) #[] #[], .func (.func 172) #[] #[.pointer (some ⟨pw, 0, none⟩)], .func (.func b1) #[] #[], .func (.func b2) #[] #[], .func (.func 172) #[] #[.pointer (some ⟨qw, 0, none⟩)]] 102) := ⟨_, rfl⟩
  have s1 : W1.heap.size = w.heap.size + 1 := by rw [hW1]; simp
  have s2 : W.heap.size = w.heap.size + 1 + 1 := by rw [hW]; simp [s1]
  have k1 : Below w.heap.size w W1 := hW1 ▸ below_alloc _ _
  have k2 : Below W1.heap.size W1 W := hW ▸ below_alloc _ _
  have HB := Lib.hid (below_more k1 k2)
  have D0 := Lib.hid (blk_keep k2 (show W1.heap[w.heap.size]? = some (.cells #[.iface (tyOf s) arg, .int .i64 n1, .int .i64 d1, .int .i64 n2, .int .i64 d2, .int .i64 n3, .int .i64 d3, .int .i64 ln, .int .i64 st] 123 (0, 0)) by rw [hW1]; exact heap_alloc_new _ _))
  have D1 := Lib.hid (show W.heap[w.heap.size + 1]? = some (.cells #[.bool cw, .bool false, .func (.func a1) #[] #[], .func (.func a2) #[] #[], .func (.func 172) #[] #[.pointer (some ⟨pw, 0, none⟩)], .func (.func b1) #[] #[], .func (.func b2) #[] #[], .func (.func 172) #[] #[.pointer (some ⟨qw, 0, none⟩)]] 102 (0, 0)) by rw [hW, ← s1]; exact heap_alloc_new _ _)
  clear s1 s2 k1 k2 hv
  have c0 := cell_of_blk D0.out 0
  have c1 := cell_of_blk D0.out 1
  have c2 := cell_of_blk D0.out 2
  have c3 := cell_of_blk D0.out 3
  have c4 := cell_of_blk D0.out 4
  have c5 := cell_of_blk D0.out 5
  have c6 := cell_of_blk D0.out 6
  have c7 := cell_of_blk D0.out 7
  have c8 := cell_of_blk D0.out 8
  have w0 := cell_of_blk D1.out 0
  have w1 := cell_of_blk D1.out 1
  have w2 := cell_of_blk D1.out 2
  have w3 := cell_of_blk D1.out 3
  have w4 := cell_of_blk D1.out 4
  have w5 := cell_of_blk D1.out 5
  have w6 := cell_of_blk D1.out 6
  have w7 := cell_of_blk D1.out 7
  have hz0 := (Array.getElem?_eq_some_iff.1 D0.out).1
  have hz1 := (Array.getElem?_eq_some_iff.1 D1.out).1
  simp at c0 c1 c2 c3 c4 c5 c6 c7 c8 w0 w1 w2 w3 w4 w5 w6 w7
  go_enter Tryz.func63, Tryz.ntmps63
  go_wp2_with fail
  rw [← hW1, ← hW]
  clear hW1 hW
  go_wp2_with fail
  refine (HCO.out _).mono ?_; rintro e v1 ⟨rfl, hb1⟩
  have HB1 := Lib.hid (below_more HB.out hb1)
  have E0 := Lib.hid (blk_keep hb1 D0.out)
  have E1 := Lib.hid (blk_keep hb1 D1.out)
  clear hb1 c0 c1 c2 c3 c4 c5 c6 c7 c8 w0 w1 w2 w3 w4 w5 w6 w7 hz0 hz1
  have c0 := cell_of_blk E0.out 0
  have hz0 := (Array.getElem?_eq_some_iff.1 E0.out).1
  simp at c0
  obtain ⟨V, hV⟩ : ∃ V, V = (v1.alloc (.cells #[.int .i64 X1, .int .i64 X2] 40)).alloc (.cells #[.int .i64 Y1, .int .i64 Y2] 40) := ⟨_, rfl⟩
  have HBV := Lib.hid (show Below v1.heap.size v1 V from hV ▸ two_under _ _ _)
  have HBWV := Lib.hid (below_more HB1.out HBV.out)
  have G0 := Lib.hid (blk_keep HBV.out E0.out)
  have G1 := Lib.hid (blk_keep HBV.out E1.out)
  have G2 := Lib.hid (show V.heap[v1.heap.size]? = some (.cells #[.int .i64 X1, .int .i64 X2] 40 (0, 0)) by rw [hV, heap_alloc_other _ _ _ (by simp)]; exact heap_alloc_new _ _)
  have G3 := Lib.hid (show V.heap[v1.heap.size + 1]? = some (.cells #[.int .i64 Y1, .int .i64 Y2] 40 (0, 0)) by rw [hV]; have := heap_alloc_new (v1.alloc (.cells #[.int .i64 X1, .int .i64 X2] 40)) (.cells #[.int .i64 Y1, .int .i64 Y2] 40); simpa using this)
  go_upto_region 3 with fail
  rw [← hV]
  clear hV
  go_cut [19, 20, 21] (fun p n i wx => ∃ A c, p = .slice A q c ∧ n = .int .i64 q ∧ i = .int .i64 0 ∧ Hid (wx.ownsRow V.heap.size 166 12 (.slice A q c) q (L.flatMap Pc.cells)) ∧ Hid (Below V.heap.size V wx))
  case first =>
    have c0 := cell_of_blk G0.out 0
    have hz0 := (Array.getElem?_eq_some_iff.1 G0.out).1
    simp at c0
    have HM2 := HM.out
    cases s <;> (
      simp only [tyOf, pcFn] at HM2 HPC c0 ⊢
      go_wp2_with fail
      refine (HPC.out _ HBWV.out).mono ?_; rintro e v2 ⟨A2, c2, rfl, hown2, hb2⟩
      have HO2 := Lib.hid hown2
      have HB2 := Lib.hid hb2
      clear hown2 hb2
      go_wp2_with fail
      go_meet
      exact ⟨A2, c2, rfl, rfl, rfl, HO2, HB2⟩)
  case rest =>
  obtain ⟨A2, cp, rfl, rfl, rfl, hown2, hb2⟩ := hcut
  obtain ⟨V2, hV2⟩ : ∃ V2, V2 = wc := ⟨_, rfl⟩
  rw [← hV2] at hown2 hb2 ⊢
  have HO2 := Lib.hid hown2.out
  have HBV2 := Lib.hid (below_more HBWV.out hb2.out)
  have F0 := Lib.hid (blk_keep hb2.out G0.out)
  have F1 := Lib.hid (blk_keep hb2.out G1.out)
  have F2 := Lib.hid (blk_keep hb2.out G2.out)
  have F3 := Lib.hid (blk_keep hb2.out G3.out)
  clear hown2 hb2 hV2 c0 hz0 HM HPC HCO
  go_wp2_with fail
  go_loopw [7, 21] (fun v i wr => ∃ k : Nat, k ≤ q ∧ i = .int .i64 k ∧ Hid (wr.ownsRow V2.heap.size 82 15 v k ((M.take k).flatMap Bx.cells)) ∧ Hid (Below V2.heap.size V2 wr)) (fun _ i _ => q - (intOf i).toNat)
  case atStart => exact ⟨0, Nat.zero_le _, rfl, Lib.hid (by simpa using World.ownsRow_nil _ _ _ _), Lib.hid (Below.refl _ _)⟩
  case round =>
    obtain ⟨k, hk, rfl, hown, hbw⟩ := hrel
    have HOW := Lib.hid hown.out
    have HBR := Lib.hid hbw.out
    clear hown hbw
    by_cases hlt : k < q
    · obtain ⟨p, hp⟩ : ∃ p, L[k]? = some p := ⟨_, List.getElem?_eq_getElem (by have := HQ.out; omega)⟩
      have hps := HL.out p (List.mem_of_getElem? hp)
      have HTK := Lib.hid (show M.take (k + 1) = M.take k ++ [B p] by
        have h : M[k]? = some (B p) := by rw [HMM.out, List.getElem?_map, hp]; rfl
        obtain ⟨hk', e⟩ := List.getElem?_eq_some_iff.1 h
        rw [List.take_succ_eq_append_getElem hk', e])
      have HBP := Lib.hid (HBX.out p)
      have HFL := Lib.hid (fun j (hj : j < 12) => flat_at (f := Pc.cells) (c := 12) (fun _ => rfl) L k p hp j hj)
      obtain ⟨⟨nk, nd, ns, nt, nm, nst, nmn, nmx⟩, px, py, pw', ph⟩ := p
      unfold smallP at hps
      dsimp only at hps HBP
      obtain ⟨hpx, hpy, hpw, hph⟩ := hps
      obtain ⟨A3, c3, hv3, -, hcm, hpl, hnl⟩ := own_slice HO2.out
      injection hv3 with e1 e2 e3
      subst e1 e3
      cases A2 with
      | none => have := hnl rfl; omega
      | some ad =>
      obtain ⟨g, rfl, hgb, hgV, hcell⟩ := hpl ad rfl
      have hgr : g < wr.heap.size := by have := HBR.out.size; omega
      have z0 : wr.cell? ⟨g, k * 12 + 0, none⟩ = some _ := (HBR.out.cell (p := ⟨g, _, none⟩) hgV).trans (hcell _ _ (HFL.out 0 (by omega)))
      have z1 : wr.cell? ⟨g, k * 12 + 1, none⟩ = some _ := (HBR.out.cell (p := ⟨g, _, none⟩) hgV).trans (hcell _ _ (HFL.out 1 (by omega)))
      have z2 : wr.cell? ⟨g, k * 12 + 2, none⟩ = some _ := (HBR.out.cell (p := ⟨g, _, none⟩) hgV).trans (hcell _ _ (HFL.out 2 (by omega)))
      have z3 : wr.cell? ⟨g, k * 12 + 3, none⟩ = some _ := (HBR.out.cell (p := ⟨g, _, none⟩) hgV).trans (hcell _ _ (HFL.out 3 (by omega)))
      have z4 : wr.cell? ⟨g, k * 12 + 4, none⟩ = some _ := (HBR.out.cell (p := ⟨g, _, none⟩) hgV).trans (hcell _ _ (HFL.out 4 (by omega)))
      have z5 : wr.cell? ⟨g, k * 12 + 5, none⟩ = some _ := (HBR.out.cell (p := ⟨g, _, none⟩) hgV).trans (hcell _ _ (HFL.out 5 (by omega)))
      have z6 : wr.cell? ⟨g, k * 12 + 6, none⟩ = some _ := (HBR.out.cell (p := ⟨g, _, none⟩) hgV).trans (hcell _ _ (HFL.out 6 (by omega)))
      have z7 : wr.cell? ⟨g, k * 12 + 7, none⟩ = some _ := (HBR.out.cell (p := ⟨g, _, none⟩) hgV).trans (hcell _ _ (HFL.out 7 (by omega)))
      have z8 : wr.cell? ⟨g, k * 12 + 8, none⟩ = some _ := (HBR.out.cell (p := ⟨g, _, none⟩) hgV).trans (hcell _ _ (HFL.out 8 (by omega)))
      have z9 : wr.cell? ⟨g, k * 12 + 9, none⟩ = some _ := (HBR.out.cell (p := ⟨g, _, none⟩) hgV).trans (hcell _ _ (HFL.out 9 (by omega)))
      have z10 : wr.cell? ⟨g, k * 12 + 10, none⟩ = some _ := (HBR.out.cell (p := ⟨g, _, none⟩) hgV).trans (hcell _ _ (HFL.out 10 (by omega)))
      have z11 : wr.cell? ⟨g, k * 12 + 11, none⟩ = some _ := (HBR.out.cell (p := ⟨g, _, none⟩) hgV).trans (hcell _ _ (HFL.out 11 (by omega)))
      simp at z0 z1 z2 z3 z4 z5 z6 z7 z8 z9 z10 z11
      have hk0 : (0 : Int) ≤ (k : Int) := by omega
      have hkq : (k : Int) < (q : Int) := by omega
      have HBO := Lib.hid (fun wx => boxOf_any ⟨nk, nd, ns, nt, nm, nst, nmn, nmx⟩ wx)
      unfold Nd.val at HBO
      dsimp only at HBO
      clear hp hpl hnl hcell hcm HFL
      go_wp2_with fail
      obtain ⟨V3, hV3⟩ : ∃ V3, V3 = wr.alloc (.cells #[.int .i64 nk, .int .i64 nd, .int .i64 ns, .int .i64 nt, .bool nm, .int .i64 nst, .int .i64 nmn, .int .i64 nmx, .int .i64 px, .int .i64 py, .int .i64 pw', .int .i64 ph] 166) := ⟨_, rfl⟩
      have HB3 := Lib.hid (show Below wr.heap.size wr V3 from hV3 ▸ below_alloc _ _)
      have P3 := Lib.hid (show V3.heap[wr.heap.size]? = some (.cells #[.int .i64 nk, .int .i64 nd, .int .i64 ns, .int .i64 nt, .bool nm, .int .i64 nst, .int .i64 nmn, .int .i64 nmx, .int .i64 px, .int .i64 py, .int .i64 pw', .int .i64 ph] 166 (0, 0)) from hV3 ▸ heap_alloc_new _ _)
      rw [← hV3]
      clear hV3 z0 z1 z2 z3 z4 z5 z6 z7 z8 z9 z10 z11
      refine (HBO.out _).mono ?_; rintro e v4 ⟨rfl, hb4⟩
      have HB4 := Lib.hid (below_more HB3.out hb4)
      have P4 := Lib.hid (blk_keep hb4 P3.out)
      clear hb4
      go_upto_region 7 with fail
      obtain ⟨V5, hV5⟩ : ∃ V5, V5 = v4.alloc (.cells #[.int .i64 nk, .int .i64 ns, .int .i64 nt, .bool nm, .int .i64 nst, .int .i64 nmn, .int .i64 nmx, .int .i64 0, .int .i64 0, .int .i64 0, .int .i64 0, .int .i64 0, .int .i64 0, .int .i64 0, .int .i64 0] 82) := ⟨_, rfl⟩
      have HB5 := Lib.hid (show Below wr.heap.size wr V5 from hV5 ▸ HB4.out.alloc HB4.out.size _)
      have P5 := Lib.hid (blk_keep (hV5 ▸ below_alloc v4 _ : Below v4.heap.size v4 V5) P4.out)
      have Q5 := Lib.hid (show V5.heap[v4.heap.size]? = some (.cells #[.int .i64 nk, .int .i64 ns, .int .i64 nt, .bool nm, .int .i64 nst, .int .i64 nmn, .int .i64 nmx, .int .i64 0, .int .i64 0, .int .i64 0, .int .i64 0, .int .i64 0, .int .i64 0, .int .i64 0, .int .i64 0] 82 (0, 0)) from hV5 ▸ heap_alloc_new _ _)
      have HB52 := Lib.hid (HBR.out.trans (HB5.out.mono HBR.out.size))
      rw [← hV5]
      clear hV5
      have HSZ := Lib.hid (show wr.heap.size < v4.heap.size by have := (Array.getElem?_eq_some_iff.1 P4.out).1; omega)
      have R0 := Lib.hid (blk_keep HB52.out F0.out)
      have R1 := Lib.hid (blk_keep HB52.out F1.out)
      have R2 := Lib.hid (blk_keep HB52.out F2.out)
      have R3 := Lib.hid (blk_keep HB52.out F3.out)
      have HSV := Lib.hid (show v4.heap.size ≤ V5.heap.size by have := (Array.getElem?_eq_some_iff.1 Q5.out).1; omega)
      have hrs := HBR.out.size
      have hvs := (Array.getElem?_eq_some_iff.1 F3.out).1
      have hvs2 := (Array.getElem?_eq_some_iff.1 F0.out).1
      have hsz := HSZ.out
      have HLT := Lib.hid (show w.heap.size < v4.heap.size ∧ v1.heap.size < v4.heap.size ∧ v1.heap.size + 1 < v4.heap.size by omega)
      clear hrs hvs hvs2 hsz
      have HK7 := Lib.hid (fun wx (hb : Below v4.heap.size V5 wx) => show wx.cell? ⟨w.heap.size, 1, none⟩ = some (.int .i64 n1) ∧ wx.cell? ⟨w.heap.size, 2, none⟩ = some (.int .i64 d1) ∧ wx.cell? ⟨wr.heap.size, 8, none⟩ = some (.int .i64 px) ∧ wx.cell? ⟨wr.heap.size, 9, none⟩ = some (.int .i64 py) ∧ wx.cell? ⟨v1.heap.size, 0, none⟩ = some (.int .i64 X1) ∧ wx.cell? ⟨v1.heap.size, 1, none⟩ = some (.int .i64 X2) ∧ wx.cell? ⟨v1.heap.size + 1, 0, none⟩ = some (.int .i64 Y1) ∧ wx.cell? ⟨v1.heap.size + 1, 1, none⟩ = some (.int .i64 Y2) from
        have r0 := blk_keepB hb R0.out HLT.out.1
        have r2 := blk_keepB hb R2.out HLT.out.2.1
        have r3 := blk_keepB hb R3.out HLT.out.2.2
        have p := blk_keepB hb P5.out HSZ.out
        ⟨cell_of_blk r0 1, cell_of_blk r0 2, cell_of_blk p 8, cell_of_blk p 9, cell_of_blk r2 0, cell_of_blk r2 1, cell_of_blk r3 0, cell_of_blk r3 1⟩)
      have HDR := Lib.hid (show Below V5.heap.size V5 V5.drew from (Below.refl _ _).drew)
      go_region_held3 (fun wx => wx.cell? ⟨w.heap.size, 1, none⟩ = some (.int .i64 n1) ∧ wx.cell? ⟨w.heap.size, 2, none⟩ = some (.int .i64 d1) ∧ wx.cell? ⟨wr.heap.size, 8, none⟩ = some (.int .i64 px) ∧ wx.cell? ⟨wr.heap.size, 9, none⟩ = some (.int .i64 py) ∧ wx.cell? ⟨v1.heap.size, 0, none⟩ = some (.int .i64 X1) ∧ wx.cell? ⟨v1.heap.size, 1, none⟩ = some (.int .i64 X2) ∧ wx.cell? ⟨v1.heap.size + 1, 0, none⟩ = some (.int .i64 Y1) ∧ wx.cell? ⟨v1.heap.size + 1, 1, none⟩ = some (.int .i64 Y2))
        ((refine HK7.out _ ?_; first | (refine Below.mono ?_ HSV.out; first | exact HDR.out | assumption) | exact kB.setCell (Nat.le_refl _) _ | exact (kB.setCell (Nat.le_refl _) _).setCell (Nat.le_refl _) _ | exact (((kB.setCell (Nat.le_refl _) _).setCell (Nat.le_refl _) _).setCell (Nat.le_refl _) _).setCell (Nat.le_refl _) _))
        (first
          | (go_at_call 110; ((with_reducible refine (HTI.out _ px hpx).mono ?_)); rintro e x1 ⟨rfl, hx1⟩; have kx1 := below_more HDR.out hx1)
          | (go_at_call 109; ((with_reducible refine (HPX.out _ px hpx).mono ?_)); rintro e x2 ⟨rfl, hx2⟩; have kx2 := below_more kx1 hx2)
          | (go_at_call 110; ((with_reducible refine (HTI.out _ py hpy).mono ?_)); rintro e x3 ⟨rfl, hx3⟩; have kx3 := below_more kx2 hx3)
          | (go_at_call 109; ((with_reducible refine (HPY.out _ py hpy).mono ?_)); rintro e x4 ⟨rfl, hx4⟩; have kx4 := below_more kx3 hx4; have kB : Below v4.heap.size V5 x4 := kx4.mono HSV.out; have kBt : Below v4.heap.size V5 ((x4.setCell ⟨v4.heap.size, 7, none⟩ (.int .i64 (PX px).num)).setCell ⟨v4.heap.size, 8, none⟩ (.int .i64 (PX px).den)) := (kB.setCell (Nat.le_refl _) _).setCell (Nat.le_refl _) _; have qk := blk_keep kx4 Q5.out; have q7 := cell_of_blk qk 7; have q8 := cell_of_blk qk 8; have q9 := cell_of_blk qk 9; have q10 := cell_of_blk qk 10; have f7 := free_of_blk qk 7; have f8 := free_of_blk qk 8; have f9 := free_of_blk qk 9; have f10 := free_of_blk qk 10; have hqs := (Array.getElem?_eq_some_iff.1 qk).1; simp at q7 q8 q9 q10; clear qk)
          | fail)
      have Q4 := Lib.hid (blk_keep kx4 Q5.out)
      have KB4 := Lib.hid kB
      clear q7 q8 q9 q10 f7 f8 f9 f10 hqs kBt kB hx1 hx2 hx3 hx4 kx1 kx2 kx3 kx4 HK7 HDR
      obtain ⟨V6, hV6⟩ : ∃ V6, V6 = ((((x4.setCell ⟨v4.heap.size, 7, none⟩ (.int .i64 (PX px).num)).setCell ⟨v4.heap.size, 8, none⟩ (.int .i64 (PX px).den)).setCell ⟨v4.heap.size, 9, none⟩ (.int .i64 (PY py).num)).setCell ⟨v4.heap.size, 10, none⟩ (.int .i64 (PY py).den)) := ⟨_, rfl⟩
      have HB6 := Lib.hid (show Below v4.heap.size V5 V6 from hV6 ▸ (((KB4.out.setCell (Nat.le_refl _) _).setCell (Nat.le_refl _) _).setCell (Nat.le_refl _) _).setCell (Nat.le_refl _) _)
      have Q6 := Lib.hid (show V6.heap[v4.heap.size]? = some (.cells #[.int .i64 nk, .int .i64 ns, .int .i64 nt, .bool nm, .int .i64 nst, .int .i64 nmn, .int .i64 nmx, .int .i64 (PX px).num, .int .i64 (PX px).den, .int .i64 (PY py).num, .int .i64 (PY py).den, .int .i64 0, .int .i64 0, .int .i64 0, .int .i64 0] 82 (0, 0)) by
        have h := heap_setCell_same _ v4.heap.size 10 (.int .i64 (PY py).den) _ _ (heap_setCell_same _ v4.heap.size 9 (.int .i64 (PY py).num) _ _ (heap_setCell_same _ v4.heap.size 8 (.int .i64 (PX px).den) _ _ (heap_setCell_same x4 v4.heap.size 7 (.int .i64 (PX px).num) _ _ Q4.out)))
        rw [hV6]; simpa using h)
      rw [← hV6]
      clear hV6 Q4 KB4 Q5
      have HSV6 := Lib.hid (show v4.heap.size ≤ V6.heap.size from by have := (Array.getElem?_eq_some_iff.1 Q6.out).1; omega)
      have T0 := Lib.hid (blk_keepB HB6.out R0.out HLT.out.1)
      have T1 := Lib.hid (blk_keepB HB6.out P5.out HSZ.out)
      have HK8 := Lib.hid (fun wx (hb : Below v4.heap.size V6 wx) => show wx.cell? ⟨w.heap.size, 1, none⟩ = some (.int .i64 n1) ∧ wx.cell? ⟨w.heap.size, 2, none⟩ = some (.int .i64 d1) ∧ wx.cell? ⟨wr.heap.size, 10, none⟩ = some (.int .i64 pw') ∧ wx.cell? ⟨wr.heap.size, 11, none⟩ = some (.int .i64 ph) from
        have r0 := blk_keepB hb T0.out HLT.out.1
        have p := blk_keepB hb T1.out HSZ.out
        ⟨cell_of_blk r0 1, cell_of_blk r0 2, cell_of_blk p 10, cell_of_blk p 11⟩)
      have HDR := Lib.hid (show Below V6.heap.size V6 V6.drew from (Below.refl _ _).drew)
      go_wp2_with fail
      go_region_held3 (fun wx => wx.cell? ⟨w.heap.size, 1, none⟩ = some (.int .i64 n1) ∧ wx.cell? ⟨w.heap.size, 2, none⟩ = some (.int .i64 d1) ∧ wx.cell? ⟨wr.heap.size, 10, none⟩ = some (.int .i64 pw') ∧ wx.cell? ⟨wr.heap.size, 11, none⟩ = some (.int .i64 ph))
        ((refine HK8.out _ ?_; first | (refine Below.mono ?_ HSV6.out; first | exact HDR.out | assumption) | exact kB.setCell (Nat.le_refl _) _ | exact (kB.setCell (Nat.le_refl _) _).setCell (Nat.le_refl _) _ | exact (((kB.setCell (Nat.le_refl _) _).setCell (Nat.le_refl _) _).setCell (Nat.le_refl _) _).setCell (Nat.le_refl _) _))
        (first
          | (go_at_call 110; ((with_reducible refine (HTI.out _ pw' hpw).mono ?_)); rintro e x5 ⟨rfl, hx5⟩; have kx5 := below_more HDR.out hx5)
          | (go_at_call 110; ((with_reducible refine (HTI.out _ ph hph).mono ?_)); rintro e x6 ⟨rfl, hx6⟩; have kx6 := below_more kx5 hx6; have kB : Below v4.heap.size V6 x6 := kx6.mono HSV6.out; have kBt : Below v4.heap.size V6 ((x6.setCell ⟨v4.heap.size, 11, none⟩ (.int .i64 (F pw').num)).setCell ⟨v4.heap.size, 12, none⟩ (.int .i64 (F pw').den)) := (kB.setCell (Nat.le_refl _) _).setCell (Nat.le_refl _) _; have qk := blk_keep kx6 Q6.out; have q7 := cell_of_blk qk 11; have q8 := cell_of_blk qk 12; have q9 := cell_of_blk qk 13; have q10 := cell_of_blk qk 14; have f7 := free_of_blk qk 11; have f8 := free_of_blk qk 12; have f9 := free_of_blk qk 13; have f10 := free_of_blk qk 14; have hqs := (Array.getElem?_eq_some_iff.1 qk).1; simp at q7 q8 q9 q10; clear qk)
          | fail)
      have Q4 := Lib.hid (blk_keep kx6 Q6.out)
      have KB4 := Lib.hid kB
      clear q7 q8 q9 q10 f7 f8 f9 f10 hqs kBt kB hx5 hx6 kx5 kx6 HK8 HDR
      obtain ⟨V7, hV7⟩ : ∃ V7, V7 = ((((x6.setCell ⟨v4.heap.size, 11, none⟩ (.int .i64 (F pw').num)).setCell ⟨v4.heap.size, 12, none⟩ (.int .i64 (F pw').den)).setCell ⟨v4.heap.size, 13, none⟩ (.int .i64 (F ph).num)).setCell ⟨v4.heap.size, 14, none⟩ (.int .i64 (F ph).den)) := ⟨_, rfl⟩
      have HB7 := Lib.hid (show Below v4.heap.size V6 V7 from hV7 ▸ (((KB4.out.setCell (Nat.le_refl _) _).setCell (Nat.le_refl _) _).setCell (Nat.le_refl _) _).setCell (Nat.le_refl _) _)
      have Q7 := Lib.hid (show V7.heap[v4.heap.size]? = some (.cells #[.int .i64 nk, .int .i64 ns, .int .i64 nt, .bool nm, .int .i64 nst, .int .i64 nmn, .int .i64 nmx, .int .i64 (PX px).num, .int .i64 (PX px).den, .int .i64 (PY py).num, .int .i64 (PY py).den, .int .i64 (F pw').num, .int .i64 (F pw').den, .int .i64 (F ph).num, .int .i64 (F ph).den] 82 (0, 0)) by
        have h := heap_setCell_same _ v4.heap.size 14 (.int .i64 (F ph).den) _ _ (heap_setCell_same _ v4.heap.size 13 (.int .i64 (F ph).num) _ _ (heap_setCell_same _ v4.heap.size 12 (.int .i64 (F pw').den) _ _ (heap_setCell_same x6 v4.heap.size 11 (.int .i64 (F pw').num) _ _ Q4.out)))
        rw [hV7]; simpa using h)
      rw [← hV7]
      clear hV7 Q4 KB4 Q6
      have HBT := Lib.hid (show Below wr.heap.size wr V7 from (HB5.out.trans (HB6.out.mono (Nat.le_of_lt HSZ.out))).trans (HB7.out.mono (Nat.le_of_lt HSZ.out)))
      have U1 := Lib.hid (blk_keepB HB7.out (blk_keepB HB6.out R1.out (by have := HLT.out; have := (Array.getElem?_eq_some_iff.1 F1.out).1; have := HBR.out.size; have := HSZ.out; omega)) (by have := HLT.out; have := (Array.getElem?_eq_some_iff.1 F1.out).1; have := HBR.out.size; have := HSZ.out; omega))
      have u1 := cell_of_blk U1.out 1
      have hu1 := (Array.getElem?_eq_some_iff.1 U1.out).1
      have b0 := cell_of_blk Q7.out 0
      have b1 := cell_of_blk Q7.out 1
      have b2 := cell_of_blk Q7.out 2
      have b3 := cell_of_blk Q7.out 3
      have b4 := cell_of_blk Q7.out 4
      have b5 := cell_of_blk Q7.out 5
      have b6 := cell_of_blk Q7.out 6
      have b7 := cell_of_blk Q7.out 7
      have b8 := cell_of_blk Q7.out 8
      have b9 := cell_of_blk Q7.out 9
      have b10 := cell_of_blk Q7.out 10
      have b11 := cell_of_blk Q7.out 11
      have b12 := cell_of_blk Q7.out 12
      have b13 := cell_of_blk Q7.out 13
      have b14 := cell_of_blk Q7.out 14
      have hb15 := (Array.getElem?_eq_some_iff.1 Q7.out).1
      simp at u1 b0 b1 b2 b3 b4 b5 b6 b7 b8 b9 b10 b11 b12 b13 b14
      have HOV := Lib.hid (ownsRow_of_block HOW.out (fun g hg => HBT.out.block g (HOW.out.lt g hg).2))
      obtain ⟨Av, cv, hv7, -, -, -, -⟩ := own_slice HOW.out
      subst hv7
      have HSS := Lib.hid (show V2.heap.size ≤ V7.heap.size from Nat.le_trans HBR.out.size HBT.out.size)
      have HNR := Lib.hid (new_row V7 [.int .i64 nk, .int .i64 ns, .int .i64 nt, .bool nm, .int .i64 nst, .int .i64 nmn, .int .i64 nmx, .int .i64 (PX px).num, .int .i64 (PX px).den, .int .i64 (PY py).num, .int .i64 (PY py).den, .int .i64 (F pw').num, .int .i64 (F pw').den, .int .i64 (F ph).num, .int .i64 (F ph).den] 82)
      have HN1 := Lib.hid (show ∀ u ∈ ([.int .i64 nk, .int .i64 ns, .int .i64 nt, .bool nm, .int .i64 nst, .int .i64 nmn, .int .i64 nmx, .int .i64 (PX px).num, .int .i64 (PX px).den, .int .i64 (PY py).num, .int .i64 (PY py).den, .int .i64 (F pw').num, .int .i64 (F pw').den, .int .i64 (F ph).num, .int .i64 (F ph).den] : List Value), u.oneCell' = true by rw [← HBP.out]; exact bx_one _)
      go_wp2_with (first
        | (at_builtin; refine wpList_append_src _ rfl (.tmp 60) (.tmp 62) 51 rfl V2.heap.size 82 iv (.agg #[.int .i64 0, .int .i64 0, .int .i64 0, .bool false, .int .i64 0, .int .i64 0, .int .i64 0, .int .i64 0, .int .i64 0, .int .i64 0, .int .i64 0, .int .i64 0, .int .i64 0, .int .i64 0, .int .i64 0]) 15 120 Tryz.underlying51 hiv.out hzv.out hsv.out hbv.out rfl (by decide) (.slice Av k cv) k ((M.take k).flatMap Bx.cells) rfl ?own2 (some ⟨V7.heap.size, 0, none⟩) 1 1 [.int .i64 nk, .int .i64 ns, .int .i64 nt, .bool nm, .int .i64 nst, .int .i64 nmn, .int .i64 nmx, .int .i64 (PX px).num, .int .i64 (PX px).den, .int .i64 (PY py).num, .int .i64 (PY py).den, .int .i64 (F pw').num, .int .i64 (F pw').den, .int .i64 (F ph).num, .int .i64 (F ph).den] rfl rfl ?n2 ?c2 ?o2 ?m2 ?b2 ?s2 (k + 1) rfl ?_))
      case own2 => exact HOV.out.alloc _
      case n2 => intro h; cases h
      case c2 => exact HNR.out
      case o2 => exact HN1.out
      case m2 => unfold maxLen; omega
      case b2 => omega
      case s2 => rw [World.size_alloc]; have := HSS.out; omega
      intro A9 c9 w9 own9 hg9 _
      have HB9 := Lib.hid (((HBR.out.trans (HBT.out.mono HBR.out.size)).alloc HSS.out _).grown hg9 (by rw [World.size_alloc]; have := HSS.out; omega) (fun g hg => (HOV.out.lt g hg).1))
      have HO9 := Lib.hid (show w9.ownsRow V2.heap.size 82 15 (.slice A9 (k + 1) c9) (k + 1) ((M.take (k + 1)).flatMap Bx.cells) by
        rw [HTK.out, List.flatMap_append, List.flatMap_singleton, HBP.out]; exact own9)
      clear own9 hg9 HNR HN1 b0 b1 b2 b3 b4 b5 b6 b7 b8 b9 b10 b11 b12 b13 b14 hb15 u1 hu1 HSS
      go_wp2_with fail
      go_roundw
      case rel => exact ⟨k + 1, by omega, by go_num, HO9, HB9⟩
      case measure => simp [intOf]; omega
    · obtain rfl : k = q := by omega
      have hT : M.take k = M := by rw [HQ.out, show L.length = M.length by rw [HMM.out, List.length_map], List.take_length]
      have h1 := HOW.out
      rw [hT] at h1
      obtain ⟨Av, cv, hv7, -, -, -, -⟩ := own_slice h1
      subst hv7
      have HOF := Lib.hid (own_base h1 HBV2.out.size)
      have HBF := Lib.hid (below_more HBV2.out HBR.out)
      clear h1 hT
      go_wp2_with fail
      go_ret
      exact ⟨Av, cv, rfl, HOF.out, HBF.out⟩
end Go.Proofs.YtmiokllpdmmfhaaGreat
