/-
  A group with its scale and its extent (newBlock), by the program. And what builds on it.
-/
import Derived.Test.YtmiokllpdmmfhaaGreatLaJ
import Derived.Test.YtmiokllpdmmfhaaGreatTail
import Derived.RegionTactic
import Derived.ChangeAlike
namespace Go.Proofs.YtmiokllpdmmfhaaGreat
open Go.RowKit
set_option maxRecDepth 100000 in
set_option maxHeartbeats 4000000 in
theorem turnI_any (cw mw : Bool) (a1 a2 b1 b2 pw qw : Nat) (a b : Int) (w : World) : Calls Tryz.prog 142 #[.agg #[.bool cw, .bool mw, .func (.func a1) #[] #[], .func (.func a2) #[] #[], .func (.func 172) #[] #[.pointer (some ⟨pw, 0, none⟩)], .func (.func b1) #[] #[], .func (.func b2) #[] #[], .func (.func 172) #[] #[.pointer (some ⟨qw, 0, none⟩)]], .int .i64 a, .int .i64 b] w
    fun e w' => e = .returned (.tuple #[.int .i64 (if cw then b else a), .int .i64 (if cw then a else b)]) ∧ Below w.heap.size w w' := by
  cases cw
  · go_enter Tryz.func142, Tryz.ntmps142
    go_wp2
    go_ret2
    exact ⟨rfl, below_alloc _ _⟩
  · go_enter Tryz.func142, Tryz.ntmps142
    go_wp2
    go_ret2
    exact ⟨rfl, below_alloc _ _⟩
def alR (cw : Bool) (s : Shp) : Int := if cw then s.size.2 else s.size.1
def acR (cw : Bool) (s : Shp) : Int := if cw then s.size.1 else s.size.2
def isRng : Shp → Bool
  | .rng .. => true
  | _ => false
def sclR (cw : Bool) (s : Shp) : Fr := fracR 48 (max 48 (if isRng s then acR cw s else max s.size.1 s.size.2))
structure Bl where
  s : Shp
  sc : Fr
  al : Fr
  ac : Fr
  ln : Int
  st : Int
def newBl (cw : Bool) (s : Shp) : Bl := ⟨s, sclR cw s, fracR ((sclR cw s).num * alR cw s) (sclR cw s).den, fracR ((sclR cw s).num * acR cw s) (sclR cw s).den, 0, 0⟩
theorem fracR_bd {n d : Int} (hn : 0 ≤ n) (hd : 0 < d) : (0 ≤ (fracR n d).num ∧ (fracR n d).num ≤ n) ∧ 1 ≤ (fracR n d).den ∧ (fracR n d).den ≤ d := by
  have hg := gcdR_pos (n := n) hd
  have hdv : ((gcdR n d : Nat) : Int) ∣ d := by
    unfold gcdR
    exact Int.ofNat_dvd_left.2 (Nat.gcd_dvd_right _ _)
  have e1 : (fracR n d).num = n / ((gcdR n d : Nat) : Int) := by show n.tdiv _ = _; exact Int.tdiv_eq_ediv_of_nonneg hn
  have e2 : (fracR n d).den = d / ((gcdR n d : Nat) : Int) := by show d.tdiv _ = _; exact Int.tdiv_eq_ediv_of_nonneg (by omega)
  rw [e1, e2]
  obtain ⟨g, hgg⟩ : ∃ g : Int, g = ((gcdR n d : Nat) : Int) := ⟨_, rfl⟩
  have hg0 : 0 < g := by omega
  rw [← hgg] at hdv ⊢
  clear e1 e2 hgg hg
  obtain ⟨k, hk⟩ := hdv
  subst hk
  rw [Int.mul_ediv_cancel_left k (by omega)]
  have hk0 : 0 < k := by
    rcases Int.lt_or_le 0 k with h | h
    · exact h
    · have := Int.mul_le_mul_of_nonneg_left h (show 0 ≤ g by omega)
      rw [Int.mul_zero] at this; omega
  have hk1 : k ≤ g * k := by
    have := Int.mul_le_mul_of_nonneg_right (show 1 ≤ g by omega) (show 0 ≤ k by omega)
    rw [Int.one_mul] at this; exact this
  exact ⟨⟨Int.ediv_nonneg hn (by omega), Int.ediv_le_self _ hn⟩, by omega, hk1⟩
set_option maxRecDepth 100000 in
theorem no_ring (s : Shp) (hrg : isRng s = false) (arg : Value) (w : World) : (Instr.typeAssert (.iface (tyOf s) arg) 111 212 true).run Tryz.prog w = .ok (.tuple #[.agg #[.int .i64 0, .int .i64 0, .int .i64 0, .int .i64 0, .bool false, .int .i64 0, .int .i64 0, .int .i64 0, .nilIface], .bool false]) w := by
  cases s
  case rng => cases hrg
  all_goals kernel_rfl
set_option maxRecDepth 100000 in
set_option maxHeartbeats 16000000 in
theorem newBlock_any (cw mw : Bool) (a1 a2 b1 b2 pw qw : Nat) (s : Shp) (hrg : isRng s = false) (hO : SzOk s) (hB : szB s) (w : World) (arg : Value) (hv : ShV w s (.iface (tyOf s) arg)) :
    Calls Tryz.prog 98 #[.iface (tyOf s) arg, .agg #[.bool cw, .bool mw, .func (.func a1) #[] #[], .func (.func a2) #[] #[], .func (.func 172) #[] #[.pointer (some ⟨pw, 0, none⟩)], .func (.func b1) #[] #[], .func (.func b2) #[] #[], .func (.func 172) #[] #[.pointer (some ⟨qw, 0, none⟩)]]] w
      fun e w' => e = .returned (.agg #[.iface (tyOf s) arg, .int .i64 (newBl cw s).sc.num, .int .i64 (newBl cw s).sc.den, .int .i64 (newBl cw s).al.num, .int .i64 (newBl cw s).al.den, .int .i64 (newBl cw s).ac.num, .int .i64 (newBl cw s).ac.den, .int .i64 0, .int .i64 0]) ∧ Below w.heap.size w w' := by
  obtain ⟨⟨p1, p2⟩, hp⟩ : ∃ p, p = s.size := ⟨_, rfl⟩
  obtain ⟨al, hal⟩ : ∃ v, v = alR cw s := ⟨_, rfl⟩
  obtain ⟨ac, hac⟩ : ∃ v, v = acR cw s := ⟨_, rfl⟩
  obtain ⟨lg, hlg⟩ : ∃ v, v = max 48 (if isRng s then acR cw s else max s.size.1 s.size.2) := ⟨_, rfl⟩
  unfold szB at hB
  have halb : 0 ≤ al ∧ al ≤ 1000000 := by rw [hal]; unfold alR; split <;> omega
  have hacb : 0 ≤ ac ∧ ac ≤ 1000000 := by rw [hac]; unfold acR; split <;> omega
  have hlgb : 48 ≤ lg ∧ lg ≤ 1000000 := by rw [hlg, ← hac]; split <;> omega
  have HC := Lib.hid (fun wx (hbx : Below w.heap.size w wx) => show Calls Tryz.prog (szFn s) #[arg] wx (fun e w' => e = .returned (.tuple #[.int .i64 p1, .int .i64 p2]) ∧ Below wx.heap.size wx w') by
    have := hO wx arg (ShV.below hbx s _ hv)
    unfold GotSz at this
    rw [← hp] at this; exact this)
  have HT := Lib.hid (fun wx => show Calls Tryz.prog 142 #[.agg #[.bool cw, .bool mw, .func (.func a1) #[] #[], .func (.func a2) #[] #[], .func (.func 172) #[] #[.pointer (some ⟨pw, 0, none⟩)], .func (.func b1) #[] #[], .func (.func b2) #[] #[], .func (.func 172) #[] #[.pointer (some ⟨qw, 0, none⟩)]], .int .i64 p1, .int .i64 p2] wx (fun e w' => e = .returned (.tuple #[.int .i64 al, .int .i64 ac]) ∧ Below wx.heap.size wx w') by
    have := turnI_any cw mw a1 a2 b1 b2 pw qw p1 p2 wx
    rw [hal, hac]; unfold alR acR; rw [← hp]; exact this)
  have HF := Lib.hid (fun wx => fraction_any 48 lg wx (by omega) (by omega))
  obtain ⟨⟨sn, sd⟩, hsc⟩ : ∃ f, f = fracR 48 lg := ⟨_, rfl⟩
  have hsb := fracR_bd (n := 48) (d := lg) (by omega) (by omega)
  rw [← hsc] at hsb HF
  dsimp only at hsb HF
  obtain ⟨F, hF⟩ : ∃ F : Int → Fr, F = fun k => fracR (sn * k) sd := ⟨_, rfl⟩
  have HM := Lib.hid (fun wx k (hk : 0 ≤ k ∧ k ≤ 1000000) => show Calls Tryz.prog 110 #[.agg #[.int .i64 sn, .int .i64 sd], .int .i64 k] wx (fun e w' => e = .returned (.agg #[.int .i64 (F k).num, .int .i64 (F k).den]) ∧ Below wx.heap.size wx w') by
    have a := Int.mul_nonneg hsb.1.1 hk.1
    have b := Int.mul_le_mul hsb.1.2 hk.2 hk.1 (by omega)
    have := times_any sn sd k wx (by unfold smallI; omega) (by omega)
    rw [hF]; exact this)
  have HR := Lib.hid (show (newBl cw s).sc = ⟨sn, sd⟩ ∧ (newBl cw s).al = F al ∧ (newBl cw s).ac = F ac by
    have e : sclR cw s = ⟨sn, sd⟩ := by unfold sclR; rw [← hlg, ← hsc]
    unfold newBl; rw [e, ← hal, ← hac, hF]; exact ⟨rfl, rfl, rfl⟩)
  rw [HR.out.1, HR.out.2.1, HR.out.2.2]
  have HLG := Lib.hid (show lg = max 48 (if isRng s then ac else max p1 p2) by rw [hlg, hac, ← hp])
  obtain ⟨W, hW⟩ : ∃ W, W = (w.alloc (.cells #[.bool cw, .bool mw, .func (.func a1) #[] #[], .func (.func a2) #[] #[], .func (.func 172) #[] #[.pointer (some ⟨pw, 0, none⟩)], .func (.func b1) #[] #[], .func (.func b2) #[] #[], .func (.func 172) #[] #[.pointer (some ⟨qw, 0, none⟩)]] 102)).alloc (.cells #[.nilIface, .int .i64 0, .int .i64 0, .int .i64 0, .int .i64 0, .int .i64 0, .int .i64 0, .int .i64 0, .int .i64 0] 123) := ⟨_, rfl⟩
  have HBW := Lib.hid (show Below w.heap.size w W from hW ▸ two_under _ _ _)
  have D0 := Lib.hid (show W.heap[w.heap.size]? = some (.cells #[.bool cw, .bool mw, .func (.func a1) #[] #[], .func (.func a2) #[] #[], .func (.func 172) #[] #[.pointer (some ⟨pw, 0, none⟩)], .func (.func b1) #[] #[], .func (.func b2) #[] #[], .func (.func 172) #[] #[.pointer (some ⟨qw, 0, none⟩)]] 102 (0, 0)) by rw [hW, heap_alloc_other _ _ _ (by simp)]; exact heap_alloc_new _ _)
  have D1 := Lib.hid (show W.heap[w.heap.size + 1]? = some (.cells #[.nilIface, .int .i64 0, .int .i64 0, .int .i64 0, .int .i64 0, .int .i64 0, .int .i64 0, .int .i64 0, .int .i64 0] 123 (0, 0)) by rw [hW]; have := heap_alloc_new (w.alloc (.cells #[.bool cw, .bool mw, .func (.func a1) #[] #[], .func (.func a2) #[] #[], .func (.func 172) #[] #[.pointer (some ⟨pw, 0, none⟩)], .func (.func b1) #[] #[], .func (.func b2) #[] #[], .func (.func 172) #[] #[.pointer (some ⟨qw, 0, none⟩)]] 102)) (.cells #[.nilIface, .int .i64 0, .int .i64 0, .int .i64 0, .int .i64 0, .int .i64 0, .int .i64 0, .int .i64 0, .int .i64 0] 123); simpa using this)
  clear hO hB hv hp hal hac hlg hsc hsb HR hF
  have HRA := fun wx => no_ring s hrg arg wx
  cases s
  case rng => cases hrg
  all_goals (
    simp only [tyOf, szFn, isRng, Bool.false_eq_true, if_false] at HC HLG HRA ⊢
    go_enter Tryz.func98, Tryz.ntmps98
    go_wp2_with fail
    rw [← hW]
    clear hW
    refine (HC.out _ HBW.out).mono ?_; rintro e w1 ⟨rfl, hb1⟩
    have HB1 := Lib.hid (below_more HBW.out hb1)
    have E0 := Lib.hid (blk_keep hb1 D0.out)
    have E1 := Lib.hid (blk_keep hb1 D1.out)
    clear hb1
    have q0 := cell_of_blk E0.out 0
    have q1 := cell_of_blk E0.out 1
    have q2 := cell_of_blk E0.out 2
    have q3 := cell_of_blk E0.out 3
    have q4 := cell_of_blk E0.out 4
    have q5 := cell_of_blk E0.out 5
    have q6 := cell_of_blk E0.out 6
    have q7 := cell_of_blk E0.out 7
    have hq := (Array.getElem?_eq_some_iff.1 E0.out).1
    simp at q0 q1 q2 q3 q4 q5 q6 q7
    go_wp2_with fail
    refine (HT.out _).mono ?_; rintro e w2 ⟨rfl, hb2⟩
    have HB2 := Lib.hid (below_more HB1.out hb2)
    have F1 := Lib.hid (blk_keep hb2 E1.out)
    clear hb2 q0 q1 q2 q3 q4 q5 q6 q7 hq
    go_wp2_with fail
    rw [← HLG.out]
    refine (HF.out _).mono ?_; rintro e w4 ⟨rfl, hb4⟩
    have HB4 := Lib.hid (below_more (HB2.out.alloc HB2.out.size _) hb4)
    have G1 := Lib.hid (blk_keep (below_more (below_alloc w2 _) hb4) F1.out)
    clear hb4
    go_wp2_with fail
    obtain ⟨V, hV⟩ : ∃ V, V = w4.alloc (.cells #[.int .i64 sn, .int .i64 sd] 40) := ⟨_, rfl⟩
    have HBV := Lib.hid (show Below w.heap.size w V from hV ▸ HB4.out.alloc HB4.out.size _)
    have V1 := Lib.hid (show V.heap[w.heap.size + 1]? = some (.cells #[.nilIface, .int .i64 0, .int .i64 0, .int .i64 0, .int .i64 0, .int .i64 0, .int .i64 0, .int .i64 0, .int .i64 0] 123 (0, 0)) from blk_keep (hV ▸ below_alloc w4 _) G1.out)
    have V2 := Lib.hid (show V.heap[w4.heap.size]? = some (.cells #[.int .i64 sn, .int .i64 sd] 40 (0, 0)) from hV ▸ heap_alloc_new _ _)
    rw [← hV]
    clear hV
    have y0 := cell_of_blk V2.out 0
    have y1 := cell_of_blk V2.out 1
    have hy := (Array.getElem?_eq_some_iff.1 V2.out).1
    simp at y0 y1
    refine wp_region_later_tail 8 (by kernel_rfl) (by kernel_rfl) ?_; simp only [List.take_succ_cons, List.take_zero, List.drop_succ_cons, List.drop_zero]; (repeat (first | go_big_quiet_step (((go_at_call 110; exact Calls.later _ (HM.out _ _ (by assumption))))) | quiet_step (((go_at_call 110; exact Calls.later _ (HM.out _ _ (by assumption))))))); refine wpQuiet_nil ?_; rintro _ ⟨s, rfl⟩
    have HBS := Lib.hid (below_more HBV.out s.below)
    have K1 := Lib.hid (blk_keep s.below V1.out)
    obtain ⟨X, hX⟩ : ∃ X, X = s.w := ⟨_, rfl⟩
    rw [← hX] at HBS K1 ⊢
    clear hX s y0 y1 hy
    have q0 := cell_of_blk K1.out 0
    have f0 := free_of_blk K1.out 0
    have q1 := cell_of_blk K1.out 1
    have f1 := free_of_blk K1.out 1
    have q2 := cell_of_blk K1.out 2
    have f2 := free_of_blk K1.out 2
    have q3 := cell_of_blk K1.out 3
    have f3 := free_of_blk K1.out 3
    have q4 := cell_of_blk K1.out 4
    have f4 := free_of_blk K1.out 4
    have q5 := cell_of_blk K1.out 5
    have f5 := free_of_blk K1.out 5
    have q6 := cell_of_blk K1.out 6
    have f6 := free_of_blk K1.out 6
    have q7 := cell_of_blk K1.out 7
    have f7 := free_of_blk K1.out 7
    have q8 := cell_of_blk K1.out 8
    have f8 := free_of_blk K1.out 8
    have hs := (Array.getElem?_eq_some_iff.1 K1.out).1
    simp at q0 q1 q2 q3 q4 q5 q6 q7 q8
    go_wp2_with fail
    refine bodyPost_ret (v := .agg #[.iface _ arg, .int .i64 sn, .int .i64 sd, .int .i64 (F al).num, .int .i64 (F al).den, .int .i64 (F ac).num, .int .i64 (F ac).den, .int .i64 0, .int .i64 0]) (by simp [results, Tryz.results98, go_sem, q0, q1, q2, q3, q4, q5, q6, q7, q8]) rfl ⟨rfl, ?_⟩
    clear q0 q1 q2 q3 q4 q5 q6 q7 q8 f0 f1 f2 f3 f4 f5 f6 f7 f8
    iterate 9 (refine Below.setCell ?_ (by dsimp only; omega) _)
    exact HBS.out)
open Go.RowKit
def endR (b : Bl) (st : Int) : Fr := fracR (st * b.al.den + b.al.num * 1) (1 * b.al.den)
set_option maxRecDepth 100000 in
set_option maxHeartbeats 8000000 in
theorem endFrom_any (T : TypeId) (arg : Value) (n1 d1 n2 d2 n3 d3 ln sb st : Int) (w : World) (h1 : 0 ≤ n2 ∧ n2 ≤ 100000000) (h2 : 1 ≤ d2 ∧ d2 ≤ 10000000) (h3 : 0 ≤ st ∧ st ≤ 1000000000) :
    Calls Tryz.prog 100 #[.agg #[.iface T arg, .int .i64 n1, .int .i64 d1, .int .i64 n2, .int .i64 d2, .int .i64 n3, .int .i64 d3, .int .i64 ln, .int .i64 sb], .int .i64 st] w
      fun e w' => e = .returned (.agg #[.int .i64 (fracR (st * d2 + n2 * 1) (1 * d2)).num, .int .i64 (fracR (st * d2 + n2 * 1) (1 * d2)).den]) ∧ Below w.heap.size w w' := by
  have HWH := Lib.hid (fun wx => whole_any st wx)
  have a := Int.mul_nonneg h3.1 (show 0 ≤ d2 by omega)
  have b := Int.mul_le_mul h3.2 h2.2 (by omega) (by omega)
  have HP := Lib.hid (fun wx => plus_any st 1 n2 d2 wx (by unfold smallI; omega) (by unfold smallI; omega) (by unfold smallI; omega) (by omega) (by unfold smallI; omega))
  unfold GotFr at HWH HP
  dsimp only at HWH
  obtain ⟨F, hF⟩ : ∃ F, F = fracR (st * d2 + n2 * 1) (1 * d2) := ⟨_, rfl⟩
  rw [← hF] at HP ⊢
  clear hF a b h1 h2 h3
  obtain ⟨W, hW⟩ : ∃ W, W = (w.alloc (.cells #[.iface T arg, .int .i64 n1, .int .i64 d1, .int .i64 n2, .int .i64 d2, .int .i64 n3, .int .i64 d3, .int .i64 ln, .int .i64 sb] 123)).alloc (.cells #[.int .i64 0, .int .i64 0] 40) := ⟨_, rfl⟩
  have HB := Lib.hid (show Below w.heap.size w W from hW ▸ two_under _ _ _)
  have D0 := Lib.hid (show W.heap[w.heap.size]? = some (.cells #[.iface T arg, .int .i64 n1, .int .i64 d1, .int .i64 n2, .int .i64 d2, .int .i64 n3, .int .i64 d3, .int .i64 ln, .int .i64 sb] 123 (0, 0)) by rw [hW, heap_alloc_other _ _ _ (by simp)]; exact heap_alloc_new _ _)
  have D1 := Lib.hid (show W.heap[w.heap.size + 1]? = some (.cells #[.int .i64 0, .int .i64 0] 40 (0, 0)) by rw [hW]; have := heap_alloc_new (w.alloc (.cells #[.iface T arg, .int .i64 n1, .int .i64 d1, .int .i64 n2, .int .i64 d2, .int .i64 n3, .int .i64 d3, .int .i64 ln, .int .i64 sb] 123)) (.cells #[.int .i64 0, .int .i64 0] 40); simpa using this)
  have x3 := cell_of_blk D0.out 3
  have x4 := cell_of_blk D0.out 4
  have hx := (Array.getElem?_eq_some_iff.1 D0.out).1
  simp at x3 x4
  go_enter Tryz.func100, Tryz.ntmps100
  go_wp2_with fail
  rw [← hW]
  clear hW
  refine wp_region_later_tail 5 (by kernel_rfl) (by kernel_rfl) ?_; simp only [List.take_succ_cons, List.take_zero, List.drop_succ_cons, List.drop_zero]; (repeat (first | go_big_quiet_step ((first | ((go_at_call 101; exact Calls.later _ (HWH.out _))) | ((go_at_call 109; exact Calls.later _ (HP.out _))))) | quiet_step ((first | ((go_at_call 101; exact Calls.later _ (HWH.out _))) | ((go_at_call 109; exact Calls.later _ (HP.out _))))))); refine wpQuiet_nil ?_; rintro _ ⟨s, rfl⟩
  have HBS := Lib.hid (below_more HB.out s.below)
  have K1 := Lib.hid (blk_keep s.below D1.out)
  obtain ⟨X, hX⟩ : ∃ X, X = s.w := ⟨_, rfl⟩
  rw [← hX] at HBS K1 ⊢
  clear hX s x3 x4 hx
  have q0 := cell_of_blk K1.out 0
  have q1 := cell_of_blk K1.out 1
  have f0 := free_of_blk K1.out 0
  have f1 := free_of_blk K1.out 1
  have hs := (Array.getElem?_eq_some_iff.1 K1.out).1
  simp at q0 q1
  go_wp2_with fail
  refine bodyPost_ret (v := .agg #[.int .i64 F.num, .int .i64 F.den]) (by simp [results, Tryz.results100, go_sem, q0, q1]) rfl ⟨rfl, ?_⟩
  exact (HBS.out.setCell (by dsimp only; omega) _).setCell (by dsimp only; omega) _
set_option maxRecDepth 100000 in
set_option maxHeartbeats 8000000 in
theorem turnF_any (mw : Bool) (a1 a2 b1 b2 pw qw : Nat) (cw : Bool) (n d p q : Int) (w : World) : Calls Tryz.prog 146 #[.agg #[.bool cw, .bool mw, .func (.func a1) #[] #[], .func (.func a2) #[] #[], .func (.func 172) #[] #[.pointer (some ⟨pw, 0, none⟩)], .func (.func b1) #[] #[], .func (.func b2) #[] #[], .func (.func 172) #[] #[.pointer (some ⟨qw, 0, none⟩)]], .agg #[.int .i64 n, .int .i64 d], .agg #[.int .i64 p, .int .i64 q]] w
    fun e w' => e = .returned (.tuple #[.agg #[.int .i64 (if cw then p else n), .int .i64 (if cw then q else d)], .agg #[.int .i64 (if cw then n else p), .int .i64 (if cw then d else q)]]) ∧ Below w.heap.size w w' := by
  obtain ⟨W1, hW1⟩ : ∃ W1, W1 = w.alloc (.cells #[.bool cw, .bool mw, .func (.func a1) #[] #[], .func (.func a2) #[] #[], .func (.func 172) #[] #[.pointer (some ⟨pw, 0, none⟩)], .func (.func b1) #[] #[], .func (.func b2) #[] #[], .func (.func 172) #[] #[.pointer (some ⟨qw, 0, none⟩)]] 102) := ⟨_, rfl⟩
  obtain ⟨W2, hW2⟩ : ∃ W2, W2 = W1.alloc (.cells #[.int .i64 n, .int .i64 d] 40) := ⟨_, rfl⟩
  obtain ⟨W3, hW3⟩ : ∃ W3, W3 = W2.alloc (.cells #[.int .i64 p, .int .i64 q] 40) := ⟨_, rfl⟩
  obtain ⟨W4, hW4⟩ : ∃ W4, W4 = W3.alloc (.cells #[.int .i64 0, .int .i64 0] 40) := ⟨_, rfl⟩
  obtain ⟨W, hW⟩ : ∃ W, W = W4.alloc (.cells #[.int .i64 0, .int .i64 0] 40) := ⟨_, rfl⟩
  have s1 : W1.heap.size = w.heap.size + 1 := by rw [hW1]; simp
  have s2 : W2.heap.size = w.heap.size + 1 + 1 := by rw [hW2]; simp [s1]
  have s3 : W3.heap.size = w.heap.size + 1 + 1 + 1 := by rw [hW3]; simp [s2]
  have s4 : W4.heap.size = w.heap.size + 1 + 1 + 1 + 1 := by rw [hW4]; simp [s3]
  have s5 : W.heap.size = w.heap.size + 1 + 1 + 1 + 1 + 1 := by rw [hW]; simp [s4]
  have k1 : Below w.heap.size w W1 := hW1 ▸ below_alloc _ _
  have k2 : Below W1.heap.size W1 W2 := hW2 ▸ below_alloc _ _
  have k3 : Below W2.heap.size W2 W3 := hW3 ▸ below_alloc _ _
  have k4 : Below W3.heap.size W3 W4 := hW4 ▸ below_alloc _ _
  have k5 : Below W4.heap.size W4 W := hW ▸ below_alloc _ _
  have HB := Lib.hid (below_more (below_more (below_more (below_more k1 k2) k3) k4) k5)
  have D0 := Lib.hid (blk_keep k5 (blk_keep k4 (blk_keep k3 (blk_keep k2 (show W1.heap[w.heap.size]? = some (.cells #[.bool cw, .bool mw, .func (.func a1) #[] #[], .func (.func a2) #[] #[], .func (.func 172) #[] #[.pointer (some ⟨pw, 0, none⟩)], .func (.func b1) #[] #[], .func (.func b2) #[] #[], .func (.func 172) #[] #[.pointer (some ⟨qw, 0, none⟩)]] 102 (0, 0)) by rw [hW1]; exact heap_alloc_new _ _)))))
  have D1 := Lib.hid (blk_keep k5 (blk_keep k4 (blk_keep k3 (show W2.heap[w.heap.size + 1]? = some (.cells #[.int .i64 n, .int .i64 d] 40 (0, 0)) by rw [hW2, ← s1]; exact heap_alloc_new _ _))))
  have D2 := Lib.hid (blk_keep k5 (blk_keep k4 (show W3.heap[w.heap.size + 1 + 1]? = some (.cells #[.int .i64 p, .int .i64 q] 40 (0, 0)) by rw [hW3, ← s2]; exact heap_alloc_new _ _)))
  have D3 := Lib.hid (blk_keep k5 (show W4.heap[w.heap.size + 1 + 1 + 1]? = some (.cells #[.int .i64 0, .int .i64 0] 40 (0, 0)) by rw [hW4, ← s3]; exact heap_alloc_new _ _))
  have D4 := Lib.hid (show W.heap[w.heap.size + 1 + 1 + 1 + 1]? = some (.cells #[.int .i64 0, .int .i64 0] 40 (0, 0)) by rw [hW, ← s4]; exact heap_alloc_new _ _)
  clear s1 s2 s3 s4 k1 k2 k3 k4 k5
  have x0 := cell_of_blk D0.out 0
  have y0 := cell_of_blk D1.out 0
  have y1 := cell_of_blk D1.out 1
  have z0 := cell_of_blk D2.out 0
  have z1 := cell_of_blk D2.out 1
  have hz0 : w.heap.size < W.heap.size := by omega
  have hz1 : w.heap.size + 1 < W.heap.size := by omega
  have hz2 : w.heap.size + 1 + 1 < W.heap.size := by omega
  simp at x0 y0 y1 z0 z1
  clear s5
  cases cw
  all_goals (
    go_enter Tryz.func146, Tryz.ntmps146
    go_wp2_with fail
    rw [← hW1, ← hW2, ← hW3, ← hW4, ← hW]
    clear hW1 hW2 hW3 hW4 hW
    go_wp2_with fail
    have q0 := cell_of_blk D3.out 0
    have q1 := cell_of_blk D3.out 1
    have f0 := free_of_blk D3.out 0
    have f1 := free_of_blk D3.out 1
    have p0 := cell_of_blk D4.out 0
    have p1 := cell_of_blk D4.out 1
    have g0 := free_of_blk D4.out 0
    have g1 := free_of_blk D4.out 1
    have hs := (Array.getElem?_eq_some_iff.1 D3.out).1
    have hs4 := (Array.getElem?_eq_some_iff.1 D4.out).1
    simp at q0 q1 p0 p1
    go_region
    all_goals (
      go_wp2_with fail
      first
      | exact bodyPost_ret (v := .tuple #[.agg #[.int .i64 n, .int .i64 d], .agg #[.int .i64 p, .int .i64 q]]) (by simp [results, Tryz.results146, go_sem, q0, q1, p0, p1]) rfl ⟨rfl, ((((HB.out.setCell (by dsimp only; omega) _).setCell (by dsimp only; omega) _).setCell (by dsimp only; omega) _).setCell (by dsimp only; omega) _).drew⟩
      | exact bodyPost_ret (v := .tuple #[.agg #[.int .i64 p, .int .i64 q], .agg #[.int .i64 n, .int .i64 d]]) (by simp [results, Tryz.results146, go_sem, q0, q1, p0, p1]) rfl ⟨rfl, ((((HB.out.setCell (by dsimp only; omega) _).setCell (by dsimp only; omega) _).setCell (by dsimp only; omega) _).setCell (by dsimp only; omega) _).drew⟩
      | fail))
open Go.RowKit
theorem fracR_den {n d : Int} (hd : 0 < d) : 1 ≤ (fracR n d).den ∧ (fracR n d).den ≤ d := by
  rcases Int.le_total 0 n with h | h
  · exact (fracR_bd h hd).2
  · have e : gcdR n d = gcdR (-n) d := by unfold gcdR; rw [Int.natAbs_neg]
    have : (fracR n d).den = (fracR (-n) d).den := by show d.tdiv _ = d.tdiv _; rw [e]
    rw [this]
    exact (fracR_bd (by omega) hd).2
theorem fracR_num {n d B : Int} (hd : 0 < d) (hn : -B ≤ n ∧ n ≤ B) : -B ≤ (fracR n d).num ∧ (fracR n d).num ≤ B := tdiv_bd (gcdR_pos hd) hn
def marR (n3 d3 : Int) : Fr := fracR (fracR (48 * d3 + -n3 * 1) (1 * d3)).num ((fracR (48 * d3 + -n3 * 1) (1 * d3)).den * 2)
def croR (n3 d3 ln : Int) : Fr := fracR (72 * ln * (marR n3 d3).den + (marR n3 d3).num * 1) (1 * (marR n3 d3).den)
theorem marR_bd {n3 d3 : Int} (h1 : 0 ≤ n3 ∧ n3 ≤ 100000000) (h2 : 1 ≤ d3 ∧ d3 ≤ 10000000) : (-1000000000 ≤ (marR n3 d3).num ∧ (marR n3 d3).num ≤ 1000000000) ∧ 1 ≤ (marR n3 d3).den ∧ (marR n3 d3).den ≤ 20000000 := by
  have a := fracR_num (n := 48 * d3 + -n3 * 1) (d := 1 * d3) (B := 1000000000) (by omega) (by omega)
  have b := fracR_den (n := 48 * d3 + -n3 * 1) (d := 1 * d3) (by omega)
  unfold marR
  have c := fracR_num (n := (fracR (48 * d3 + -n3 * 1) (1 * d3)).num) (d := (fracR (48 * d3 + -n3 * 1) (1 * d3)).den * 2) (B := 1000000000) (by omega) a
  have d := fracR_den (n := (fracR (48 * d3 + -n3 * 1) (1 * d3)).num) (d := (fracR (48 * d3 + -n3 * 1) (1 * d3)).den * 2) (by omega)
  exact ⟨c, d.1, by omega⟩
theorem un_drew {B : Nat} {w w' : World} (h : Below B w.drew w') : Below B w w' := ⟨h.1, h.2, h.3, h.4, h.5⟩
def BoxIn (W wx : World) (g : Nat) (x y : Int) : Prop := wx.heap[g]? = some (.cells #[.int .i64 x, .int .i64 y] 40 (0, 0)) ∧ Below W.heap.size W wx ∧ W.heap.size ≤ g
theorem box_set {W w0 w1 : World} {x y : Int} (h0 : Below W.heap.size W w0) (h1 : Below (w0.alloc (.cells #[.int .i64 0, .int .i64 0] 40)).heap.size (w0.alloc (.cells #[.int .i64 0, .int .i64 0] 40)) w1) :
    BoxIn W ((w1.setCell ⟨w0.heap.size, 0, none⟩ (.int .i64 x)).setCell ⟨w0.heap.size, 1, none⟩ (.int .i64 y)) w0.heap.size x y := by
  have k := blk_keep h1 (heap_alloc_new w0 _)
  refine ⟨?_, ((below_more (h0.alloc h0.size _) h1).setCell h0.size _).setCell h0.size _, h0.size⟩
  have a := heap_setCell_same w1 w0.heap.size 0 (.int .i64 x) _ _ k
  have b := heap_setCell_same _ w0.heap.size 1 (.int .i64 y) _ _ a
  simpa using b
theorem box_new {W w1 : World} {x y : Int} (h0 : Below W.heap.size W w1) : BoxIn W (w1.alloc (.cells #[.int .i64 x, .int .i64 y] 40)) w1.heap.size x y :=
  ⟨heap_alloc_new _ _, h0.alloc h0.size _, h0.size⟩
set_option maxRecDepth 100000 in
set_option maxHeartbeats 8000000 in
theorem corner_any (cw mw : Bool) (a1 a2 b1 b2 pw qw : Nat) (T : TypeId) (arg : Value) (n1 d1 n2 d2 n3 d3 ln st : Int) (w : World) (h1 : 0 ≤ n3 ∧ n3 ≤ 100000000) (h2 : 1 ≤ d3 ∧ d3 ≤ 10000000) (h3 : 0 ≤ ln ∧ ln ≤ 100000) :
    Calls Tryz.prog 107 #[.agg #[.iface T arg, .int .i64 n1, .int .i64 d1, .int .i64 n2, .int .i64 d2, .int .i64 n3, .int .i64 d3, .int .i64 ln, .int .i64 st], .agg #[.bool cw, .bool mw, .func (.func a1) #[] #[], .func (.func a2) #[] #[], .func (.func 172) #[] #[.pointer (some ⟨pw, 0, none⟩)], .func (.func b1) #[] #[], .func (.func b2) #[] #[], .func (.func 172) #[] #[.pointer (some ⟨qw, 0, none⟩)]]] w
      fun e w' => e = .returned (.tuple #[.agg #[.int .i64 (if cw then (croR n3 d3 ln).num else st), .int .i64 (if cw then (croR n3 d3 ln).den else 1)], .agg #[.int .i64 (if cw then st else (croR n3 d3 ln).num), .int .i64 (if cw then 1 else (croR n3 d3 ln).den)]]) ∧ Below w.heap.size w w' := by
  have HWH := Lib.hid (fun wx k => whole_any k wx)
  have HMI := Lib.hid (fun wx => minus_any 48 1 n3 d3 wx (by unfold smallI; omega) (by unfold smallI; omega) (by unfold smallI; omega) (by unfold smallI; omega) (by omega) (by unfold smallI; omega))
  obtain ⟨⟨m1, m2⟩, hm⟩ : ∃ m, m = fracR (48 * d3 + -n3 * 1) (1 * d3) := ⟨_, rfl⟩
  have a := fracR_num (n := 48 * d3 + -n3 * 1) (d := 1 * d3) (B := 1000000000) (by omega) (by omega)
  have b := fracR_den (n := 48 * d3 + -n3 * 1) (d := 1 * d3) (by omega)
  have c := marR_bd h1 h2
  have HM := Lib.hid (show marR n3 d3 = fracR m1 (m2 * 2) by unfold marR; rw [← hm])
  rw [← hm] at a b HMI
  dsimp only at a b
  have HQ := Lib.hid (fun wx => quotient_any m1 m2 2 wx (by unfold smallI; omega) (by omega) (by unfold smallI; omega))
  rw [← HM.out] at HQ
  obtain ⟨⟨g1, g2⟩, hg⟩ : ∃ m, m = marR n3 d3 := ⟨_, rfl⟩
  rw [← hg] at c HQ
  dsimp only at c
  have e1 := Int.mul_nonneg (show 0 ≤ 72 * ln by omega) (show 0 ≤ g2 by omega)
  have e2 := Int.mul_le_mul (show 72 * ln ≤ 7200000 by omega) c.2.2 (by omega) (by omega)
  have HP := Lib.hid (fun wx => plus_any (72 * ln) 1 g1 g2 wx (by unfold smallI; omega) (by unfold smallI; omega) (by unfold smallI; omega) (by omega) (by unfold smallI; omega))
  obtain ⟨⟨y1, y2⟩, hy⟩ : ∃ m, m = croR n3 d3 ln := ⟨_, rfl⟩
  have HY := Lib.hid (show (⟨y1, y2⟩ : Fr) = fracR (72 * ln * g2 + g1 * 1) (1 * g2) by rw [hy]; unfold croR; rw [← hg])
  rw [← HY.out] at HP
  have HT := Lib.hid (fun wx => turnF_any mw a1 a2 b1 b2 pw qw cw st 1 y1 y2 wx)
  rw [← hy]
  unfold GotFr at HWH HMI HQ HP
  dsimp only at HWH HMI HQ HP ⊢
  clear hm hg hy e1 e2 a b c h1 h2 HM HY
  obtain ⟨r1, hr1⟩ : ∃ r, r = (if cw then y1 else st) := ⟨_, rfl⟩
  obtain ⟨r2, hr2⟩ : ∃ r, r = (if cw then y2 else 1) := ⟨_, rfl⟩
  obtain ⟨r3, hr3⟩ : ∃ r, r = (if cw then st else y1) := ⟨_, rfl⟩
  obtain ⟨r4, hr4⟩ : ∃ r, r = (if cw then 1 else y2) := ⟨_, rfl⟩
  rw [← hr1, ← hr2, ← hr3, ← hr4] at HT ⊢
  clear hr1 hr2 hr3 hr4
  obtain ⟨W1, hW1⟩ : ∃ W1, W1 = w.alloc (.cells #[.iface T arg, .int .i64 n1, .int .i64 d1, .int .i64 n2, .int .i64 d2, .int .i64 n3, .int .i64 d3, .int .i64 ln, .int .i64 st] 123) := ⟨_, rfl⟩
  obtain ⟨W2, hW2⟩ : ∃ W2, W2 = W1.alloc (.cells #[.bool cw, .bool mw, .func (.func a1) #[] #[], .func (.func a2) #[] #[], .func (.func 172) #[] #[.pointer (some ⟨pw, 0, none⟩)], .func (.func b1) #[] #[], .func (.func b2) #[] #[], .func (.func 172) #[] #[.pointer (some ⟨qw, 0, none⟩)]] 102) := ⟨_, rfl⟩
  obtain ⟨W3, hW3⟩ : ∃ W3, W3 = W2.alloc (.cells #[.int .i64 0, .int .i64 0] 40) := ⟨_, rfl⟩
  obtain ⟨W, hW⟩ : ∃ W, W = W3.alloc (.cells #[.int .i64 0, .int .i64 0] 40) := ⟨_, rfl⟩
  have s1 : W1.heap.size = w.heap.size + 1 := by rw [hW1]; simp
  have s2 : W2.heap.size = w.heap.size + 1 + 1 := by rw [hW2]; simp [s1]
  have s3 : W3.heap.size = w.heap.size + 1 + 1 + 1 := by rw [hW3]; simp [s2]
  have s4 : W.heap.size = w.heap.size + 1 + 1 + 1 + 1 := by rw [hW]; simp [s3]
  have k1 : Below w.heap.size w W1 := hW1 ▸ below_alloc _ _
  have k2 : Below W1.heap.size W1 W2 := hW2 ▸ below_alloc _ _
  have k3 : Below W2.heap.size W2 W3 := hW3 ▸ below_alloc _ _
  have k4 : Below W3.heap.size W3 W := hW ▸ below_alloc _ _
  have HB := Lib.hid (below_more (below_more (below_more k1 k2) k3) k4)
  have D0 := Lib.hid (blk_keep k4 (blk_keep k3 (blk_keep k2 (show W1.heap[w.heap.size]? = some (.cells #[.iface T arg, .int .i64 n1, .int .i64 d1, .int .i64 n2, .int .i64 d2, .int .i64 n3, .int .i64 d3, .int .i64 ln, .int .i64 st] 123 (0, 0)) by rw [hW1]; exact heap_alloc_new _ _))))
  have D1 := Lib.hid (blk_keep k4 (blk_keep k3 (show W2.heap[w.heap.size + 1]? = some (.cells #[.bool cw, .bool mw, .func (.func a1) #[] #[], .func (.func a2) #[] #[], .func (.func 172) #[] #[.pointer (some ⟨pw, 0, none⟩)], .func (.func b1) #[] #[], .func (.func b2) #[] #[], .func (.func 172) #[] #[.pointer (some ⟨qw, 0, none⟩)]] 102 (0, 0)) by rw [hW2, ← s1]; exact heap_alloc_new _ _)))
  have D2 := Lib.hid (blk_keep k4 (show W3.heap[w.heap.size + 1 + 1]? = some (.cells #[.int .i64 0, .int .i64 0] 40 (0, 0)) by rw [hW3, ← s2]; exact heap_alloc_new _ _))
  have D3 := Lib.hid (show W.heap[w.heap.size + 1 + 1 + 1]? = some (.cells #[.int .i64 0, .int .i64 0] 40 (0, 0)) by rw [hW, ← s3]; exact heap_alloc_new _ _)
  have x5 := cell_of_blk D0.out 5
  have x6 := cell_of_blk D0.out 6
  have hz0 : w.heap.size < W.heap.size := by omega
  simp at x5 x6
  clear s1 s2 s3 s4 k1 k2 k3 k4
  go_enter Tryz.func107, Tryz.ntmps107
  go_wp2_with fail
  rw [← hW1, ← hW2, ← hW3, ← hW]
  clear hW1 hW2 hW3 hW
  go_cut [6] (fun p wx => ∃ g, p = .pointer (some ⟨g, 0, none⟩) ∧ Hid (BoxIn W wx g g1 g2))
  case first =>
    have HDA := Lib.hid (show Below W.heap.size W (W.alloc (.cells #[.int .i64 0, .int .i64 0] 40)).drew from (below_alloc _ _).drew)
    have HDR := Lib.hid (show Below W.heap.size W W.drew from (Below.refl _ _).drew)
    have HKS := Lib.hid (fun wx (hb : Below W.heap.size W wx) => show wx.cell? ⟨w.heap.size, 5, none⟩ = some (.int .i64 n3) ∧ wx.cell? ⟨w.heap.size, 6, none⟩ = some (.int .i64 d3) from
      have d := blk_keep hb D0.out
      ⟨cell_of_blk d 5, cell_of_blk d 6⟩)
    go_region_held3 (fun wx => wx.cell? ⟨w.heap.size, 5, none⟩ = some (.int .i64 n3) ∧ wx.cell? ⟨w.heap.size, 6, none⟩ = some (.int .i64 d3))
      ((refine HKS.out _ ?_; first | exact HDR.out | exact HDA.out | assumption | (refine Below.alloc ?_ ?_ _ <;> first | assumption | exact HDR.out | exact Nat.le_refl _ | exact Below.size (by assumption)) | (refine Below.setCell (Below.setCell ?_ ?_ _) ?_ _ <;> first | assumption | exact Nat.le_refl _ | exact Below.size (by assumption))))
      (first
        | (go_at_call 101; refine (HWH.out _ _).mono ?_; rintro e wa ⟨rfl, hba⟩; have ka : Below W.heap.size W wa := by first | exact below_more HDR.out hba | exact below_more HDA.out hba)
        | (go_at_call 134; refine (HMI.out _).mono ?_; rintro e wb ⟨rfl, hbb⟩; have kb : Below W.heap.size W wb := by first | exact below_more ka hbb | exact below_more (ka.alloc ka.size _) hbb)
        | (go_at_call 145; refine (HQ.out _).mono ?_; rintro e wc ⟨rfl, hbc⟩; have kc : Below W.heap.size W wc := by first | exact below_more kb hbc | exact below_more (kb.alloc kb.size _) hbc
           (try (have z := blk_keep (below_more (below_more hba hbb) hbc) (show (W.alloc (.cells #[.int .i64 0, .int .i64 0] 40)).drew.heap[W.heap.size]? = _ from heap_alloc_new W (.cells #[.int .i64 0, .int .i64 0] 40)); have z0 := cell_of_blk z 0; have z1 := cell_of_blk z 1; have y0 := free_of_blk z 0; have y1 := free_of_blk z 1; have hzz := (Array.getElem?_eq_some_iff.1 z).1; simp at z0 z1 y0 y1 hzz; clear z))
           (try (have z := blk_keep (below_more hbb hbc) (heap_alloc_new wa (.cells #[.int .i64 0, .int .i64 0] 40)); have z0 := cell_of_blk z 0; have z1 := cell_of_blk z 1; have y0 := free_of_blk z 0; have y1 := free_of_blk z 1; have hzz := (Array.getElem?_eq_some_iff.1 z).1; simp at z0 z1 y0 y1 hzz; clear z))
           (try (have z := blk_keep hbc (heap_alloc_new wb (.cells #[.int .i64 0, .int .i64 0] 40)); have z0 := cell_of_blk z 0; have z1 := cell_of_blk z 1; have y0 := free_of_blk z 0; have y1 := free_of_blk z 1; have hzz := (Array.getElem?_eq_some_iff.1 z).1; simp at z0 z1 y0 y1 hzz; clear z)))
        | fail)
    all_goals (
      go_wp2_with fail
      go_meet
      first
      | exact ⟨_, rfl, Lib.hid (box_new kc)⟩
      | exact ⟨_, rfl, Lib.hid (box_set kb hbc)⟩
      | exact ⟨_, rfl, Lib.hid (box_set ka (below_more hbb hbc))⟩
      | exact ⟨_, rfl, Lib.hid (box_set (Below.refl _ _) (below_more (below_more (un_drew hba) hbb) hbc))⟩
      | fail)
  case rest =>
  obtain ⟨g, rfl, hbox⟩ := hcut
  obtain ⟨X, hX⟩ : ∃ X, X = wc := ⟨_, rfl⟩
  rw [← hX] at hbox ⊢
  have E0 := Lib.hid (blk_keep hbox.out.2.1 D0.out)
  have E1 := Lib.hid (blk_keep hbox.out.2.1 D1.out)
  have E2 := Lib.hid (blk_keep hbox.out.2.1 D2.out)
  have E3 := Lib.hid (blk_keep hbox.out.2.1 D3.out)
  have E4 := Lib.hid hbox.out.1
  have HBX := Lib.hid (below_more HB.out hbox.out.2.1)
  clear hX x5 x6 hz0 hbox
  have w0 := cell_of_blk E1.out 0
  have w1 := cell_of_blk E1.out 1
  have w2 := cell_of_blk E1.out 2
  have w3 := cell_of_blk E1.out 3
  have w4 := cell_of_blk E1.out 4
  have w5 := cell_of_blk E1.out 5
  have w6 := cell_of_blk E1.out 6
  have w7 := cell_of_blk E1.out 7
  have x7 := cell_of_blk E0.out 7
  have x8 := cell_of_blk E0.out 8
  have m0 := cell_of_blk E4.out 0
  have m1' := cell_of_blk E4.out 1
  have hz0 := (Array.getElem?_eq_some_iff.1 E0.out).1
  have hz1 := (Array.getElem?_eq_some_iff.1 E1.out).1
  have hz4 := (Array.getElem?_eq_some_iff.1 E4.out).1
  simp at w0 w1 w2 w3 w4 w5 w6 w7 x7 x8 m0 m1'
  have hmul : IntKind.i64.wrap (72 * ln) = 72 * ln := IntWalk.i64_in _ (by omega)
  go_wp2_with fail
  refine wp_region_later_tail 13 (by kernel_rfl) (by kernel_rfl) ?_; simp only [List.take_succ_cons, List.take_zero, List.drop_succ_cons, List.drop_zero]; (repeat (first | go_big_quiet_step ((first | ((go_at_call 101; exact Calls.later _ (HWH.out _ _))) | ((go_at_call 109; exact Calls.later _ (HP.out _))) | ((go_at_call 146; exact Calls.later _ (HT.out _))))) | quiet_step ((first | ((go_at_call 101; exact Calls.later _ (HWH.out _ _))) | ((go_at_call 109; exact Calls.later _ (HP.out _))) | ((go_at_call 146; exact Calls.later _ (HT.out _))))))); refine wpQuiet_nil ?_; rintro _ ⟨s, rfl⟩
  have HBS := Lib.hid (below_more HBX.out s.below)
  have K2 := Lib.hid (blk_keep s.below E2.out)
  have K3 := Lib.hid (blk_keep s.below E3.out)
  obtain ⟨Y, hY⟩ : ∃ Y, Y = s.w := ⟨_, rfl⟩
  rw [← hY] at HBS K2 K3 ⊢
  clear hY s w0 w1 w2 w3 w4 w5 w6 w7 x7 x8 m0 m1' hz0 hz1 hz4 hmul
  have q0 := cell_of_blk K2.out 0
  have q1 := cell_of_blk K2.out 1
  have f0 := free_of_blk K2.out 0
  have f1 := free_of_blk K2.out 1
  have p0 := cell_of_blk K3.out 0
  have p1 := cell_of_blk K3.out 1
  have g0 := free_of_blk K3.out 0
  have g1 := free_of_blk K3.out 1
  have hs := (Array.getElem?_eq_some_iff.1 K2.out).1
  have hs4 := (Array.getElem?_eq_some_iff.1 K3.out).1
  simp at q0 q1 p0 p1
  go_wp2_with fail
  exact bodyPost_ret (v := .tuple #[.agg #[.int .i64 r1, .int .i64 r2], .agg #[.int .i64 r3, .int .i64 r4]]) (by simp [results, Tryz.results107, go_sem, q0, q1, p0, p1]) rfl ⟨rfl, (((HBS.out.setCell (by dsimp only; omega) _).setCell (by dsimp only; omega) _).setCell (by dsimp only; omega) _).setCell (by dsimp only; omega) _⟩
end Go.Proofs.YtmiokllpdmmfhaaGreat
