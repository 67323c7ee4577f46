/-
  The scale of a group (scale), by the specification.
-/
import Derived.Test.YtmiokllpdmmfhaaGreatRsi
import Derived.Test.YtmiokllpdmmfhaaGreatLbE
import Derived.Test.YtmiokllpdmmfhaaGreatLaK
import Derived.Test.YtmiokllpdmmfhaaGreatLaC
import Derived.Deep.DeepCutAuto
namespace Go.Proofs.YtmiokllpdmmfhaaGreat
open Go.RowKit
theorem frac_lt {x y : Int} (hx : 0 < x) (hy : 0 < y) : ((fracR 48 x).num * (fracR 48 y).den < (fracR 48 y).num * (fracR 48 x).den) ↔ y < x := by
  obtain ⟨g, g0, gn, gd, g1, _⟩ := fracR_spec (n := 48) hx
  obtain ⟨h, h0, hn, hd, h1, _⟩ := fracR_spec (n := 48) hy
  obtain ⟨a, ha⟩ : ∃ a, a = (fracR 48 x).num := ⟨_, rfl⟩
  obtain ⟨b, hb⟩ : ∃ b, b = (fracR 48 x).den := ⟨_, rfl⟩
  obtain ⟨c, hc⟩ : ∃ c, c = (fracR 48 y).num := ⟨_, rfl⟩
  obtain ⟨d, hdd⟩ : ∃ d, d = (fracR 48 y).den := ⟨_, rfl⟩
  rw [← ha] at gn ⊢
  rw [← hb] at gd ⊢
  rw [← hc] at hn ⊢
  rw [← hdd] at hd ⊢
  have e1 : (g * h) * (a * d) = 48 * y := by
    rw [show (g * h) * (a * d) = (g * a) * (h * d) by ac_rfl, ← gn, ← hd]
  have e2 : (g * h) * (c * b) = 48 * x := by
    rw [show (g * h) * (c * b) = (h * c) * (g * b) by ac_rfl, ← hn, ← gd]
  have hgh : 0 < g * h := Int.mul_pos g0 h0
  constructor
  · intro hlt
    have := Int.mul_lt_mul_of_pos_left hlt hgh
    rw [e1, e2] at this; omega
  · intro hlt
    rcases Int.lt_or_le (a * d) (c * b) with h' | h'
    · exact h'
    · have := Int.mul_le_mul_of_nonneg_left h' (show 0 ≤ g * h by omega)
      rw [e1, e2] at this; omega
theorem frac_one : fracR 48 48 = ⟨1, 1⟩ := by
  have h1 : (fracR 48 48).num = 1 := by decide +kernel
  have h2 : (fracR 48 48).den = 1 := by decide +kernel
  generalize fracR 48 48 = f at h1 h2
  obtain ⟨a, b⟩ := f
  dsimp only at h1 h2
  rw [h1, h2]
def lg1 (rw_ rg : Bool) (h : Int) : Int := if (rw_ || !rg) && decide (48 < h) then h else 48
def lg2 (rw_ rg : Bool) (a w : Int) : Int := if (!rw_ || !rg) && decide (48 < w) && decide (a < w) then w else a
theorem scl_is {cw : Bool} {s : Shp} (rw_ : Bool) (h : cw = !rw_) : sclR cw s = fracR 48 (lg2 rw_ (isRng s) (lg1 rw_ (isRng s) s.size.2) s.size.1) := by
  subst h
  unfold sclR acR
  congr 1
  generalize s.size.1 = w
  generalize s.size.2 = hh
  unfold lg2 lg1
  cases rw_ <;> cases isRng s <;> simp <;> (repeat (split <;> try omega)) <;> omega
def GotF2 (f : Fr) (w : World) (e : Ending) (w' : World) : Prop := e = .returned (.agg #[.int .i64 f.num, .int .i64 f.den]) ∧ Below w.heap.size w w'
theorem gotF2 {a b : Int} {f : Fr} {w w' : World} (h : f = ⟨a, b⟩) (hb : Below w.heap.size w w') : GotF2 f w (.returned (.agg #[.int .i64 a, .int .i64 b])) w' := by rw [h]; exact ⟨rfl, hb⟩
theorem rwhole_any (n : Int) (w : World) : Calls Tryz.prog 103 #[.int .i64 n] w fun e w' => e = .returned (.agg #[.int .i64 n, .int .i64 1]) ∧ Below w.heap.size w w' := by
  go_enter Tryz.func103, Tryz.ntmps103
  go_wp2
  refine bodyPost_ret (v := .agg #[.int .i64 n, .int .i64 1]) (by simp [results, Tryz.results103, go_sem]) rfl ⟨rfl, ?_⟩
  exact below_alloc _ _
theorem isRng_at {l : Li} {cw : Bool} {zs : List Nd} {i : Nat} {u : Nd} (hu : zs[i]? = some u) (h1 : 1 ≤ u.kind ∧ u.kind ≤ 6) (f : Nat) : isRng (shpI l cw zs (f + 1) i) = (u.kind == 5) := by
  rw [shpI, kindAt_is hu, getN_at hu]
  by_cases k1 : u.kind = 1
  · rw [if_pos k1]; simp [k1, isRng]
  · rw [if_neg k1]
    by_cases k6 : u.kind = 6
    · rw [if_pos k6]; simp [k6, isRng]
    · rw [if_neg k6]
      by_cases k4 : u.kind = 4
      · rw [if_pos k4]; simp [k4, isRng, ovlI]
      · rw [if_neg k4]
        by_cases k2 : u.kind = 2
        · rw [if_pos k2]; simp [k2, isRng]
        · rw [if_neg k2]
          by_cases k3 : u.kind = 3
          · rw [if_pos k3]; simp [k3, isRng]
          · rw [if_neg k3]
            have : u.kind = 5 := by omega
            simp [this, isRng]
set_option maxRecDepth 100000 in
set_option maxHeartbeats 32000000 in
theorem rscaleRG_any (L : Lm) (way len : Int) (A : Option Addr) (cap : Nat) (zs : List Nd) (i : Nat) (u : Nd) (w : World) (hl : LmOk w L) (hn : NdsAt w A zs) (hp : Pln L.li zs) (hc1 : zs.length ≤ cap) (hc : cap ≤ maxLen) (hu : zs[i]? = some u) (hR : decide (way ≤ 2) = true) (hG : (u.kind == 5) = true) :
    Calls Tryz.prog 61 #[.agg #[.int .i64 L.per, .slice L.A L.ms.length L.cap], .agg #[.slice A zs.length cap], .agg #[.int .i64 way, .int .i64 len], .int .i64 i] w (GotF2 (sclR (cwN way) (shpI L.li (cwN way) zs 5 i)) w) := by
  have hud := (hp.full.depth u (List.mem_of_getElem? hu))
  have hkin := kind_in hp hu
  have hil := (List.getElem?_eq_some_iff.1 hu).1
  have h200 := (text_ok hp.ok).2.1
  have hbd := sh_bd (cwN way) hp 5 i u hu (by omega) (Nat.le_refl _)
  have hb5 := bndI_le 5 (by omega)
  have hcw : cwN way = !true := by
    unfold cwN
    rw [← hR]
    by_cases h : way ≤ 2 <;> simp [h] <;> omega
  have hsc := scl_is (s := shpI L.li (cwN way) zs 5 i) true hcw
  rw [isRng_at hu (by omega) 4, hG] at hsc
  rw [hsc]
  have HSZ := Lib.hid (fun wx (hb : Below w.heap.size w wx) => show Calls Tryz.prog 58 #[.agg #[.int .i64 L.per, .slice L.A L.ms.length L.cap], .agg #[.slice A zs.length cap], .agg #[.int .i64 way, .int .i64 len], .int .i64 i, .bool false] wx (fun e w' => e = .returned (.tuple #[.int .i64 (shpI L.li (cwN way) zs 5 i).size.1, .int .i64 (shpI L.li (cwN way) zs 5 i).size.2]) ∧ Below wx.heap.size wx w') by
    have := rsz_any L way len A cap zs hp hc1 hc 5 i u false wx hu (by omega) (Nat.le_refl _) (hl.below hb) (hn.below hb)
    rw [inI_false] at this; exact this)
  obtain ⟨b, o, rfl, hbl, hva⟩ := hn i u hu
  have HV := Lib.hid hva
  have HRW := Lib.hid (fun wx => show Calls Tryz.prog 104 #[.agg #[.int .i64 way, .int .i64 len]] wx (fun e w' => e = .returned (.bool true) ∧ Below wx.heap.size wx w') by
    have := rrows_any way len wx; rw [hR] at this; exact this)
  obtain ⟨⟨p1, p2⟩, hpp⟩ : ∃ p, p = (shpI L.li (cwN way) zs 5 i).size := ⟨_, rfl⟩
  rw [← hpp] at HSZ hbd ⊢
  dsimp only at HSZ hbd ⊢
  obtain ⟨-, ⟨b1, b2⟩, b3, b4⟩ := hbd
  have b2 : p1 ≤ 172084 := by omega
  have b4 : p2 ≤ 172084 := by omega
  obtain ⟨N, hN⟩ : ∃ N, N = zs.length := ⟨_, rfl⟩
  rw [← hN] at HSZ hc1 hil h200 ⊢
  unfold maxLen at hc
  obtain ⟨l1, hl1⟩ : ∃ l, l = lg1 true true p2 := ⟨_, rfl⟩
  obtain ⟨l2, hl2⟩ : ∃ l, l = lg2 true true l1 p1 := ⟨_, rfl⟩
  rw [← hl1, ← hl2]
  have HL1 := Lib.hid hl1
  have HL2 := Lib.hid hl2
  have hl1b : 48 ≤ l1 ∧ l1 ≤ 172084 := by rw [hl1]; unfold lg1; split <;> simp_all <;> omega
  have HF := Lib.hid (fun (x : Int) (hx : 48 ≤ x ∧ x ≤ 172084) wx => rfrac_any 48 x wx (by omega) (by omega))
  have HLS := Lib.hid (fun (x y : Int) (hx : 48 ≤ x ∧ x ≤ 172084) (hy : 48 ≤ y ∧ y ≤ 172084) wx => show Calls Tryz.prog 84 #[.agg #[.int .i64 (fracR 48 x).num, .int .i64 (fracR 48 x).den], .agg #[.int .i64 (fracR 48 y).num, .int .i64 (fracR 48 y).den]] wx (fun e w' => e = .returned (.bool (decide (y < x))) ∧ Below wx.heap.size wx w') by
    have h1 := fracR_bd (n := 48) (d := x) (by omega) (by omega)
    have h2 := fracR_bd (n := 48) (d := y) (by omega) (by omega)
    have m1 := Int.mul_nonneg h1.1.1 (show 0 ≤ (fracR 48 y).den by omega)
    have m2 := Int.mul_le_mul h1.1.2 (show (fracR 48 y).den ≤ 172084 by omega) (by omega) (by omega)
    have m3 := Int.mul_nonneg h2.1.1 (show 0 ≤ (fracR 48 x).den by omega)
    have m4 := Int.mul_le_mul h2.1.2 (show (fracR 48 x).den ≤ 172084 by omega) (by omega) (by omega)
    have := rless_any (fracR 48 x).num (fracR 48 x).den (fracR 48 y).num (fracR 48 y).den wx (by unfold smallI; omega) (by unfold smallI; omega)
    rw [show decide ((fracR 48 x).num * (fracR 48 y).den < (fracR 48 y).num * (fracR 48 x).den) = decide (y < x) from decide_eq_decide.2 (frac_lt (by omega) (by omega))] at this
    exact this)
  have e48 : fracR 48 48 = ⟨1, 1⟩ := frac_one
  have HE48 := Lib.hid e48
  clear hud hkin hp hsc hpp hcw hN hl1 hl2 hl hn hva hR hu e48 hb5
  obtain ⟨uk, ud, us, ut, um, ust, umn, umx⟩ := u
  obtain ⟨W1, hW1⟩ : ∃ W', W' = w.alloc (.cells #[.int .i64 L.per, .slice L.A L.ms.length L.cap] 24) := ⟨_, rfl⟩; obtain ⟨W2, hW2⟩ : ∃ W', W' = W1.alloc (.cells #[.slice (some ⟨b, o, none⟩) N cap] 27) := ⟨_, rfl⟩; obtain ⟨W3, hW3⟩ : ∃ W', W' = W2.alloc (.cells #[.int .i64 way, .int .i64 len] 31) := ⟨_, rfl⟩; obtain ⟨W, hW⟩ : ∃ W', W' = W3.alloc (.cells #[.int .i64 0, .int .i64 0] 40) := ⟨_, rfl⟩; have szW1 : W1.heap.size = w.heap.size + 1 := (by rw [hW1]; simp); have kbW1 : Below w.heap.size w W1 := hW1 ▸ below_alloc _ _; have szW2 : W2.heap.size = w.heap.size + 1 + 1 := (by rw [hW2]; simp [szW1]); have kbW2 : Below W1.heap.size W1 W2 := hW2 ▸ below_alloc _ _; have szW3 : W3.heap.size = w.heap.size + 1 + 1 + 1 := (by rw [hW3]; simp [szW2]); have kbW3 : Below W2.heap.size W2 W3 := hW3 ▸ below_alloc _ _; have szW : W.heap.size = w.heap.size + 1 + 1 + 1 + 1 := (by rw [hW]; simp [szW3]); have kbW : Below W3.heap.size W3 W := hW ▸ below_alloc _ _; have HB := Lib.hid (below_more (below_more (below_more kbW1 kbW2) kbW3) kbW); have D0 := Lib.hid (blk_keep kbW (blk_keep kbW3 (blk_keep kbW2 (show W1.heap[w.heap.size]? = some (.cells #[.int .i64 L.per, .slice L.A L.ms.length L.cap] 24 (0, 0)) by rw [hW1]; exact heap_alloc_new _ _)))); have D1 := Lib.hid (blk_keep kbW (blk_keep kbW3 (show W2.heap[w.heap.size + 1]? = some (.cells #[.slice (some ⟨b, o, none⟩) N cap] 27 (0, 0)) by rw [hW2, ← szW1]; exact heap_alloc_new _ _))); have D2 := Lib.hid (blk_keep kbW (show W3.heap[w.heap.size + 1 + 1]? = some (.cells #[.int .i64 way, .int .i64 len] 31 (0, 0)) by rw [hW3, ← szW2]; exact heap_alloc_new _ _)); have D3 := Lib.hid (show W.heap[w.heap.size + 1 + 1 + 1]? = some (.cells #[.int .i64 0, .int .i64 0] 40 (0, 0)) by rw [hW, ← szW3]; exact heap_alloc_new _ _); have SZW := Lib.hid szW; clear szW1 kbW1 szW2 kbW2 szW3 kbW3 szW kbW
  have x0 := cell_of_blk D0.out 0; have x1 := cell_of_blk D0.out 1; have hz_x := (Array.getElem?_eq_some_iff.1 D0.out).1; simp at x0 x1
  have y0 := cell_of_blk D1.out 0; have hz_y := (Array.getElem?_eq_some_iff.1 D1.out).1; simp at y0
  have p0 := cell_of_blk D2.out 0; have p1 := cell_of_blk D2.out 1; have hz_p := (Array.getElem?_eq_some_iff.1 D2.out).1; simp at p0 p1
  go_enter Tryz.func61, Tryz.ntmps61
  go_wp2_with fail
  rw [← hW1, ← hW2, ← hW3, ← hW]; clear hW1 hW2 hW3 hW
  go_wp2_with fail
  refine (HSZ.out _ HB.out).mono ?_; rintro e w1 ⟨rfl, hb1⟩
  have HB1 := Lib.hid (below_more HB.out hb1)
  have D0 := Lib.hid (blk_keep hb1 D0.out)
  have D1 := Lib.hid (blk_keep hb1 D1.out)
  have D2 := Lib.hid (blk_keep hb1 D2.out)
  have D3 := Lib.hid (blk_keep hb1 D3.out)
  clear hb1 HSZ x0 x1 hz_x y0 hz_y p0 p1 hz_p
  go_wp2_with fail
  refine (rwhole_any 1 _).mono ?_; rintro e w2 ⟨rfl, hb2⟩
  have HB2 := Lib.hid (below_more HB1.out hb2)
  have D1 := Lib.hid (blk_keep hb2 D1.out)
  have D2 := Lib.hid (blk_keep hb2 D2.out)
  have D3 := Lib.hid (blk_keep hb2 D3.out)
  have HL3 := Lib.hid (Array.getElem?_eq_some_iff.1 D3.out).1
  clear hb2
  have v := HV.out.below HB2.out hbl
  have z0 := v.c0
  have hbr : b < w2.heap.size := by have := HB2.out.size; omega
  have hi0 : (0 : Int) ≤ (i : Int) := by omega
  have hiN : (i : Int) < (N : Int) := by omega
  dsimp only at z0 hG
  clear v
  have y0 := cell_of_blk D1.out 0; have hz_y := (Array.getElem?_eq_some_iff.1 D1.out).1; simp at y0
  go_upto_region 4 with fail
  obtain ⟨V3, hV3⟩ : ∃ V3, V3 = w2.alloc (.cells #[.int .i64 1, .int .i64 1] 40) := ⟨_, rfl⟩
  have k3 : Below w2.heap.size w2 V3 := hV3 ▸ below_alloc _ _
  have DS := Lib.hid (show V3.heap[w2.heap.size]? = some (.cells #[.int .i64 1, .int .i64 1] 40 (0, 0)) from hV3 ▸ heap_alloc_new _ _)
  have K3 := Lib.hid k3
  have D2' := Lib.hid (blk_keep k3 D2.out)
  rw [← hV3]
  clear hV3 k3 y0 hz_y z0 hbr hi0 hiN
  obtain ⟨G1, hG1⟩ : ∃ G, G = (true && decide (48 < p2)) := ⟨_, rfl⟩
  have HG1 := Lib.hid hG1
  clear hG1
  go_cut [44] (fun t wx => t = .bool G1 ∧ Hid (Below V3.heap.size V3 wx))
  case first =>
    have g0 := cell_of_blk D2'.out 0
    have g1 := cell_of_blk D2'.out 1
    have hz_g := (Array.getElem?_eq_some_iff.1 D2'.out).1
    simp at g0 g1
    have q0 := cell_of_blk DS.out 0; have q1 := cell_of_blk DS.out 1; have hz_q := (Array.getElem?_eq_some_iff.1 DS.out).1; simp at q0 q1
    by_cases h48 : 48 < p2
    · have d1 : decide (48 < p2) = true := decide_eq_true h48
      have HFP := Lib.hid (fun wx => HF.out p2 (by omega) wx)
      have HLP := Lib.hid (fun wx => HLS.out p2 48 (by omega) (by omega) wx)
      rw [HE48.out, d1] at HLP
      dsimp only at HLP
      obtain ⟨⟨h1, h2⟩, hh⟩ : ∃ f, f = fracR 48 p2 := ⟨_, rfl⟩
      rw [← hh] at HFP HLP
      dsimp only at HFP HLP
      clear hh
      refine wp_region_later (by kernel_rfl) (by kernel_rfl) ?_; (repeat (first | go_big_quiet_step ((first | ((go_at_call 104; exact Calls.later _ (HRW.out _))) | ((go_at_call 105; exact Calls.later _ (HFP.out _))) | ((go_at_call 84; exact Calls.later _ (HLP.out _))))) | quiet_step ((first | ((go_at_call 104; exact Calls.later _ (HRW.out _))) | ((go_at_call 105; exact Calls.later _ (HFP.out _))) | ((go_at_call 84; exact Calls.later _ (HLP.out _))))))); refine wpQuiet_nil ?_; rintro _ ⟨s, rfl⟩
      go_wp2_with fail
      go_meet
      exact ⟨by rw [HG1.out, d1]; rfl, Lib.hid s.below⟩
    · have d1 : decide (48 < p2) = false := decide_eq_false h48
      refine wp_region_later (by kernel_rfl) (by kernel_rfl) ?_; (repeat (first | go_big_quiet_step ((first | ((go_at_call 104; exact Calls.later _ (HRW.out _))))) | quiet_step ((first | ((go_at_call 104; exact Calls.later _ (HRW.out _))))))); refine wpQuiet_nil ?_; rintro _ ⟨s, rfl⟩
      go_wp2_with fail
      go_meet
      exact ⟨by rw [HG1.out, d1]; rfl, Lib.hid s.below⟩
  case rest =>
    obtain ⟨rfl, hbc⟩ := hcut
    have HBC := Lib.hid hbc.out
    have DS := Lib.hid (blk_keep HBC.out DS.out)
    have K3 := Lib.hid (K3.out.trans (HBC.out.mono K3.out.size))
    obtain ⟨w5, rfl⟩ : ∃ w5, w5 = wc := ⟨_, rfl⟩
    clear hbc HBC D2'
    go_upto_if 44 with fail
    go_cut [] (fun wx => Hid (wx.heap[w2.heap.size]? = some (.cells #[.int .i64 (fracR 48 l1).num, .int .i64 (fracR 48 l1).den] 40 (0, 0))) ∧ Hid (Below w2.heap.size w2 wx))
    case first =>
      cases G1
      case true =>
        have h48 : 48 < p2 := by have := HG1.out; simpa using this
        have d1 : decide (48 < p2) = true := decide_eq_true h48
        have he : l1 = p2 := by rw [HL1.out]; unfold lg1; rw [d1]; rfl
        clear HL1 d1
        go_wp2_with fail
        refine (HF.out p2 (by omega) _).mono ?_; rintro e w9 ⟨rfl, hb9⟩
        have DS9 := Lib.hid (blk_keep hb9 DS.out)
        have HB9 := Lib.hid hb9
        clear hb9
        obtain ⟨⟨h1, h2⟩, hh⟩ : ∃ f, f = fracR 48 p2 := ⟨_, rfl⟩
        rw [← hh]
        have q0 := cell_of_blk DS9.out 0; have qf0 := free_of_blk DS9.out 0; have q1 := cell_of_blk DS9.out 1; have qf1 := free_of_blk DS9.out 1; have hz_q := (Array.getElem?_eq_some_iff.1 DS9.out).1; simp at q0 q1
        go_wp2_with fail
        go_meet
        have e9 := heap_setCell_same _ w2.heap.size 1 (.int .i64 h2) _ _ (heap_setCell_same w9 w2.heap.size 0 (.int .i64 h1) _ _ DS9.out)
        exact ⟨Lib.hid (by rw [he, ← hh]; simpa using e9), Lib.hid (((K3.out.trans (HB9.out.mono K3.out.size)).setCell (Nat.le_refl _) _).setCell (Nat.le_refl _) _)⟩
      case false =>
        have h48 : ¬ 48 < p2 := by have := HG1.out; simpa using this
        have d1 : decide (48 < p2) = false := decide_eq_false h48
        have he : l1 = 48 := by rw [HL1.out]; unfold lg1; rw [d1]; rfl
        clear HL1 d1
        go_wp2_with fail
        go_meet
        exact ⟨Lib.hid (by rw [he, HE48.out]; exact DS.out), K3⟩
    case rest =>
      obtain ⟨hds, hk3⟩ := hcut
      have DS := Lib.hid hds.out
      have K3 := Lib.hid hk3.out
      obtain ⟨w6, rfl⟩ : ∃ w6, w6 = wc := ⟨_, rfl⟩
      clear hds hk3
      have D2 := Lib.hid (blk_keep K3.out D2.out)
      have D3 := Lib.hid (blk_keep K3.out D3.out)
      obtain ⟨⟨f1, f2⟩, hf⟩ : ∃ f, f = fracR 48 l1 := ⟨_, rfl⟩
      have HLS1 := Lib.hid (fun x hx wx => HLS.out x l1 hx hl1b wx)
      have HFF := Lib.hid hf
      rw [← hf] at DS HLS1
      dsimp only at DS HLS1
      clear hf
      go_upto_region 6 with fail
      obtain ⟨G2, hG2⟩ : ∃ G, G = (false && decide (48 < p1) && decide (l1 < p1)) := ⟨_, rfl⟩
      have HG2 := Lib.hid hG2
      clear hG2
      go_cut [63] (fun t wx => t = .bool G2 ∧ Hid (Below w6.heap.size w6 wx))
      case first =>
        have g0 := cell_of_blk D2.out 0
        have g1 := cell_of_blk D2.out 1
        have hz_g := (Array.getElem?_eq_some_iff.1 D2.out).1
        simp at g0 g1
        have q0 := cell_of_blk DS.out 0; have q1 := cell_of_blk DS.out 1; have hz_q := (Array.getElem?_eq_some_iff.1 DS.out).1; simp at q0 q1
        refine wp_region_later (by kernel_rfl) (by kernel_rfl) ?_; (repeat (first | go_big_quiet_step ((first | ((go_at_call 104; exact Calls.later _ (HRW.out _))))) | quiet_step ((first | ((go_at_call 104; exact Calls.later _ (HRW.out _))))))); refine wpQuiet_nil ?_; rintro _ ⟨s, rfl⟩
        go_wp2_with fail
        go_meet
        exact ⟨by rw [HG2.out]; rfl, Lib.hid s.below⟩
      case rest =>
        obtain ⟨rfl, hbc⟩ := hcut
        have HBC := Lib.hid hbc.out
        have DS := Lib.hid (blk_keep HBC.out DS.out)
        have D3 := Lib.hid (blk_keep HBC.out D3.out)
        have HBF := Lib.hid (below_more (below_more HB2.out K3.out) HBC.out)
        obtain ⟨w7, rfl⟩ : ∃ w7, w7 = wc := ⟨_, rfl⟩
        have hw27 := Nat.le_trans K3.out.size HBC.out.size
        have hw02 := HB2.out.size
        clear hbc HBC D2
        go_upto_if 63 with fail
        go_cut [] (fun wx => Hid (wx.heap[w2.heap.size]? = some (.cells #[.int .i64 (fracR 48 l2).num, .int .i64 (fracR 48 l2).den] 40 (0, 0))) ∧ Hid (wx.heap[w.heap.size + 1 + 1 + 1]? = some (.cells #[.int .i64 0, .int .i64 0] 40 (0, 0))) ∧ Hid (Below w.heap.size w wx))
        case first =>
          have he : l2 = l1 := by rw [HL2.out]; rfl
          obtain rfl : G2 = false := HG2.out
          go_wp2_with fail
          go_meet
          exact ⟨Lib.hid (by rw [he, ← HFF.out]; exact DS.out), D3, HBF⟩
        case rest =>
          obtain ⟨hds, hd3, hk⟩ := hcut
          have DS := Lib.hid hds.out
          have D3 := Lib.hid hd3.out
          have HBL := Lib.hid hk.out
          obtain ⟨w8, rfl⟩ : ∃ w8, w8 = wc := ⟨_, rfl⟩
          clear hds hd3 hk
          obtain ⟨⟨r1, r2⟩, hr⟩ : ∃ f, f = fracR 48 l2 := ⟨_, rfl⟩
          rw [← hr] at DS
          have HRR := Lib.hid hr.symm
          dsimp only at DS
          have q0 := cell_of_blk DS.out 0; have qf0 := free_of_blk DS.out 0; have q1 := cell_of_blk DS.out 1; have qf1 := free_of_blk DS.out 1; have hz_q := (Array.getElem?_eq_some_iff.1 DS.out).1; simp at q0 q1
          have p0 := cell_of_blk D3.out 0
          have pf0 := free_of_blk D3.out 0
          have p1' := cell_of_blk D3.out 1
          have pf1 := free_of_blk D3.out 1
          have hz_p := (Array.getElem?_eq_some_iff.1 D3.out).1
          simp at p0 p1'
          clear hr
          go_wp2_with fail
          refine bodyPost_ret (v := .agg #[.int .i64 r1, .int .i64 r2]) (by simp [results, Tryz.results61, go_sem, p0, p1']) rfl (gotF2 HRR.out ?_)
          exact (HBL.out.setCell (by dsimp only; omega) _).setCell (by dsimp only; omega) _
set_option maxRecDepth 100000 in
set_option maxHeartbeats 32000000 in
theorem rscaleRN_any (L : Lm) (way len : Int) (A : Option Addr) (cap : Nat) (zs : List Nd) (i : Nat) (u : Nd) (w : World) (hl : LmOk w L) (hn : NdsAt w A zs) (hp : Pln L.li zs) (hc1 : zs.length ≤ cap) (hc : cap ≤ maxLen) (hu : zs[i]? = some u) (hR : decide (way ≤ 2) = true) (hG : (u.kind == 5) = false) :
    Calls Tryz.prog 61 #[.agg #[.int .i64 L.per, .slice L.A L.ms.length L.cap], .agg #[.slice A zs.length cap], .agg #[.int .i64 way, .int .i64 len], .int .i64 i] w (GotF2 (sclR (cwN way) (shpI L.li (cwN way) zs 5 i)) w) := by
  have hud := (hp.full.depth u (List.mem_of_getElem? hu))
  have hkin := kind_in hp hu
  have hil := (List.getElem?_eq_some_iff.1 hu).1
  have h200 := (text_ok hp.ok).2.1
  have hbd := sh_bd (cwN way) hp 5 i u hu (by omega) (Nat.le_refl _)
  have hb5 := bndI_le 5 (by omega)
  have hcw : cwN way = !true := by
    unfold cwN
    rw [← hR]
    by_cases h : way ≤ 2 <;> simp [h] <;> omega
  have hsc := scl_is (s := shpI L.li (cwN way) zs 5 i) true hcw
  rw [isRng_at hu (by omega) 4, hG] at hsc
  rw [hsc]
  have HSZ := Lib.hid (fun wx (hb : Below w.heap.size w wx) => show Calls Tryz.prog 58 #[.agg #[.int .i64 L.per, .slice L.A L.ms.length L.cap], .agg #[.slice A zs.length cap], .agg #[.int .i64 way, .int .i64 len], .int .i64 i, .bool false] wx (fun e w' => e = .returned (.tuple #[.int .i64 (shpI L.li (cwN way) zs 5 i).size.1, .int .i64 (shpI L.li (cwN way) zs 5 i).size.2]) ∧ Below wx.heap.size wx w') by
    have := rsz_any L way len A cap zs hp hc1 hc 5 i u false wx hu (by omega) (Nat.le_refl _) (hl.below hb) (hn.below hb)
    rw [inI_false] at this; exact this)
  obtain ⟨b, o, rfl, hbl, hva⟩ := hn i u hu
  have HV := Lib.hid hva
  have HRW := Lib.hid (fun wx => show Calls Tryz.prog 104 #[.agg #[.int .i64 way, .int .i64 len]] wx (fun e w' => e = .returned (.bool true) ∧ Below wx.heap.size wx w') by
    have := rrows_any way len wx; rw [hR] at this; exact this)
  obtain ⟨⟨p1, p2⟩, hpp⟩ : ∃ p, p = (shpI L.li (cwN way) zs 5 i).size := ⟨_, rfl⟩
  rw [← hpp] at HSZ hbd ⊢
  dsimp only at HSZ hbd ⊢
  obtain ⟨-, ⟨b1, b2⟩, b3, b4⟩ := hbd
  have b2 : p1 ≤ 172084 := by omega
  have b4 : p2 ≤ 172084 := by omega
  obtain ⟨N, hN⟩ : ∃ N, N = zs.length := ⟨_, rfl⟩
  rw [← hN] at HSZ hc1 hil h200 ⊢
  unfold maxLen at hc
  obtain ⟨l1, hl1⟩ : ∃ l, l = lg1 true false p2 := ⟨_, rfl⟩
  obtain ⟨l2, hl2⟩ : ∃ l, l = lg2 true false l1 p1 := ⟨_, rfl⟩
  rw [← hl1, ← hl2]
  have HL1 := Lib.hid hl1
  have HL2 := Lib.hid hl2
  have hl1b : 48 ≤ l1 ∧ l1 ≤ 172084 := by rw [hl1]; unfold lg1; split <;> simp_all <;> omega
  have HF := Lib.hid (fun (x : Int) (hx : 48 ≤ x ∧ x ≤ 172084) wx => rfrac_any 48 x wx (by omega) (by omega))
  have HLS := Lib.hid (fun (x y : Int) (hx : 48 ≤ x ∧ x ≤ 172084) (hy : 48 ≤ y ∧ y ≤ 172084) wx => show Calls Tryz.prog 84 #[.agg #[.int .i64 (fracR 48 x).num, .int .i64 (fracR 48 x).den], .agg #[.int .i64 (fracR 48 y).num, .int .i64 (fracR 48 y).den]] wx (fun e w' => e = .returned (.bool (decide (y < x))) ∧ Below wx.heap.size wx w') by
    have h1 := fracR_bd (n := 48) (d := x) (by omega) (by omega)
    have h2 := fracR_bd (n := 48) (d := y) (by omega) (by omega)
    have m1 := Int.mul_nonneg h1.1.1 (show 0 ≤ (fracR 48 y).den by omega)
    have m2 := Int.mul_le_mul h1.1.2 (show (fracR 48 y).den ≤ 172084 by omega) (by omega) (by omega)
    have m3 := Int.mul_nonneg h2.1.1 (show 0 ≤ (fracR 48 x).den by omega)
    have m4 := Int.mul_le_mul h2.1.2 (show (fracR 48 x).den ≤ 172084 by omega) (by omega) (by omega)
    have := rless_any (fracR 48 x).num (fracR 48 x).den (fracR 48 y).num (fracR 48 y).den wx (by unfold smallI; omega) (by unfold smallI; omega)
    rw [show decide ((fracR 48 x).num * (fracR 48 y).den < (fracR 48 y).num * (fracR 48 x).den) = decide (y < x) from decide_eq_decide.2 (frac_lt (by omega) (by omega))] at this
    exact this)
  have e48 : fracR 48 48 = ⟨1, 1⟩ := frac_one
  have HE48 := Lib.hid e48
  clear hud hkin hp hsc hpp hcw hN hl1 hl2 hl hn hva hR hu e48 hb5
  obtain ⟨uk, ud, us, ut, um, ust, umn, umx⟩ := u
  obtain ⟨W1, hW1⟩ : ∃ W', W' = w.alloc (.cells #[.int .i64 L.per, .slice L.A L.ms.length L.cap] 24) := ⟨_, rfl⟩; obtain ⟨W2, hW2⟩ : ∃ W', W' = W1.alloc (.cells #[.slice (some ⟨b, o, none⟩) N cap] 27) := ⟨_, rfl⟩; obtain ⟨W3, hW3⟩ : ∃ W', W' = W2.alloc (.cells #[.int .i64 way, .int .i64 len] 31) := ⟨_, rfl⟩; obtain ⟨W, hW⟩ : ∃ W', W' = W3.alloc (.cells #[.int .i64 0, .int .i64 0] 40) := ⟨_, rfl⟩; have szW1 : W1.heap.size = w.heap.size + 1 := (by rw [hW1]; simp); have kbW1 : Below w.heap.size w W1 := hW1 ▸ below_alloc _ _; have szW2 : W2.heap.size = w.heap.size + 1 + 1 := (by rw [hW2]; simp [szW1]); have kbW2 : Below W1.heap.size W1 W2 := hW2 ▸ below_alloc _ _; have szW3 : W3.heap.size = w.heap.size + 1 + 1 + 1 := (by rw [hW3]; simp [szW2]); have kbW3 : Below W2.heap.size W2 W3 := hW3 ▸ below_alloc _ _; have szW : W.heap.size = w.heap.size + 1 + 1 + 1 + 1 := (by rw [hW]; simp [szW3]); have kbW : Below W3.heap.size W3 W := hW ▸ below_alloc _ _; have HB := Lib.hid (below_more (below_more (below_more kbW1 kbW2) kbW3) kbW); have D0 := Lib.hid (blk_keep kbW (blk_keep kbW3 (blk_keep kbW2 (show W1.heap[w.heap.size]? = some (.cells #[.int .i64 L.per, .slice L.A L.ms.length L.cap] 24 (0, 0)) by rw [hW1]; exact heap_alloc_new _ _)))); have D1 := Lib.hid (blk_keep kbW (blk_keep kbW3 (show W2.heap[w.heap.size + 1]? = some (.cells #[.slice (some ⟨b, o, none⟩) N cap] 27 (0, 0)) by rw [hW2, ← szW1]; exact heap_alloc_new _ _))); have D2 := Lib.hid (blk_keep kbW (show W3.heap[w.heap.size + 1 + 1]? = some (.cells #[.int .i64 way, .int .i64 len] 31 (0, 0)) by rw [hW3, ← szW2]; exact heap_alloc_new _ _)); have D3 := Lib.hid (show W.heap[w.heap.size + 1 + 1 + 1]? = some (.cells #[.int .i64 0, .int .i64 0] 40 (0, 0)) by rw [hW, ← szW3]; exact heap_alloc_new _ _); have SZW := Lib.hid szW; clear szW1 kbW1 szW2 kbW2 szW3 kbW3 szW kbW
  have x0 := cell_of_blk D0.out 0; have x1 := cell_of_blk D0.out 1; have hz_x := (Array.getElem?_eq_some_iff.1 D0.out).1; simp at x0 x1
  have y0 := cell_of_blk D1.out 0; have hz_y := (Array.getElem?_eq_some_iff.1 D1.out).1; simp at y0
  have p0 := cell_of_blk D2.out 0; have p1 := cell_of_blk D2.out 1; have hz_p := (Array.getElem?_eq_some_iff.1 D2.out).1; simp at p0 p1
  go_enter Tryz.func61, Tryz.ntmps61
  go_wp2_with fail
  rw [← hW1, ← hW2, ← hW3, ← hW]; clear hW1 hW2 hW3 hW
  go_wp2_with fail
  refine (HSZ.out _ HB.out).mono ?_; rintro e w1 ⟨rfl, hb1⟩
  have HB1 := Lib.hid (below_more HB.out hb1)
  have D0 := Lib.hid (blk_keep hb1 D0.out)
  have D1 := Lib.hid (blk_keep hb1 D1.out)
  have D2 := Lib.hid (blk_keep hb1 D2.out)
  have D3 := Lib.hid (blk_keep hb1 D3.out)
  clear hb1 HSZ x0 x1 hz_x y0 hz_y p0 p1 hz_p
  go_wp2_with fail
  refine (rwhole_any 1 _).mono ?_; rintro e w2 ⟨rfl, hb2⟩
  have HB2 := Lib.hid (below_more HB1.out hb2)
  have D1 := Lib.hid (blk_keep hb2 D1.out)
  have D2 := Lib.hid (blk_keep hb2 D2.out)
  have D3 := Lib.hid (blk_keep hb2 D3.out)
  have HL3 := Lib.hid (Array.getElem?_eq_some_iff.1 D3.out).1
  clear hb2
  have v := HV.out.below HB2.out hbl
  have z0 := v.c0
  have hbr : b < w2.heap.size := by have := HB2.out.size; omega
  have hi0 : (0 : Int) ≤ (i : Int) := by omega
  have hiN : (i : Int) < (N : Int) := by omega
  dsimp only at z0 hG
  clear v
  have y0 := cell_of_blk D1.out 0; have hz_y := (Array.getElem?_eq_some_iff.1 D1.out).1; simp at y0
  go_upto_region 4 with fail
  obtain ⟨V3, hV3⟩ : ∃ V3, V3 = w2.alloc (.cells #[.int .i64 1, .int .i64 1] 40) := ⟨_, rfl⟩
  have k3 : Below w2.heap.size w2 V3 := hV3 ▸ below_alloc _ _
  have DS := Lib.hid (show V3.heap[w2.heap.size]? = some (.cells #[.int .i64 1, .int .i64 1] 40 (0, 0)) from hV3 ▸ heap_alloc_new _ _)
  have K3 := Lib.hid k3
  have D2' := Lib.hid (blk_keep k3 D2.out)
  rw [← hV3]
  clear hV3 k3 y0 hz_y z0 hbr hi0 hiN
  obtain ⟨G1, hG1⟩ : ∃ G, G = (true && decide (48 < p2)) := ⟨_, rfl⟩
  have HG1 := Lib.hid hG1
  clear hG1
  go_cut [44] (fun t wx => t = .bool G1 ∧ Hid (Below V3.heap.size V3 wx))
  case first =>
    have g0 := cell_of_blk D2'.out 0
    have g1 := cell_of_blk D2'.out 1
    have hz_g := (Array.getElem?_eq_some_iff.1 D2'.out).1
    simp at g0 g1
    have q0 := cell_of_blk DS.out 0; have q1 := cell_of_blk DS.out 1; have hz_q := (Array.getElem?_eq_some_iff.1 DS.out).1; simp at q0 q1
    by_cases h48 : 48 < p2
    · have d1 : decide (48 < p2) = true := decide_eq_true h48
      have HFP := Lib.hid (fun wx => HF.out p2 (by omega) wx)
      have HLP := Lib.hid (fun wx => HLS.out p2 48 (by omega) (by omega) wx)
      rw [HE48.out, d1] at HLP
      dsimp only at HLP
      obtain ⟨⟨h1, h2⟩, hh⟩ : ∃ f, f = fracR 48 p2 := ⟨_, rfl⟩
      rw [← hh] at HFP HLP
      dsimp only at HFP HLP
      clear hh
      refine wp_region_later (by kernel_rfl) (by kernel_rfl) ?_; (repeat (first | go_big_quiet_step ((first | ((go_at_call 104; exact Calls.later _ (HRW.out _))) | ((go_at_call 105; exact Calls.later _ (HFP.out _))) | ((go_at_call 84; exact Calls.later _ (HLP.out _))))) | quiet_step ((first | ((go_at_call 104; exact Calls.later _ (HRW.out _))) | ((go_at_call 105; exact Calls.later _ (HFP.out _))) | ((go_at_call 84; exact Calls.later _ (HLP.out _))))))); refine wpQuiet_nil ?_; rintro _ ⟨s, rfl⟩
      go_wp2_with fail
      go_meet
      exact ⟨by rw [HG1.out, d1]; rfl, Lib.hid s.below⟩
    · have d1 : decide (48 < p2) = false := decide_eq_false h48
      refine wp_region_later (by kernel_rfl) (by kernel_rfl) ?_; (repeat (first | go_big_quiet_step ((first | ((go_at_call 104; exact Calls.later _ (HRW.out _))))) | quiet_step ((first | ((go_at_call 104; exact Calls.later _ (HRW.out _))))))); refine wpQuiet_nil ?_; rintro _ ⟨s, rfl⟩
      go_wp2_with fail
      go_meet
      exact ⟨by rw [HG1.out, d1]; rfl, Lib.hid s.below⟩
  case rest =>
    obtain ⟨rfl, hbc⟩ := hcut
    have HBC := Lib.hid hbc.out
    have DS := Lib.hid (blk_keep HBC.out DS.out)
    have K3 := Lib.hid (K3.out.trans (HBC.out.mono K3.out.size))
    obtain ⟨w5, rfl⟩ : ∃ w5, w5 = wc := ⟨_, rfl⟩
    clear hbc HBC D2'
    go_upto_if 44 with fail
    go_cut [] (fun wx => Hid (wx.heap[w2.heap.size]? = some (.cells #[.int .i64 (fracR 48 l1).num, .int .i64 (fracR 48 l1).den] 40 (0, 0))) ∧ Hid (Below w2.heap.size w2 wx))
    case first =>
      cases G1
      case true =>
        have h48 : 48 < p2 := by have := HG1.out; simpa using this
        have d1 : decide (48 < p2) = true := decide_eq_true h48
        have he : l1 = p2 := by rw [HL1.out]; unfold lg1; rw [d1]; rfl
        clear HL1 d1
        go_wp2_with fail
        refine (HF.out p2 (by omega) _).mono ?_; rintro e w9 ⟨rfl, hb9⟩
        have DS9 := Lib.hid (blk_keep hb9 DS.out)
        have HB9 := Lib.hid hb9
        clear hb9
        obtain ⟨⟨h1, h2⟩, hh⟩ : ∃ f, f = fracR 48 p2 := ⟨_, rfl⟩
        rw [← hh]
        have q0 := cell_of_blk DS9.out 0; have qf0 := free_of_blk DS9.out 0; have q1 := cell_of_blk DS9.out 1; have qf1 := free_of_blk DS9.out 1; have hz_q := (Array.getElem?_eq_some_iff.1 DS9.out).1; simp at q0 q1
        go_wp2_with fail
        go_meet
        have e9 := heap_setCell_same _ w2.heap.size 1 (.int .i64 h2) _ _ (heap_setCell_same w9 w2.heap.size 0 (.int .i64 h1) _ _ DS9.out)
        exact ⟨Lib.hid (by rw [he, ← hh]; simpa using e9), Lib.hid (((K3.out.trans (HB9.out.mono K3.out.size)).setCell (Nat.le_refl _) _).setCell (Nat.le_refl _) _)⟩
      case false =>
        have h48 : ¬ 48 < p2 := by have := HG1.out; simpa using this
        have d1 : decide (48 < p2) = false := decide_eq_false h48
        have he : l1 = 48 := by rw [HL1.out]; unfold lg1; rw [d1]; rfl
        clear HL1 d1
        go_wp2_with fail
        go_meet
        exact ⟨Lib.hid (by rw [he, HE48.out]; exact DS.out), K3⟩
    case rest =>
      obtain ⟨hds, hk3⟩ := hcut
      have DS := Lib.hid hds.out
      have K3 := Lib.hid hk3.out
      obtain ⟨w6, rfl⟩ : ∃ w6, w6 = wc := ⟨_, rfl⟩
      clear hds hk3
      have D2 := Lib.hid (blk_keep K3.out D2.out)
      have D3 := Lib.hid (blk_keep K3.out D3.out)
      obtain ⟨⟨f1, f2⟩, hf⟩ : ∃ f, f = fracR 48 l1 := ⟨_, rfl⟩
      have HLS1 := Lib.hid (fun x hx wx => HLS.out x l1 hx hl1b wx)
      have HFF := Lib.hid hf
      rw [← hf] at DS HLS1
      dsimp only at DS HLS1
      clear hf
      go_upto_region 6 with fail
      obtain ⟨G2, hG2⟩ : ∃ G, G = (true && decide (48 < p1) && decide (l1 < p1)) := ⟨_, rfl⟩
      have HG2 := Lib.hid hG2
      clear hG2
      go_cut [63] (fun t wx => t = .bool G2 ∧ Hid (Below w6.heap.size w6 wx))
      case first =>
        have g0 := cell_of_blk D2.out 0
        have g1 := cell_of_blk D2.out 1
        have hz_g := (Array.getElem?_eq_some_iff.1 D2.out).1
        simp at g0 g1
        have q0 := cell_of_blk DS.out 0; have q1 := cell_of_blk DS.out 1; have hz_q := (Array.getElem?_eq_some_iff.1 DS.out).1; simp at q0 q1
        by_cases h48 : 48 < p1
        · have d1 : decide (48 < p1) = true := decide_eq_true h48
          have HFP := Lib.hid (fun wx => HF.out p1 (by omega) wx)
          have HLP := Lib.hid (fun wx => HLS1.out p1 (by omega) wx)
          obtain ⟨D, hD⟩ : ∃ D, D = decide (l1 < p1) := ⟨_, rfl⟩
          obtain ⟨⟨h1, h2⟩, hh⟩ : ∃ f, f = fracR 48 p1 := ⟨_, rfl⟩
          rw [← hh] at HFP HLP
          rw [← hD] at HLP
          have HGD := Lib.hid (show G2 = D by rw [HG2.out, d1, hD]; rfl)
          dsimp only at HFP HLP
          clear hh hD
          cases D
          all_goals (
          refine wp_region_later (by kernel_rfl) (by kernel_rfl) ?_; (repeat (first | go_big_quiet_step ((first | ((go_at_call 104; exact Calls.later _ (HRW.out _))) | ((go_at_call 105; exact Calls.later _ (HFP.out _))) | ((go_at_call 84; exact Calls.later _ (HLP.out _))))) | quiet_step ((first | ((go_at_call 104; exact Calls.later _ (HRW.out _))) | ((go_at_call 105; exact Calls.later _ (HFP.out _))) | ((go_at_call 84; exact Calls.later _ (HLP.out _))))))); refine wpQuiet_nil ?_; rintro _ ⟨s, rfl⟩
          go_wp2_with fail
          go_meet
          exact ⟨by rw [HGD.out], Lib.hid s.below⟩)
        · have d1 : decide (48 < p1) = false := decide_eq_false h48
          refine wp_region_later (by kernel_rfl) (by kernel_rfl) ?_; (repeat (first | go_big_quiet_step ((first | ((go_at_call 104; exact Calls.later _ (HRW.out _))))) | quiet_step ((first | ((go_at_call 104; exact Calls.later _ (HRW.out _))))))); refine wpQuiet_nil ?_; rintro _ ⟨s, rfl⟩
          go_wp2_with fail
          go_meet
          exact ⟨by rw [HG2.out, d1]; rfl, Lib.hid s.below⟩
      case rest =>
        obtain ⟨rfl, hbc⟩ := hcut
        have HBC := Lib.hid hbc.out
        have DS := Lib.hid (blk_keep HBC.out DS.out)
        have D3 := Lib.hid (blk_keep HBC.out D3.out)
        have HBF := Lib.hid (below_more (below_more HB2.out K3.out) HBC.out)
        obtain ⟨w7, rfl⟩ : ∃ w7, w7 = wc := ⟨_, rfl⟩
        have hw27 := Nat.le_trans K3.out.size HBC.out.size
        have hw02 := HB2.out.size
        clear hbc HBC D2
        go_upto_if 63 with fail
        go_cut [] (fun wx => Hid (wx.heap[w2.heap.size]? = some (.cells #[.int .i64 (fracR 48 l2).num, .int .i64 (fracR 48 l2).den] 40 (0, 0))) ∧ Hid (wx.heap[w.heap.size + 1 + 1 + 1]? = some (.cells #[.int .i64 0, .int .i64 0] 40 (0, 0))) ∧ Hid (Below w.heap.size w wx))
        case first =>
          cases G2
          case true =>
            have h48 : 48 < p1 ∧ l1 < p1 := by have := HG2.out; simpa using this
            have d1 : decide (48 < p1) = true := decide_eq_true h48.1
            have d2 : decide (l1 < p1) = true := decide_eq_true h48.2
            have he : l2 = p1 := by rw [HL2.out]; unfold lg2; rw [d1, d2]; rfl
            obtain ⟨h48a, h48b⟩ := h48
            clear HL2 d1 d2
            go_wp2_with fail
            refine (HF.out p1 (by omega) _).mono ?_; rintro e w9 ⟨rfl, hb9⟩
            have DS9 := Lib.hid (blk_keep hb9 DS.out)
            have HB9 := Lib.hid hb9
            clear hb9
            obtain ⟨⟨h1, h2⟩, hh⟩ : ∃ f, f = fracR 48 p1 := ⟨_, rfl⟩
            rw [← hh]
            have q0 := cell_of_blk DS9.out 0; have qf0 := free_of_blk DS9.out 0; have q1 := cell_of_blk DS9.out 1; have qf1 := free_of_blk DS9.out 1; have hz_q := (Array.getElem?_eq_some_iff.1 DS9.out).1; simp at q0 q1
            go_wp2_with fail
            go_meet
            have e9 := heap_setCell_same _ w2.heap.size 1 (.int .i64 h2) _ _ (heap_setCell_same w9 w2.heap.size 0 (.int .i64 h1) _ _ DS9.out)
            have hn3 : w.heap.size + 1 + 1 + 1 ≠ w2.heap.size := by have := HL3.out; omega
            exact ⟨Lib.hid (by rw [he, ← hh]; simpa using e9), Lib.hid ((heap_setCell_other _ _ _ _ hn3).trans ((heap_setCell_other _ _ _ _ hn3).trans (blk_keep HB9.out D3.out))), Lib.hid (((HBF.out.trans (HB9.out.mono HBF.out.size)).setCell hw02 _).setCell hw02 _)⟩
          case false =>
            have he : l2 = l1 := by
              rw [HL2.out]; unfold lg2
              have := HG2.out
              simp at this
              simp
              omega
            clear HL2
            go_wp2_with fail
            go_meet
            exact ⟨Lib.hid (by rw [he, ← HFF.out]; exact DS.out), D3, HBF⟩
        case rest =>
          obtain ⟨hds, hd3, hk⟩ := hcut
          have DS := Lib.hid hds.out
          have D3 := Lib.hid hd3.out
          have HBL := Lib.hid hk.out
          obtain ⟨w8, rfl⟩ : ∃ w8, w8 = wc := ⟨_, rfl⟩
          clear hds hd3 hk
          obtain ⟨⟨r1, r2⟩, hr⟩ : ∃ f, f = fracR 48 l2 := ⟨_, rfl⟩
          rw [← hr] at DS
          have HRR := Lib.hid hr.symm
          dsimp only at DS
          have q0 := cell_of_blk DS.out 0; have qf0 := free_of_blk DS.out 0; have q1 := cell_of_blk DS.out 1; have qf1 := free_of_blk DS.out 1; have hz_q := (Array.getElem?_eq_some_iff.1 DS.out).1; simp at q0 q1
          have p0 := cell_of_blk D3.out 0
          have pf0 := free_of_blk D3.out 0
          have p1' := cell_of_blk D3.out 1
          have pf1 := free_of_blk D3.out 1
          have hz_p := (Array.getElem?_eq_some_iff.1 D3.out).1
          simp at p0 p1'
          clear hr
          go_wp2_with fail
          refine bodyPost_ret (v := .agg #[.int .i64 r1, .int .i64 r2]) (by simp [results, Tryz.results61, go_sem, p0, p1']) rfl (gotF2 HRR.out ?_)
          exact (HBL.out.setCell (by dsimp only; omega) _).setCell (by dsimp only; omega) _
set_option maxRecDepth 100000 in
set_option maxHeartbeats 32000000 in
theorem rscaleCG_any (L : Lm) (way len : Int) (A : Option Addr) (cap : Nat) (zs : List Nd) (i : Nat) (u : Nd) (w : World) (hl : LmOk w L) (hn : NdsAt w A zs) (hp : Pln L.li zs) (hc1 : zs.length ≤ cap) (hc : cap ≤ maxLen) (hu : zs[i]? = some u) (hR : decide (way ≤ 2) = false) (hG : (u.kind == 5) = true) :
    Calls Tryz.prog 61 #[.agg #[.int .i64 L.per, .slice L.A L.ms.length L.cap], .agg #[.slice A zs.length cap], .agg #[.int .i64 way, .int .i64 len], .int .i64 i] w (GotF2 (sclR (cwN way) (shpI L.li (cwN way) zs 5 i)) w) := by
  have hud := (hp.full.depth u (List.mem_of_getElem? hu))
  have hkin := kind_in hp hu
  have hil := (List.getElem?_eq_some_iff.1 hu).1
  have h200 := (text_ok hp.ok).2.1
  have hbd := sh_bd (cwN way) hp 5 i u hu (by omega) (Nat.le_refl _)
  have hb5 := bndI_le 5 (by omega)
  have hcw : cwN way = !false := by
    unfold cwN
    rw [← hR]
    by_cases h : way ≤ 2 <;> simp [h] <;> omega
  have hsc := scl_is (s := shpI L.li (cwN way) zs 5 i) false hcw
  rw [isRng_at hu (by omega) 4, hG] at hsc
  rw [hsc]
  have HSZ := Lib.hid (fun wx (hb : Below w.heap.size w wx) => show Calls Tryz.prog 58 #[.agg #[.int .i64 L.per, .slice L.A L.ms.length L.cap], .agg #[.slice A zs.length cap], .agg #[.int .i64 way, .int .i64 len], .int .i64 i, .bool false] wx (fun e w' => e = .returned (.tuple #[.int .i64 (shpI L.li (cwN way) zs 5 i).size.1, .int .i64 (shpI L.li (cwN way) zs 5 i).size.2]) ∧ Below wx.heap.size wx w') by
    have := rsz_any L way len A cap zs hp hc1 hc 5 i u false wx hu (by omega) (Nat.le_refl _) (hl.below hb) (hn.below hb)
    rw [inI_false] at this; exact this)
  obtain ⟨b, o, rfl, hbl, hva⟩ := hn i u hu
  have HV := Lib.hid hva
  have HRW := Lib.hid (fun wx => show Calls Tryz.prog 104 #[.agg #[.int .i64 way, .int .i64 len]] wx (fun e w' => e = .returned (.bool false) ∧ Below wx.heap.size wx w') by
    have := rrows_any way len wx; rw [hR] at this; exact this)
  obtain ⟨⟨p1, p2⟩, hpp⟩ : ∃ p, p = (shpI L.li (cwN way) zs 5 i).size := ⟨_, rfl⟩
  rw [← hpp] at HSZ hbd ⊢
  dsimp only at HSZ hbd ⊢
  obtain ⟨-, ⟨b1, b2⟩, b3, b4⟩ := hbd
  have b2 : p1 ≤ 172084 := by omega
  have b4 : p2 ≤ 172084 := by omega
  obtain ⟨N, hN⟩ : ∃ N, N = zs.length := ⟨_, rfl⟩
  rw [← hN] at HSZ hc1 hil h200 ⊢
  unfold maxLen at hc
  obtain ⟨l1, hl1⟩ : ∃ l, l = lg1 false true p2 := ⟨_, rfl⟩
  obtain ⟨l2, hl2⟩ : ∃ l, l = lg2 false true l1 p1 := ⟨_, rfl⟩
  rw [← hl1, ← hl2]
  have HL1 := Lib.hid hl1
  have HL2 := Lib.hid hl2
  have hl1b : 48 ≤ l1 ∧ l1 ≤ 172084 := by rw [hl1]; unfold lg1; split <;> simp_all <;> omega
  have HF := Lib.hid (fun (x : Int) (hx : 48 ≤ x ∧ x ≤ 172084) wx => rfrac_any 48 x wx (by omega) (by omega))
  have HLS := Lib.hid (fun (x y : Int) (hx : 48 ≤ x ∧ x ≤ 172084) (hy : 48 ≤ y ∧ y ≤ 172084) wx => show Calls Tryz.prog 84 #[.agg #[.int .i64 (fracR 48 x).num, .int .i64 (fracR 48 x).den], .agg #[.int .i64 (fracR 48 y).num, .int .i64 (fracR 48 y).den]] wx (fun e w' => e = .returned (.bool (decide (y < x))) ∧ Below wx.heap.size wx w') by
    have h1 := fracR_bd (n := 48) (d := x) (by omega) (by omega)
    have h2 := fracR_bd (n := 48) (d := y) (by omega) (by omega)
    have m1 := Int.mul_nonneg h1.1.1 (show 0 ≤ (fracR 48 y).den by omega)
    have m2 := Int.mul_le_mul h1.1.2 (show (fracR 48 y).den ≤ 172084 by omega) (by omega) (by omega)
    have m3 := Int.mul_nonneg h2.1.1 (show 0 ≤ (fracR 48 x).den by omega)
    have m4 := Int.mul_le_mul h2.1.2 (show (fracR 48 x).den ≤ 172084 by omega) (by omega) (by omega)
    have := rless_any (fracR 48 x).num (fracR 48 x).den (fracR 48 y).num (fracR 48 y).den wx (by unfold smallI; omega) (by unfold smallI; omega)
    rw [show decide ((fracR 48 x).num * (fracR 48 y).den < (fracR 48 y).num * (fracR 48 x).den) = decide (y < x) from decide_eq_decide.2 (frac_lt (by omega) (by omega))] at this
    exact this)
  have e48 : fracR 48 48 = ⟨1, 1⟩ := frac_one
  have HE48 := Lib.hid e48
  clear hud hkin hp hsc hpp hcw hN hl1 hl2 hl hn hva hR hu e48 hb5
  obtain ⟨uk, ud, us, ut, um, ust, umn, umx⟩ := u
  obtain ⟨W1, hW1⟩ : ∃ W', W' = w.alloc (.cells #[.int .i64 L.per, .slice L.A L.ms.length L.cap] 24) := ⟨_, rfl⟩; obtain ⟨W2, hW2⟩ : ∃ W', W' = W1.alloc (.cells #[.slice (some ⟨b, o, none⟩) N cap] 27) := ⟨_, rfl⟩; obtain ⟨W3, hW3⟩ : ∃ W', W' = W2.alloc (.cells #[.int .i64 way, .int .i64 len] 31) := ⟨_, rfl⟩; obtain ⟨W, hW⟩ : ∃ W', W' = W3.alloc (.cells #[.int .i64 0, .int .i64 0] 40) := ⟨_, rfl⟩; have szW1 : W1.heap.size = w.heap.size + 1 := (by rw [hW1]; simp); have kbW1 : Below w.heap.size w W1 := hW1 ▸ below_alloc _ _; have szW2 : W2.heap.size = w.heap.size + 1 + 1 := (by rw [hW2]; simp [szW1]); have kbW2 : Below W1.heap.size W1 W2 := hW2 ▸ below_alloc _ _; have szW3 : W3.heap.size = w.heap.size + 1 + 1 + 1 := (by rw [hW3]; simp [szW2]); have kbW3 : Below W2.heap.size W2 W3 := hW3 ▸ below_alloc _ _; have szW : W.heap.size = w.heap.size + 1 + 1 + 1 + 1 := (by rw [hW]; simp [szW3]); have kbW : Below W3.heap.size W3 W := hW ▸ below_alloc _ _; have HB := Lib.hid (below_more (below_more (below_more kbW1 kbW2) kbW3) kbW); have D0 := Lib.hid (blk_keep kbW (blk_keep kbW3 (blk_keep kbW2 (show W1.heap[w.heap.size]? = some (.cells #[.int .i64 L.per, .slice L.A L.ms.length L.cap] 24 (0, 0)) by rw [hW1]; exact heap_alloc_new _ _)))); have D1 := Lib.hid (blk_keep kbW (blk_keep kbW3 (show W2.heap[w.heap.size + 1]? = some (.cells #[.slice (some ⟨b, o, none⟩) N cap] 27 (0, 0)) by rw [hW2, ← szW1]; exact heap_alloc_new _ _))); have D2 := Lib.hid (blk_keep kbW (show W3.heap[w.heap.size + 1 + 1]? = some (.cells #[.int .i64 way, .int .i64 len] 31 (0, 0)) by rw [hW3, ← szW2]; exact heap_alloc_new _ _)); have D3 := Lib.hid (show W.heap[w.heap.size + 1 + 1 + 1]? = some (.cells #[.int .i64 0, .int .i64 0] 40 (0, 0)) by rw [hW, ← szW3]; exact heap_alloc_new _ _); have SZW := Lib.hid szW; clear szW1 kbW1 szW2 kbW2 szW3 kbW3 szW kbW
  have x0 := cell_of_blk D0.out 0; have x1 := cell_of_blk D0.out 1; have hz_x := (Array.getElem?_eq_some_iff.1 D0.out).1; simp at x0 x1
  have y0 := cell_of_blk D1.out 0; have hz_y := (Array.getElem?_eq_some_iff.1 D1.out).1; simp at y0
  have p0 := cell_of_blk D2.out 0; have p1 := cell_of_blk D2.out 1; have hz_p := (Array.getElem?_eq_some_iff.1 D2.out).1; simp at p0 p1
  go_enter Tryz.func61, Tryz.ntmps61
  go_wp2_with fail
  rw [← hW1, ← hW2, ← hW3, ← hW]; clear hW1 hW2 hW3 hW
  go_wp2_with fail
  refine (HSZ.out _ HB.out).mono ?_; rintro e w1 ⟨rfl, hb1⟩
  have HB1 := Lib.hid (below_more HB.out hb1)
  have D0 := Lib.hid (blk_keep hb1 D0.out)
  have D1 := Lib.hid (blk_keep hb1 D1.out)
  have D2 := Lib.hid (blk_keep hb1 D2.out)
  have D3 := Lib.hid (blk_keep hb1 D3.out)
  clear hb1 HSZ x0 x1 hz_x y0 hz_y p0 p1 hz_p
  go_wp2_with fail
  refine (rwhole_any 1 _).mono ?_; rintro e w2 ⟨rfl, hb2⟩
  have HB2 := Lib.hid (below_more HB1.out hb2)
  have D1 := Lib.hid (blk_keep hb2 D1.out)
  have D2 := Lib.hid (blk_keep hb2 D2.out)
  have D3 := Lib.hid (blk_keep hb2 D3.out)
  have HL3 := Lib.hid (Array.getElem?_eq_some_iff.1 D3.out).1
  clear hb2
  have v := HV.out.below HB2.out hbl
  have z0 := v.c0
  have hbr : b < w2.heap.size := by have := HB2.out.size; omega
  have hi0 : (0 : Int) ≤ (i : Int) := by omega
  have hiN : (i : Int) < (N : Int) := by omega
  dsimp only at z0 hG
  clear v
  have y0 := cell_of_blk D1.out 0; have hz_y := (Array.getElem?_eq_some_iff.1 D1.out).1; simp at y0
  go_upto_region 4 with fail
  obtain ⟨V3, hV3⟩ : ∃ V3, V3 = w2.alloc (.cells #[.int .i64 1, .int .i64 1] 40) := ⟨_, rfl⟩
  have k3 : Below w2.heap.size w2 V3 := hV3 ▸ below_alloc _ _
  have DS := Lib.hid (show V3.heap[w2.heap.size]? = some (.cells #[.int .i64 1, .int .i64 1] 40 (0, 0)) from hV3 ▸ heap_alloc_new _ _)
  have K3 := Lib.hid k3
  have D2' := Lib.hid (blk_keep k3 D2.out)
  rw [← hV3]
  clear hV3 k3 y0 hz_y z0 hbr hi0 hiN
  obtain ⟨G1, hG1⟩ : ∃ G, G = (false && decide (48 < p2)) := ⟨_, rfl⟩
  have HG1 := Lib.hid hG1
  clear hG1
  go_cut [44] (fun t wx => t = .bool G1 ∧ Hid (Below V3.heap.size V3 wx))
  case first =>
    have g0 := cell_of_blk D2'.out 0
    have g1 := cell_of_blk D2'.out 1
    have hz_g := (Array.getElem?_eq_some_iff.1 D2'.out).1
    simp at g0 g1
    have q0 := cell_of_blk DS.out 0; have q1 := cell_of_blk DS.out 1; have hz_q := (Array.getElem?_eq_some_iff.1 DS.out).1; simp at q0 q1
    refine wp_region_later (by kernel_rfl) (by kernel_rfl) ?_; (repeat (first | go_big_quiet_step ((first | ((go_at_call 104; exact Calls.later _ (HRW.out _))))) | quiet_step ((first | ((go_at_call 104; exact Calls.later _ (HRW.out _))))))); refine wpQuiet_nil ?_; rintro _ ⟨s, rfl⟩
    go_wp2_with fail
    go_meet
    exact ⟨by rw [HG1.out]; rfl, Lib.hid s.below⟩
  case rest =>
    obtain ⟨rfl, hbc⟩ := hcut
    have HBC := Lib.hid hbc.out
    have DS := Lib.hid (blk_keep HBC.out DS.out)
    have K3 := Lib.hid (K3.out.trans (HBC.out.mono K3.out.size))
    obtain ⟨w5, rfl⟩ : ∃ w5, w5 = wc := ⟨_, rfl⟩
    clear hbc HBC D2'
    go_upto_if 44 with fail
    go_cut [] (fun wx => Hid (wx.heap[w2.heap.size]? = some (.cells #[.int .i64 (fracR 48 l1).num, .int .i64 (fracR 48 l1).den] 40 (0, 0))) ∧ Hid (Below w2.heap.size w2 wx))
    case first =>
      have he : l1 = 48 := by rw [HL1.out]; rfl
      obtain rfl : G1 = false := HG1.out
      go_wp2_with fail
      go_meet
      exact ⟨Lib.hid (by rw [he, HE48.out]; exact DS.out), K3⟩
    case rest =>
      obtain ⟨hds, hk3⟩ := hcut
      have DS := Lib.hid hds.out
      have K3 := Lib.hid hk3.out
      obtain ⟨w6, rfl⟩ : ∃ w6, w6 = wc := ⟨_, rfl⟩
      clear hds hk3
      have D2 := Lib.hid (blk_keep K3.out D2.out)
      have D3 := Lib.hid (blk_keep K3.out D3.out)
      obtain ⟨⟨f1, f2⟩, hf⟩ : ∃ f, f = fracR 48 l1 := ⟨_, rfl⟩
      have HLS1 := Lib.hid (fun x hx wx => HLS.out x l1 hx hl1b wx)
      have HFF := Lib.hid hf
      rw [← hf] at DS HLS1
      dsimp only at DS HLS1
      clear hf
      go_upto_region 6 with fail
      obtain ⟨G2, hG2⟩ : ∃ G, G = (true && decide (48 < p1) && decide (l1 < p1)) := ⟨_, rfl⟩
      have HG2 := Lib.hid hG2
      clear hG2
      go_cut [63] (fun t wx => t = .bool G2 ∧ Hid (Below w6.heap.size w6 wx))
      case first =>
        have g0 := cell_of_blk D2.out 0
        have g1 := cell_of_blk D2.out 1
        have hz_g := (Array.getElem?_eq_some_iff.1 D2.out).1
        simp at g0 g1
        have q0 := cell_of_blk DS.out 0; have q1 := cell_of_blk DS.out 1; have hz_q := (Array.getElem?_eq_some_iff.1 DS.out).1; simp at q0 q1
        by_cases h48 : 48 < p1
        · have d1 : decide (48 < p1) = true := decide_eq_true h48
          have HFP := Lib.hid (fun wx => HF.out p1 (by omega) wx)
          have HLP := Lib.hid (fun wx => HLS1.out p1 (by omega) wx)
          obtain ⟨D, hD⟩ : ∃ D, D = decide (l1 < p1) := ⟨_, rfl⟩
          obtain ⟨⟨h1, h2⟩, hh⟩ : ∃ f, f = fracR 48 p1 := ⟨_, rfl⟩
          rw [← hh] at HFP HLP
          rw [← hD] at HLP
          have HGD := Lib.hid (show G2 = D by rw [HG2.out, d1, hD]; rfl)
          dsimp only at HFP HLP
          clear hh hD
          cases D
          all_goals (
          refine wp_region_later (by kernel_rfl) (by kernel_rfl) ?_; (repeat (first | go_big_quiet_step ((first | ((go_at_call 104; exact Calls.later _ (HRW.out _))) | ((go_at_call 105; exact Calls.later _ (HFP.out _))) | ((go_at_call 84; exact Calls.later _ (HLP.out _))))) | quiet_step ((first | ((go_at_call 104; exact Calls.later _ (HRW.out _))) | ((go_at_call 105; exact Calls.later _ (HFP.out _))) | ((go_at_call 84; exact Calls.later _ (HLP.out _))))))); refine wpQuiet_nil ?_; rintro _ ⟨s, rfl⟩
          go_wp2_with fail
          go_meet
          exact ⟨by rw [HGD.out], Lib.hid s.below⟩)
        · have d1 : decide (48 < p1) = false := decide_eq_false h48
          refine wp_region_later (by kernel_rfl) (by kernel_rfl) ?_; (repeat (first | go_big_quiet_step ((first | ((go_at_call 104; exact Calls.later _ (HRW.out _))))) | quiet_step ((first | ((go_at_call 104; exact Calls.later _ (HRW.out _))))))); refine wpQuiet_nil ?_; rintro _ ⟨s, rfl⟩
          go_wp2_with fail
          go_meet
          exact ⟨by rw [HG2.out, d1]; rfl, Lib.hid s.below⟩
      case rest =>
        obtain ⟨rfl, hbc⟩ := hcut
        have HBC := Lib.hid hbc.out
        have DS := Lib.hid (blk_keep HBC.out DS.out)
        have D3 := Lib.hid (blk_keep HBC.out D3.out)
        have HBF := Lib.hid (below_more (below_more HB2.out K3.out) HBC.out)
        obtain ⟨w7, rfl⟩ : ∃ w7, w7 = wc := ⟨_, rfl⟩
        have hw27 := Nat.le_trans K3.out.size HBC.out.size
        have hw02 := HB2.out.size
        clear hbc HBC D2
        go_upto_if 63 with fail
        go_cut [] (fun wx => Hid (wx.heap[w2.heap.size]? = some (.cells #[.int .i64 (fracR 48 l2).num, .int .i64 (fracR 48 l2).den] 40 (0, 0))) ∧ Hid (wx.heap[w.heap.size + 1 + 1 + 1]? = some (.cells #[.int .i64 0, .int .i64 0] 40 (0, 0))) ∧ Hid (Below w.heap.size w wx))
        case first =>
          cases G2
          case true =>
            have h48 : 48 < p1 ∧ l1 < p1 := by have := HG2.out; simpa using this
            have d1 : decide (48 < p1) = true := decide_eq_true h48.1
            have d2 : decide (l1 < p1) = true := decide_eq_true h48.2
            have he : l2 = p1 := by rw [HL2.out]; unfold lg2; rw [d1, d2]; rfl
            obtain ⟨h48a, h48b⟩ := h48
            clear HL2 d1 d2
            go_wp2_with fail
            refine (HF.out p1 (by omega) _).mono ?_; rintro e w9 ⟨rfl, hb9⟩
            have DS9 := Lib.hid (blk_keep hb9 DS.out)
            have HB9 := Lib.hid hb9
            clear hb9
            obtain ⟨⟨h1, h2⟩, hh⟩ : ∃ f, f = fracR 48 p1 := ⟨_, rfl⟩
            rw [← hh]
            have q0 := cell_of_blk DS9.out 0; have qf0 := free_of_blk DS9.out 0; have q1 := cell_of_blk DS9.out 1; have qf1 := free_of_blk DS9.out 1; have hz_q := (Array.getElem?_eq_some_iff.1 DS9.out).1; simp at q0 q1
            go_wp2_with fail
            go_meet
            have e9 := heap_setCell_same _ w2.heap.size 1 (.int .i64 h2) _ _ (heap_setCell_same w9 w2.heap.size 0 (.int .i64 h1) _ _ DS9.out)
            have hn3 : w.heap.size + 1 + 1 + 1 ≠ w2.heap.size := by have := HL3.out; omega
            exact ⟨Lib.hid (by rw [he, ← hh]; simpa using e9), Lib.hid ((heap_setCell_other _ _ _ _ hn3).trans ((heap_setCell_other _ _ _ _ hn3).trans (blk_keep HB9.out D3.out))), Lib.hid (((HBF.out.trans (HB9.out.mono HBF.out.size)).setCell hw02 _).setCell hw02 _)⟩
          case false =>
            have he : l2 = l1 := by
              rw [HL2.out]; unfold lg2
              have := HG2.out
              simp at this
              simp
              omega
            clear HL2
            go_wp2_with fail
            go_meet
            exact ⟨Lib.hid (by rw [he, ← HFF.out]; exact DS.out), D3, HBF⟩
        case rest =>
          obtain ⟨hds, hd3, hk⟩ := hcut
          have DS := Lib.hid hds.out
          have D3 := Lib.hid hd3.out
          have HBL := Lib.hid hk.out
          obtain ⟨w8, rfl⟩ : ∃ w8, w8 = wc := ⟨_, rfl⟩
          clear hds hd3 hk
          obtain ⟨⟨r1, r2⟩, hr⟩ : ∃ f, f = fracR 48 l2 := ⟨_, rfl⟩
          rw [← hr] at DS
          have HRR := Lib.hid hr.symm
          dsimp only at DS
          have q0 := cell_of_blk DS.out 0; have qf0 := free_of_blk DS.out 0; have q1 := cell_of_blk DS.out 1; have qf1 := free_of_blk DS.out 1; have hz_q := (Array.getElem?_eq_some_iff.1 DS.out).1; simp at q0 q1
          have p0 := cell_of_blk D3.out 0
          have pf0 := free_of_blk D3.out 0
          have p1' := cell_of_blk D3.out 1
          have pf1 := free_of_blk D3.out 1
          have hz_p := (Array.getElem?_eq_some_iff.1 D3.out).1
          simp at p0 p1'
          clear hr
          go_wp2_with fail
          refine bodyPost_ret (v := .agg #[.int .i64 r1, .int .i64 r2]) (by simp [results, Tryz.results61, go_sem, p0, p1']) rfl (gotF2 HRR.out ?_)
          exact (HBL.out.setCell (by dsimp only; omega) _).setCell (by dsimp only; omega) _
set_option maxRecDepth 100000 in
set_option maxHeartbeats 32000000 in
theorem rscaleCN_any (L : Lm) (way len : Int) (A : Option Addr) (cap : Nat) (zs : List Nd) (i : Nat) (u : Nd) (w : World) (hl : LmOk w L) (hn : NdsAt w A zs) (hp : Pln L.li zs) (hc1 : zs.length ≤ cap) (hc : cap ≤ maxLen) (hu : zs[i]? = some u) (hR : decide (way ≤ 2) = false) (hG : (u.kind == 5) = false) :
    Calls Tryz.prog 61 #[.agg #[.int .i64 L.per, .slice L.A L.ms.length L.cap], .agg #[.slice A zs.length cap], .agg #[.int .i64 way, .int .i64 len], .int .i64 i] w (GotF2 (sclR (cwN way) (shpI L.li (cwN way) zs 5 i)) w) := by
  have hud := (hp.full.depth u (List.mem_of_getElem? hu))
  have hkin := kind_in hp hu
  have hil := (List.getElem?_eq_some_iff.1 hu).1
  have h200 := (text_ok hp.ok).2.1
  have hbd := sh_bd (cwN way) hp 5 i u hu (by omega) (Nat.le_refl _)
  have hb5 := bndI_le 5 (by omega)
  have hcw : cwN way = !false := by
    unfold cwN
    rw [← hR]
    by_cases h : way ≤ 2 <;> simp [h] <;> omega
  have hsc := scl_is (s := shpI L.li (cwN way) zs 5 i) false hcw
  rw [isRng_at hu (by omega) 4, hG] at hsc
  rw [hsc]
  have HSZ := Lib.hid (fun wx (hb : Below w.heap.size w wx) => show Calls Tryz.prog 58 #[.agg #[.int .i64 L.per, .slice L.A L.ms.length L.cap], .agg #[.slice A zs.length cap], .agg #[.int .i64 way, .int .i64 len], .int .i64 i, .bool false] wx (fun e w' => e = .returned (.tuple #[.int .i64 (shpI L.li (cwN way) zs 5 i).size.1, .int .i64 (shpI L.li (cwN way) zs 5 i).size.2]) ∧ Below wx.heap.size wx w') by
    have := rsz_any L way len A cap zs hp hc1 hc 5 i u false wx hu (by omega) (Nat.le_refl _) (hl.below hb) (hn.below hb)
    rw [inI_false] at this; exact this)
  obtain ⟨b, o, rfl, hbl, hva⟩ := hn i u hu
  have HV := Lib.hid hva
  have HRW := Lib.hid (fun wx => show Calls Tryz.prog 104 #[.agg #[.int .i64 way, .int .i64 len]] wx (fun e w' => e = .returned (.bool false) ∧ Below wx.heap.size wx w') by
    have := rrows_any way len wx; rw [hR] at this; exact this)
  obtain ⟨⟨p1, p2⟩, hpp⟩ : ∃ p, p = (shpI L.li (cwN way) zs 5 i).size := ⟨_, rfl⟩
  rw [← hpp] at HSZ hbd ⊢
  dsimp only at HSZ hbd ⊢
  obtain ⟨-, ⟨b1, b2⟩, b3, b4⟩ := hbd
  have b2 : p1 ≤ 172084 := by omega
  have b4 : p2 ≤ 172084 := by omega
  obtain ⟨N, hN⟩ : ∃ N, N = zs.length := ⟨_, rfl⟩
  rw [← hN] at HSZ hc1 hil h200 ⊢
  unfold maxLen at hc
  obtain ⟨l1, hl1⟩ : ∃ l, l = lg1 false false p2 := ⟨_, rfl⟩
  obtain ⟨l2, hl2⟩ : ∃ l, l = lg2 false false l1 p1 := ⟨_, rfl⟩
  rw [← hl1, ← hl2]
  have HL1 := Lib.hid hl1
  have HL2 := Lib.hid hl2
  have hl1b : 48 ≤ l1 ∧ l1 ≤ 172084 := by rw [hl1]; unfold lg1; split <;> simp_all <;> omega
  have HF := Lib.hid (fun (x : Int) (hx : 48 ≤ x ∧ x ≤ 172084) wx => rfrac_any 48 x wx (by omega) (by omega))
  have HLS := Lib.hid (fun (x y : Int) (hx : 48 ≤ x ∧ x ≤ 172084) (hy : 48 ≤ y ∧ y ≤ 172084) wx => show Calls Tryz.prog 84 #[.agg #[.int .i64 (fracR 48 x).num, .int .i64 (fracR 48 x).den], .agg #[.int .i64 (fracR 48 y).num, .int .i64 (fracR 48 y).den]] wx (fun e w' => e = .returned (.bool (decide (y < x))) ∧ Below wx.heap.size wx w') by
    have h1 := fracR_bd (n := 48) (d := x) (by omega) (by omega)
    have h2 := fracR_bd (n := 48) (d := y) (by omega) (by omega)
    have m1 := Int.mul_nonneg h1.1.1 (show 0 ≤ (fracR 48 y).den by omega)
    have m2 := Int.mul_le_mul h1.1.2 (show (fracR 48 y).den ≤ 172084 by omega) (by omega) (by omega)
    have m3 := Int.mul_nonneg h2.1.1 (show 0 ≤ (fracR 48 x).den by omega)
    have m4 := Int.mul_le_mul h2.1.2 (show (fracR 48 x).den ≤ 172084 by omega) (by omega) (by omega)
    have := rless_any (fracR 48 x).num (fracR 48 x).den (fracR 48 y).num (fracR 48 y).den wx (by unfold smallI; omega) (by unfold smallI; omega)
    rw [show decide ((fracR 48 x).num * (fracR 48 y).den < (fracR 48 y).num * (fracR 48 x).den) = decide (y < x) from decide_eq_decide.2 (frac_lt (by omega) (by omega))] at this
    exact this)
  have e48 : fracR 48 48 = ⟨1, 1⟩ := frac_one
  have HE48 := Lib.hid e48
  clear hud hkin hp hsc hpp hcw hN hl1 hl2 hl hn hva hR hu e48 hb5
  obtain ⟨uk, ud, us, ut, um, ust, umn, umx⟩ := u
  obtain ⟨W1, hW1⟩ : ∃ W', W' = w.alloc (.cells #[.int .i64 L.per, .slice L.A L.ms.length L.cap] 24) := ⟨_, rfl⟩; obtain ⟨W2, hW2⟩ : ∃ W', W' = W1.alloc (.cells #[.slice (some ⟨b, o, none⟩) N cap] 27) := ⟨_, rfl⟩; obtain ⟨W3, hW3⟩ : ∃ W', W' = W2.alloc (.cells #[.int .i64 way, .int .i64 len] 31) := ⟨_, rfl⟩; obtain ⟨W, hW⟩ : ∃ W', W' = W3.alloc (.cells #[.int .i64 0, .int .i64 0] 40) := ⟨_, rfl⟩; have szW1 : W1.heap.size = w.heap.size + 1 := (by rw [hW1]; simp); have kbW1 : Below w.heap.size w W1 := hW1 ▸ below_alloc _ _; have szW2 : W2.heap.size = w.heap.size + 1 + 1 := (by rw [hW2]; simp [szW1]); have kbW2 : Below W1.heap.size W1 W2 := hW2 ▸ below_alloc _ _; have szW3 : W3.heap.size = w.heap.size + 1 + 1 + 1 := (by rw [hW3]; simp [szW2]); have kbW3 : Below W2.heap.size W2 W3 := hW3 ▸ below_alloc _ _; have szW : W.heap.size = w.heap.size + 1 + 1 + 1 + 1 := (by rw [hW]; simp [szW3]); have kbW : Below W3.heap.size W3 W := hW ▸ below_alloc _ _; have HB := Lib.hid (below_more (below_more (below_more kbW1 kbW2) kbW3) kbW); have D0 := Lib.hid (blk_keep kbW (blk_keep kbW3 (blk_keep kbW2 (show W1.heap[w.heap.size]? = some (.cells #[.int .i64 L.per, .slice L.A L.ms.length L.cap] 24 (0, 0)) by rw [hW1]; exact heap_alloc_new _ _)))); have D1 := Lib.hid (blk_keep kbW (blk_keep kbW3 (show W2.heap[w.heap.size + 1]? = some (.cells #[.slice (some ⟨b, o, none⟩) N cap] 27 (0, 0)) by rw [hW2, ← szW1]; exact heap_alloc_new _ _))); have D2 := Lib.hid (blk_keep kbW (show W3.heap[w.heap.size + 1 + 1]? = some (.cells #[.int .i64 way, .int .i64 len] 31 (0, 0)) by rw [hW3, ← szW2]; exact heap_alloc_new _ _)); have D3 := Lib.hid (show W.heap[w.heap.size + 1 + 1 + 1]? = some (.cells #[.int .i64 0, .int .i64 0] 40 (0, 0)) by rw [hW, ← szW3]; exact heap_alloc_new _ _); have SZW := Lib.hid szW; clear szW1 kbW1 szW2 kbW2 szW3 kbW3 szW kbW
  have x0 := cell_of_blk D0.out 0; have x1 := cell_of_blk D0.out 1; have hz_x := (Array.getElem?_eq_some_iff.1 D0.out).1; simp at x0 x1
  have y0 := cell_of_blk D1.out 0; have hz_y := (Array.getElem?_eq_some_iff.1 D1.out).1; simp at y0
  have p0 := cell_of_blk D2.out 0; have p1 := cell_of_blk D2.out 1; have hz_p := (Array.getElem?_eq_some_iff.1 D2.out).1; simp at p0 p1
  go_enter Tryz.func61, Tryz.ntmps61
  go_wp2_with fail
  rw [← hW1, ← hW2, ← hW3, ← hW]; clear hW1 hW2 hW3 hW
  go_wp2_with fail
  refine (HSZ.out _ HB.out).mono ?_; rintro e w1 ⟨rfl, hb1⟩
  have HB1 := Lib.hid (below_more HB.out hb1)
  have D0 := Lib.hid (blk_keep hb1 D0.out)
  have D1 := Lib.hid (blk_keep hb1 D1.out)
  have D2 := Lib.hid (blk_keep hb1 D2.out)
  have D3 := Lib.hid (blk_keep hb1 D3.out)
  clear hb1 HSZ x0 x1 hz_x y0 hz_y p0 p1 hz_p
  go_wp2_with fail
  refine (rwhole_any 1 _).mono ?_; rintro e w2 ⟨rfl, hb2⟩
  have HB2 := Lib.hid (below_more HB1.out hb2)
  have D1 := Lib.hid (blk_keep hb2 D1.out)
  have D2 := Lib.hid (blk_keep hb2 D2.out)
  have D3 := Lib.hid (blk_keep hb2 D3.out)
  have HL3 := Lib.hid (Array.getElem?_eq_some_iff.1 D3.out).1
  clear hb2
  have v := HV.out.below HB2.out hbl
  have z0 := v.c0
  have hbr : b < w2.heap.size := by have := HB2.out.size; omega
  have hi0 : (0 : Int) ≤ (i : Int) := by omega
  have hiN : (i : Int) < (N : Int) := by omega
  dsimp only at z0 hG
  clear v
  have y0 := cell_of_blk D1.out 0; have hz_y := (Array.getElem?_eq_some_iff.1 D1.out).1; simp at y0
  go_upto_region 4 with fail
  obtain ⟨V3, hV3⟩ : ∃ V3, V3 = w2.alloc (.cells #[.int .i64 1, .int .i64 1] 40) := ⟨_, rfl⟩
  have k3 : Below w2.heap.size w2 V3 := hV3 ▸ below_alloc _ _
  have DS := Lib.hid (show V3.heap[w2.heap.size]? = some (.cells #[.int .i64 1, .int .i64 1] 40 (0, 0)) from hV3 ▸ heap_alloc_new _ _)
  have K3 := Lib.hid k3
  have D2' := Lib.hid (blk_keep k3 D2.out)
  rw [← hV3]
  clear hV3 k3 y0 hz_y z0 hbr hi0 hiN
  obtain ⟨G1, hG1⟩ : ∃ G, G = (true && decide (48 < p2)) := ⟨_, rfl⟩
  have HG1 := Lib.hid hG1
  clear hG1
  go_cut [44] (fun t wx => t = .bool G1 ∧ Hid (Below V3.heap.size V3 wx))
  case first =>
    have g0 := cell_of_blk D2'.out 0
    have g1 := cell_of_blk D2'.out 1
    have hz_g := (Array.getElem?_eq_some_iff.1 D2'.out).1
    simp at g0 g1
    have q0 := cell_of_blk DS.out 0; have q1 := cell_of_blk DS.out 1; have hz_q := (Array.getElem?_eq_some_iff.1 DS.out).1; simp at q0 q1
    by_cases h48 : 48 < p2
    · have d1 : decide (48 < p2) = true := decide_eq_true h48
      have HFP := Lib.hid (fun wx => HF.out p2 (by omega) wx)
      have HLP := Lib.hid (fun wx => HLS.out p2 48 (by omega) (by omega) wx)
      rw [HE48.out, d1] at HLP
      dsimp only at HLP
      obtain ⟨⟨h1, h2⟩, hh⟩ : ∃ f, f = fracR 48 p2 := ⟨_, rfl⟩
      rw [← hh] at HFP HLP
      dsimp only at HFP HLP
      clear hh
      refine wp_region_later (by kernel_rfl) (by kernel_rfl) ?_; (repeat (first | go_big_quiet_step ((first | ((go_at_call 104; exact Calls.later _ (HRW.out _))) | ((go_at_call 105; exact Calls.later _ (HFP.out _))) | ((go_at_call 84; exact Calls.later _ (HLP.out _))))) | quiet_step ((first | ((go_at_call 104; exact Calls.later _ (HRW.out _))) | ((go_at_call 105; exact Calls.later _ (HFP.out _))) | ((go_at_call 84; exact Calls.later _ (HLP.out _))))))); refine wpQuiet_nil ?_; rintro _ ⟨s, rfl⟩
      go_wp2_with fail
      go_meet
      exact ⟨by rw [HG1.out, d1]; rfl, Lib.hid s.below⟩
    · have d1 : decide (48 < p2) = false := decide_eq_false h48
      refine wp_region_later (by kernel_rfl) (by kernel_rfl) ?_; (repeat (first | go_big_quiet_step ((first | ((go_at_call 104; exact Calls.later _ (HRW.out _))))) | quiet_step ((first | ((go_at_call 104; exact Calls.later _ (HRW.out _))))))); refine wpQuiet_nil ?_; rintro _ ⟨s, rfl⟩
      go_wp2_with fail
      go_meet
      exact ⟨by rw [HG1.out, d1]; rfl, Lib.hid s.below⟩
  case rest =>
    obtain ⟨rfl, hbc⟩ := hcut
    have HBC := Lib.hid hbc.out
    have DS := Lib.hid (blk_keep HBC.out DS.out)
    have K3 := Lib.hid (K3.out.trans (HBC.out.mono K3.out.size))
    obtain ⟨w5, rfl⟩ : ∃ w5, w5 = wc := ⟨_, rfl⟩
    clear hbc HBC D2'
    go_upto_if 44 with fail
    go_cut [] (fun wx => Hid (wx.heap[w2.heap.size]? = some (.cells #[.int .i64 (fracR 48 l1).num, .int .i64 (fracR 48 l1).den] 40 (0, 0))) ∧ Hid (Below w2.heap.size w2 wx))
    case first =>
      cases G1
      case true =>
        have h48 : 48 < p2 := by have := HG1.out; simpa using this
        have d1 : decide (48 < p2) = true := decide_eq_true h48
        have he : l1 = p2 := by rw [HL1.out]; unfold lg1; rw [d1]; rfl
        clear HL1 d1
        go_wp2_with fail
        refine (HF.out p2 (by omega) _).mono ?_; rintro e w9 ⟨rfl, hb9⟩
        have DS9 := Lib.hid (blk_keep hb9 DS.out)
        have HB9 := Lib.hid hb9
        clear hb9
        obtain ⟨⟨h1, h2⟩, hh⟩ : ∃ f, f = fracR 48 p2 := ⟨_, rfl⟩
        rw [← hh]
        have q0 := cell_of_blk DS9.out 0; have qf0 := free_of_blk DS9.out 0; have q1 := cell_of_blk DS9.out 1; have qf1 := free_of_blk DS9.out 1; have hz_q := (Array.getElem?_eq_some_iff.1 DS9.out).1; simp at q0 q1
        go_wp2_with fail
        go_meet
        have e9 := heap_setCell_same _ w2.heap.size 1 (.int .i64 h2) _ _ (heap_setCell_same w9 w2.heap.size 0 (.int .i64 h1) _ _ DS9.out)
        exact ⟨Lib.hid (by rw [he, ← hh]; simpa using e9), Lib.hid (((K3.out.trans (HB9.out.mono K3.out.size)).setCell (Nat.le_refl _) _).setCell (Nat.le_refl _) _)⟩
      case false =>
        have h48 : ¬ 48 < p2 := by have := HG1.out; simpa using this
        have d1 : decide (48 < p2) = false := decide_eq_false h48
        have he : l1 = 48 := by rw [HL1.out]; unfold lg1; rw [d1]; rfl
        clear HL1 d1
        go_wp2_with fail
        go_meet
        exact ⟨Lib.hid (by rw [he, HE48.out]; exact DS.out), K3⟩
    case rest =>
      obtain ⟨hds, hk3⟩ := hcut
      have DS := Lib.hid hds.out
      have K3 := Lib.hid hk3.out
      obtain ⟨w6, rfl⟩ : ∃ w6, w6 = wc := ⟨_, rfl⟩
      clear hds hk3
      have D2 := Lib.hid (blk_keep K3.out D2.out)
      have D3 := Lib.hid (blk_keep K3.out D3.out)
      obtain ⟨⟨f1, f2⟩, hf⟩ : ∃ f, f = fracR 48 l1 := ⟨_, rfl⟩
      have HLS1 := Lib.hid (fun x hx wx => HLS.out x l1 hx hl1b wx)
      have HFF := Lib.hid hf
      rw [← hf] at DS HLS1
      dsimp only at DS HLS1
      clear hf
      go_upto_region 6 with fail
      obtain ⟨G2, hG2⟩ : ∃ G, G = (true && decide (48 < p1) && decide (l1 < p1)) := ⟨_, rfl⟩
      have HG2 := Lib.hid hG2
      clear hG2
      go_cut [63] (fun t wx => t = .bool G2 ∧ Hid (Below w6.heap.size w6 wx))
      case first =>
        have g0 := cell_of_blk D2.out 0
        have g1 := cell_of_blk D2.out 1
        have hz_g := (Array.getElem?_eq_some_iff.1 D2.out).1
        simp at g0 g1
        have q0 := cell_of_blk DS.out 0; have q1 := cell_of_blk DS.out 1; have hz_q := (Array.getElem?_eq_some_iff.1 DS.out).1; simp at q0 q1
        by_cases h48 : 48 < p1
        · have d1 : decide (48 < p1) = true := decide_eq_true h48
          have HFP := Lib.hid (fun wx => HF.out p1 (by omega) wx)
          have HLP := Lib.hid (fun wx => HLS1.out p1 (by omega) wx)
          obtain ⟨D, hD⟩ : ∃ D, D = decide (l1 < p1) := ⟨_, rfl⟩
          obtain ⟨⟨h1, h2⟩, hh⟩ : ∃ f, f = fracR 48 p1 := ⟨_, rfl⟩
          rw [← hh] at HFP HLP
          rw [← hD] at HLP
          have HGD := Lib.hid (show G2 = D by rw [HG2.out, d1, hD]; rfl)
          dsimp only at HFP HLP
          clear hh hD
          cases D
          all_goals (
          refine wp_region_later (by kernel_rfl) (by kernel_rfl) ?_; (repeat (first | go_big_quiet_step ((first | ((go_at_call 104; exact Calls.later _ (HRW.out _))) | ((go_at_call 105; exact Calls.later _ (HFP.out _))) | ((go_at_call 84; exact Calls.later _ (HLP.out _))))) | quiet_step ((first | ((go_at_call 104; exact Calls.later _ (HRW.out _))) | ((go_at_call 105; exact Calls.later _ (HFP.out _))) | ((go_at_call 84; exact Calls.later _ (HLP.out _))))))); refine wpQuiet_nil ?_; rintro _ ⟨s, rfl⟩
          go_wp2_with fail
          go_meet
          exact ⟨by rw [HGD.out], Lib.hid s.below⟩)
        · have d1 : decide (48 < p1) = false := decide_eq_false h48
          refine wp_region_later (by kernel_rfl) (by kernel_rfl) ?_; (repeat (first | go_big_quiet_step ((first | ((go_at_call 104; exact Calls.later _ (HRW.out _))))) | quiet_step ((first | ((go_at_call 104; exact Calls.later _ (HRW.out _))))))); refine wpQuiet_nil ?_; rintro _ ⟨s, rfl⟩
          go_wp2_with fail
          go_meet
          exact ⟨by rw [HG2.out, d1]; rfl, Lib.hid s.below⟩
      case rest =>
        obtain ⟨rfl, hbc⟩ := hcut
        have HBC := Lib.hid hbc.out
        have DS := Lib.hid (blk_keep HBC.out DS.out)
        have D3 := Lib.hid (blk_keep HBC.out D3.out)
        have HBF := Lib.hid (below_more (below_more HB2.out K3.out) HBC.out)
        obtain ⟨w7, rfl⟩ : ∃ w7, w7 = wc := ⟨_, rfl⟩
        have hw27 := Nat.le_trans K3.out.size HBC.out.size
        have hw02 := HB2.out.size
        clear hbc HBC D2
        go_upto_if 63 with fail
        go_cut [] (fun wx => Hid (wx.heap[w2.heap.size]? = some (.cells #[.int .i64 (fracR 48 l2).num, .int .i64 (fracR 48 l2).den] 40 (0, 0))) ∧ Hid (wx.heap[w.heap.size + 1 + 1 + 1]? = some (.cells #[.int .i64 0, .int .i64 0] 40 (0, 0))) ∧ Hid (Below w.heap.size w wx))
        case first =>
          cases G2
          case true =>
            have h48 : 48 < p1 ∧ l1 < p1 := by have := HG2.out; simpa using this
            have d1 : decide (48 < p1) = true := decide_eq_true h48.1
            have d2 : decide (l1 < p1) = true := decide_eq_true h48.2
            have he : l2 = p1 := by rw [HL2.out]; unfold lg2; rw [d1, d2]; rfl
            obtain ⟨h48a, h48b⟩ := h48
            clear HL2 d1 d2
            go_wp2_with fail
            refine (HF.out p1 (by omega) _).mono ?_; rintro e w9 ⟨rfl, hb9⟩
            have DS9 := Lib.hid (blk_keep hb9 DS.out)
            have HB9 := Lib.hid hb9
            clear hb9
            obtain ⟨⟨h1, h2⟩, hh⟩ : ∃ f, f = fracR 48 p1 := ⟨_, rfl⟩
            rw [← hh]
            have q0 := cell_of_blk DS9.out 0; have qf0 := free_of_blk DS9.out 0; have q1 := cell_of_blk DS9.out 1; have qf1 := free_of_blk DS9.out 1; have hz_q := (Array.getElem?_eq_some_iff.1 DS9.out).1; simp at q0 q1
            go_wp2_with fail
            go_meet
            have e9 := heap_setCell_same _ w2.heap.size 1 (.int .i64 h2) _ _ (heap_setCell_same w9 w2.heap.size 0 (.int .i64 h1) _ _ DS9.out)
            have hn3 : w.heap.size + 1 + 1 + 1 ≠ w2.heap.size := by have := HL3.out; omega
            exact ⟨Lib.hid (by rw [he, ← hh]; simpa using e9), Lib.hid ((heap_setCell_other _ _ _ _ hn3).trans ((heap_setCell_other _ _ _ _ hn3).trans (blk_keep HB9.out D3.out))), Lib.hid (((HBF.out.trans (HB9.out.mono HBF.out.size)).setCell hw02 _).setCell hw02 _)⟩
          case false =>
            have he : l2 = l1 := by
              rw [HL2.out]; unfold lg2
              have := HG2.out
              simp at this
              simp
              omega
            clear HL2
            go_wp2_with fail
            go_meet
            exact ⟨Lib.hid (by rw [he, ← HFF.out]; exact DS.out), D3, HBF⟩
        case rest =>
          obtain ⟨hds, hd3, hk⟩ := hcut
          have DS := Lib.hid hds.out
          have D3 := Lib.hid hd3.out
          have HBL := Lib.hid hk.out
          obtain ⟨w8, rfl⟩ : ∃ w8, w8 = wc := ⟨_, rfl⟩
          clear hds hd3 hk
          obtain ⟨⟨r1, r2⟩, hr⟩ : ∃ f, f = fracR 48 l2 := ⟨_, rfl⟩
          rw [← hr] at DS
          have HRR := Lib.hid hr.symm
          dsimp only at DS
          have q0 := cell_of_blk DS.out 0; have qf0 := free_of_blk DS.out 0; have q1 := cell_of_blk DS.out 1; have qf1 := free_of_blk DS.out 1; have hz_q := (Array.getElem?_eq_some_iff.1 DS.out).1; simp at q0 q1
          have p0 := cell_of_blk D3.out 0
          have pf0 := free_of_blk D3.out 0
          have p1' := cell_of_blk D3.out 1
          have pf1 := free_of_blk D3.out 1
          have hz_p := (Array.getElem?_eq_some_iff.1 D3.out).1
          simp at p0 p1'
          clear hr
          go_wp2_with fail
          refine bodyPost_ret (v := .agg #[.int .i64 r1, .int .i64 r2]) (by simp [results, Tryz.results61, go_sem, p0, p1']) rfl (gotF2 HRR.out ?_)
          exact (HBL.out.setCell (by dsimp only; omega) _).setCell (by dsimp only; omega) _
end Go.Proofs.YtmiokllpdmmfhaaGreat
