/-
  Pieces lie within their shape. And what builds on it.
-/
import Derived.Test.YtmiokllpdmmfhaaGreatLaM
import Derived.Test.YtmiokllpdmmfhaaGreatGLay
import Derived.Test.YtmiokllpdmmfhaaGreatBoxM
import Derived.Test.YtmiokllpdmmfhaaGreatLcD
namespace Go.Proofs.YtmiokllpdmmfhaaGreat
open Go.RowKit
def smallQ (p : Pc) (w h : Int) : Prop := (0 ≤ p.x ∧ p.x ≤ w) ∧ (0 ≤ p.y ∧ p.y ≤ h) ∧ (0 ≤ p.wd ∧ p.wd ≤ w) ∧ (0 ≤ p.hg ∧ p.hg ≤ h)
def inR (p : Pc) (x y w h : Int) : Prop := (x ≤ p.x ∧ p.x + p.wd ≤ x + w) ∧ (y ≤ p.y ∧ p.y + p.hg ≤ y + h) ∧ 0 ≤ p.wd ∧ 0 ≤ p.hg
theorem spnI (sp : Int) (n : Nat) : sp * (((n + 1 : Nat) : Int) - 1) = sp * (n : Int) ∧ sp * ((n : Int) - 1) = sp * (n : Int) - sp := by
  refine ⟨by congr 1; omega, by rw [Int.mul_sub, Int.mul_one]⟩
mutual
theorem pcs_in : ∀ (s : Shp), s.good → ∀ (x y : Int), ∀ p ∈ s.pcs x y, inR p x y s.size.1 s.size.2
  | .gly n a b, h, x, y, p, hp => by
    rw [Shp.good] at h
    rw [Shp.pcs, List.mem_singleton] at hp
    subst hp
    rw [Shp.size]; unfold inR; dsimp only; omega
  | .gap n, h, x, y, p, hp => by
    rw [Shp.good] at h
    rw [Shp.pcs, List.mem_singleton] at hp
    subst hp
    rw [Shp.size]; unfold inR; dsimp only; omega
  | .ovl n1 a b n2 c d, h, x, y, p, hp => by
    rw [Shp.good] at h
    rw [Shp.pcs] at hp
    rw [Shp.size]; unfold inR; dsimp only
    rcases List.mem_cons.1 hp with rfl | hp
    · dsimp only; omega
    · rw [List.mem_singleton] at hp; subst hp; dsimp only; omega
  | .row sp ks, h, x, y, p, hp => by
    rw [Shp.good] at h
    rw [Shp.pcs] at hp
    have hm := max_mem ks (fun k hk => (goodS.mem h.2.2.2 k hk).szB)
    have := pcsR_in sp (maxH ks) h.1.1 ks h.2.2.2 (fun k hk => (hm k hk).2) x y p hp
    rw [Shp.size]; unfold inR at this ⊢; dsimp only; omega
  | .col sp ks, h, x, y, p, hp => by
    rw [Shp.good] at h
    rw [Shp.pcs] at hp
    have hm := max_mem ks (fun k hk => (goodS.mem h.2.2.2 k hk).szB)
    have := pcsC_in sp (maxW ks) h.1.1 ks h.2.2.2 (fun k hk => (hm k hk).1) x y p hp
    rw [Shp.size]; unfold inR at this ⊢; dsimp only; omega
  | .rng n s, h, x, y, p, hp => by
    have hz := h.szB
    rw [Shp.good] at h
    rw [Shp.pcs] at hp
    have hs := h.2.1
    unfold szB at hs hz
    rw [Shp.size] at hz ⊢
    dsimp only at hz
    rcases List.mem_cons.1 hp with rfl | hp
    · unfold inR; dsimp only; omega
    · have := pcs_in s h.2.2 (x + 12) (y + 12) p hp
      unfold inR at this ⊢; dsimp only; omega
theorem pcsR_in (sp H : Int) (h0 : 0 ≤ sp) : ∀ (ks : List Shp), goodS ks → (∀ k ∈ ks, k.size.2 ≤ H) → ∀ (x y : Int), ∀ p ∈ pcsR sp H ks x y, inR p x y (sp * ((ks.length : Int) - 1) + sumW ks) H
  | [], _, _, x, y, p, hp => by rw [pcsR] at hp; cases hp
  | k :: r, h, hH, x, y, p, hp => by
    rw [goodS] at h
    have hk := h.1.szB
    have hkh := hH k (List.mem_cons_self ..)
    have hsr := sum_bd r (fun k hk => (goodS.mem h.2 k hk).szB)
    have hsp := spnI sp r.length
    have hsn := Int.mul_nonneg h0 (show (0 : Int) ≤ (r.length : Int) by omega)
    unfold szB at hk
    rw [pcsR] at hp
    rw [List.length_cons, hsp.1, sumW]
    rcases List.mem_append.1 hp with hp | hp
    · have := pcs_in k h.1 x (y + (H - k.size.2) / 2) p hp
      unfold inR at this ⊢
      omega
    · have := pcsR_in sp H h0 r h.2 (fun k hk => hH k (List.mem_cons_of_mem _ hk)) _ y p hp
      rw [hsp.2] at this
      unfold inR at this ⊢
      omega
theorem pcsC_in (sp W : Int) (h0 : 0 ≤ sp) : ∀ (ks : List Shp), goodS ks → (∀ k ∈ ks, k.size.1 ≤ W) → ∀ (x y : Int), ∀ p ∈ pcsC sp W ks x y, inR p x y W (sp * ((ks.length : Int) - 1) + sumH ks)
  | [], _, _, x, y, p, hp => by rw [pcsC] at hp; cases hp
  | k :: r, h, hW, x, y, p, hp => by
    rw [goodS] at h
    have hk := h.1.szB
    have hkw := hW k (List.mem_cons_self ..)
    have hsr := sum_bd r (fun k hk => (goodS.mem h.2 k hk).szB)
    have hsp := spnI sp r.length
    have hsn := Int.mul_nonneg h0 (show (0 : Int) ≤ (r.length : Int) by omega)
    unfold szB at hk
    rw [pcsC] at hp
    rw [List.length_cons, hsp.1, sumH]
    rcases List.mem_append.1 hp with hp | hp
    · have := pcs_in k h.1 (x + (W - k.size.1) / 2) y p hp
      unfold inR at this ⊢
      omega
    · have := pcsC_in sp W h0 r h.2 (fun k hk => hW k (List.mem_cons_of_mem _ hk)) x _ p hp
      rw [hsp.2] at this
      unfold inR at this ⊢
      omega
end
theorem pcs_small {s : Shp} (h : s.good) : ∀ p ∈ s.pcs 0 0, smallQ p s.size.1 s.size.2 := fun p hp => by
  have := pcs_in s h 0 0 p hp
  unfold inR at this
  unfold smallQ
  omega
open Go.RowKit
def cBd : Nat → Nat
  | 0 => 1
  | f + 1 => 6 * cBd f + 2
theorem cBd_pos : ∀ f, 1 ≤ cBd f
  | 0 => Nat.le_refl _
  | f + 1 => by rw [cBd]; omega
theorem cntS_le : ∀ (ks : List Shp) (B : Nat), (∀ k ∈ ks, k.cnt ≤ B) → cntS ks ≤ ks.length * B
  | [], _, _ => by rw [cntS]; exact Nat.zero_le _
  | k :: r, B, h => by
    have h1 := h k (List.mem_cons_self ..)
    have h2 := cntS_le r B (fun x hx => h x (List.mem_cons_of_mem _ hx))
    rw [cntS, List.length_cons, Nat.add_mul, Nat.one_mul]; omega
theorem cnt_bd {l : Li} (cw : Bool) {ns : List Nd} (h : Pln l ns) : ∀ f i, (shpI l cw ns f i).cnt ≤ cBd f
  | 0, i => by rw [shpI, Shp.cnt]; exact Nat.le_refl _
  | f + 1, i => by
    have hk : cntS ((kidsL ns i).map (shpI l cw ns f)) ≤ 6 * cBd f := by
      have h1 := cntS_le ((kidsL ns i).map (shpI l cw ns f)) (cBd f) (fun k hk => by
        obtain ⟨j, _, rfl⟩ := List.mem_map.1 hk
        exact cnt_bd cw h f j)
      have h2 : ((kidsL ns i).map (shpI l cw ns f)).length ≤ 6 := by rw [List.length_map]; exact fits_six h.fits i
      exact Nat.le_trans h1 (Nat.mul_le_mul_right _ h2)
    have hp := cBd_pos f
    rw [shpI, cBd]
    split
    · rw [Shp.cnt]; omega
    · split
      · rw [Shp.cnt]; omega
      · split
        · unfold ovlI; rw [Shp.cnt]; omega
        · split
          · rw [Shp.cnt]; omega
          · split
            · rw [Shp.cnt]; omega
            · rw [Shp.cnt]
              unfold ringI
              split
              · rw [Shp.cnt]; omega
              · rw [Shp.cnt]; omega
def corX (cw : Bool) (b : Bl) : Fr := if cw then croR b.ac.num b.ac.den b.ln else ⟨b.st, 1⟩
def corY (cw : Bool) (b : Bl) : Fr := if cw then ⟨b.st, 1⟩ else croR b.ac.num b.ac.den b.ln
def grpB (cw mw : Bool) (b : Bl) : List Bx := (b.s.pcs 0 0).map fun p => if mw then (boxPc b.sc (corX cw b) (corY cw b) p).mir else boxPc b.sc (corX cw b) (corY cw b) p
def layL (cw mw : Bool) (len : Int) (ks : List Shp) : List Bx := (List.range ks.length).flatMap fun k => grpB cw mw (blA cw len ks k)
theorem small_box {s : Shp} (h : s.good) : ∀ p ∈ s.pcs 0 0, smallP p := fun p hp => by
  have h1 := pcs_small h p hp
  have h2 := h.szB
  unfold smallQ at h1
  unfold szB at h2
  unfold smallP
  omega
theorem boxesB_any (cw mw : Bool) (a1 a2 b1 b2 pw qw : Nat) (s : Shp) (arg : Value) (b : Bl) (w : World) (hs : b.s = s) (hg : s.good) (hcnt : s.cnt ≤ 100000) (hv : ShV w s (.iface (tyOf s) arg))
    (h1 : 0 ≤ b.sc.num ∧ b.sc.num ≤ 48) (h2 : 1 ≤ b.sc.den ∧ b.sc.den ≤ 1000000) (h3 : 0 ≤ b.ac.num ∧ b.ac.num ≤ 100000000) (h4 : 1 ≤ b.ac.den ∧ b.ac.den ≤ 10000000) (h5 : 0 ≤ b.ln ∧ b.ln ≤ 1000) (h6 : 0 ≤ b.st ∧ b.st ≤ 1000000000)
    (hmr : mw = true → ∀ p ∈ s.pcs 0 0, okM (boxPc b.sc (corX cw b) (corY cw b) p)) :
    Calls Tryz.prog 63 #[.agg (blCells (.iface (tyOf s) arg) b).toArray, .agg #[.bool cw, .bool mw, .func (.func a1) #[] #[], .func (.func a2) #[] #[], .func (.func 172) #[] #[.pointer (some ⟨pw, 0, none⟩)], .func (.func b1) #[] #[], .func (.func b2) #[] #[], .func (.func 172) #[] #[.pointer (some ⟨qw, 0, none⟩)]]] w (GotRow w 82 15 (grpB cw mw b).length ((grpB cw mw b).flatMap Bx.cells)) := by
  subst hs
  obtain ⟨s, ⟨n1, d1⟩, ⟨n2, d2⟩, ⟨n3, d3⟩, ln, st⟩ := b
  dsimp only at hg hcnt hv h1 h2 h3 h4 h5 h6 hmr ⊢
  unfold grpB
  dsimp only
  rw [List.length_map]
  cases mw
  · have := boxes_any cw false rfl a1 a2 b1 b2 pw qw s arg n1 d1 n2 d2 n3 d3 ln st w (pcs_ok s hg) hg.szB hcnt hv (small_box hg) h1 h2 h3 h4 h5 h6 (corX cw ⟨s, ⟨n1, d1⟩, ⟨n2, d2⟩, ⟨n3, d3⟩, ln, st⟩) (corY cw ⟨s, ⟨n1, d1⟩, ⟨n2, d2⟩, ⟨n3, d3⟩, ln, st⟩) rfl rfl
    exact this
  · have := boxesM_any cw true rfl a1 a2 b1 b2 pw qw s arg n1 d1 n2 d2 n3 d3 ln st w (pcs_ok s hg) hg.szB hcnt hv (small_box hg) h1 h2 h3 h4 h5 h6 (corX cw ⟨s, ⟨n1, d1⟩, ⟨n2, d2⟩, ⟨n3, d3⟩, ln, st⟩) (corY cw ⟨s, ⟨n1, d1⟩, ⟨n2, d2⟩, ⟨n3, d3⟩, ln, st⟩) (hmr rfl) rfl rfl
    exact this
theorem glay2_any (L : Lm) (A : Option Addr) (cap : Nat) (ns zs : List Nd) (way len : Int) (w : World) (hl : LmOk w L) (hn : NdsAt w A ns) (hc1 : ns.length ≤ cap) (hc : cap ≤ maxLen) (hT : textErr L.li ns = 0) (hQ : regQ plainP L.li ns = (zs, 0)) (hP : pageErr way len = 0)
    (hok : mwN way = true → ∀ (k : Nat) (s : Shp), (shpsI L.li (cwN way) zs)[k]? = some s → ∀ p ∈ s.pcs 0 0, okM (boxPc (blA (cwN way) len (shpsI L.li (cwN way) zs) k).sc (corX (cwN way) (blA (cwN way) len (shpsI L.li (cwN way) zs) k)) (corY (cwN way) (blA (cwN way) len (shpsI L.li (cwN way) zs) k)) p)) :
    Calls Tryz.prog 26 #[.agg #[.int .i64 L.per, .slice L.A L.ms.length L.cap], .agg #[.slice A ns.length cap], .agg #[.int .i64 way, .int .i64 len]] w (GotLayE (layL (cwN way) (mwN way) len (shpsI L.li (cwN way) zs), 0) w) := by
  have hp := plain_pln hT hQ
  have hG : ∀ s ∈ shpsI L.li (cwN way) zs, s.good := shps_good (cwN way) hp
  have hC : ∀ s ∈ shpsI L.li (cwN way) zs, s.cnt ≤ 100000 := fun s hs => by
    obtain ⟨j, _, rfl⟩ := List.mem_map.1 hs
    exact Nat.le_trans (cnt_bd (cwN way) hp 5 j) (by decide)
  have hM2 : (shpsI L.li (cwN way) zs).length ≤ 200 := by
    have hkl : (shpsI L.li (cwN way) zs).length = (topsL zs).length := by unfold shpsI; rw [List.length_map]
    have h1 : (topsL zs).length ≤ zs.length := by
      unfold topsL
      refine Nat.le_trans (List.length_filter_le _ _) ?_
      rw [List.length_range]; exact Nat.le_refl _
    have := (text_ok hp.ok).2.1
    omega
  refine glayK_any L A cap ns zs way len w hl hn hc1 hc hT hQ hP (fun k => grpB (cwN way) (mwN way) (blA (cwN way) len (shpsI L.li (cwN way) zs) k)) (fun k hk => ?_) (fun k s wx arg pw qw hs hv => ?_)
  · obtain ⟨s, hs⟩ : ∃ s, (shpsI L.li (cwN way) zs)[k]? = some s := ⟨_, List.getElem?_eq_getElem hk⟩
    have := hC s (List.mem_of_getElem? hs)
    unfold grpB
    rw [blA_at hs, List.length_map, pcs_cnt]; exact this
  · have hm := List.mem_of_getElem? hs
    have hk := (List.getElem?_eq_some_iff.1 hs).1
    have hst := stA_bd (cw := cwN way) (len := len) (fun s hs => (hG s hs).szB) k (by omega)
    have hpl := plA_bd (cw := cwN way) (len := len) (s := s) hst
    have hb := newBl_bd2 (cw := cwN way) (hG s hm).szB
    have hbl := blA_at (cw := cwN way) (len := len) hs
    refine boxesB_any (cwN way) (mwN way) _ _ _ _ pw qw s arg (blA (cwN way) len (shpsI L.li (cwN way) zs) k) wx (by rw [hbl]) (hG s hm) (hC s hm) hv ?_ ?_ ?_ ?_ ?_ ?_ (fun h => hok h k s hs)
    all_goals (rw [hbl]; dsimp only; omega)
open Go.RowKit
theorem fr_val {n d : Int} (hd : 0 < d) : (fracR n d).num * d = n * (fracR n d).den ∧ 0 < (fracR n d).den := by
  obtain ⟨g, _, h1, h2, h3, _⟩ := fracR_spec (n := n) hd
  obtain ⟨f, hf⟩ : ∃ f, f = fracR n d := ⟨_, rfl⟩
  rw [← hf] at h1 h2 h3 ⊢
  refine ⟨?_, by omega⟩
  rw [h1, h2, Int.mul_comm g f.num, Int.mul_assoc]
theorem plus_com {X F : Fr} {p r q : Int} (hq : 0 < q) (hX : X.num * q = p * X.den) (hF : F.num * q = r * F.den) (h1 : 0 < X.den) (h2 : 0 < F.den) : plusF X F = fracR (p + r) q := by
  unfold plusF
  refine fracR_eq (Int.mul_pos h1 h2) hq ?_
  have a : X.num * F.den * q = p * (X.den * F.den) := by rw [Int.mul_assoc, Int.mul_comm F.den q, ← Int.mul_assoc, hX, Int.mul_assoc]
  have b : F.num * X.den * q = r * (X.den * F.den) := by rw [Int.mul_assoc, Int.mul_comm X.den q, ← Int.mul_assoc, hF, Int.mul_assoc, Int.mul_comm F.den X.den]
  rw [Int.add_mul, Int.add_mul, a, b]
theorem cro_com {N D ln : Int} (hD : 0 < D) : croR (fracR N D).num (fracR N D).den ln = fracR (72 * ln * (D * 2) + (48 * D - N)) (D * 2) := by
  obtain ⟨h1, h2⟩ := fr_val (n := N) hD
  obtain ⟨⟨n3, d3⟩, hf⟩ : ∃ f, f = fracR N D := ⟨_, rfl⟩
  rw [← hf] at h1 h2 ⊢
  dsimp only at h1 h2 ⊢
  have hP : fracR (48 * d3 + -n3 * 1) (1 * d3) = fracR (48 * D - N) D := by
    refine fracR_eq (by omega) hD ?_
    rw [Int.mul_one, Int.one_mul, Int.add_mul, Int.sub_mul, Int.neg_mul, h1, Int.mul_assoc, Int.mul_assoc, Int.mul_comm d3 D]
    omega
  obtain ⟨p1, p2⟩ := fr_val (n := 48 * D - N) hD
  have hM : marR n3 d3 = fracR (48 * D - N) (D * 2) := by
    unfold marR
    rw [hP]
    refine fracR_eq (by omega) (by omega) ?_
    rw [← Int.mul_assoc, p1, Int.mul_assoc]
  obtain ⟨m1, m2⟩ := fr_val (n := 48 * D - N) (show 0 < D * 2 by omega)
  unfold croR
  rw [hM]
  refine fracR_eq (by omega) (by omega) ?_
  rw [Int.mul_one, Int.one_mul, Int.add_mul, Int.add_mul, m1, Int.mul_assoc, Int.mul_assoc (72 * ln), Int.mul_comm _ (D * 2)]
theorem st_len {cw : Bool} {len : Int} {ks : List Shp} (hl : 0 ≤ len) (hB : ∀ s ∈ ks, szB s) {k : Nat} {s : Shp} (hs : ks[k]? = some s) : 0 ≤ (blA cw len ks k).st ∧ (blA cw len ks k).st ≤ len := by
  have hk := (List.getElem?_eq_some_iff.1 hs).1
  have hst := (stA_bd (cw := cw) (len := len) hB k (by omega)).2
  have hb := newBl_bd (cw := cw) (hB s (List.mem_of_getElem? hs))
  rw [blA_at hs]
  dsimp only
  unfold plA
  split
  · dsimp only; omega
  · rename_i h
    obtain ⟨st, he⟩ : ∃ st, st = (stA cw len (ks.take k)).2 := ⟨_, rfl⟩
    rw [← he] at h hst ⊢
    refine ⟨hst.1, ?_⟩
    unfold brkB at h
    rcases Int.lt_or_le 0 st with h0 | h0
    · rw [decide_eq_true h0, Bool.true_and, decide_eq_true_eq] at h
      unfold endR at h
      rw [fracR_lt (by omega)] at h
      rw [Int.mul_one, Int.one_mul] at h
      rcases Int.lt_or_le len st with h1 | h1
      · exfalso
        apply h
        have := Int.mul_lt_mul_of_pos_right h1 (show 0 < (newBl cw s).al.den by omega)
        omega
      · exact h1
    · omega
theorem mul_bd2 {a e K E : Int} (h1 : -K ≤ a ∧ a ≤ K) (h2 : 0 ≤ e ∧ e ≤ E) : -(K * E) ≤ a * e ∧ a * e ≤ K * E := by
  have p1 := Int.mul_nonneg (show 0 ≤ K - a by omega) h2.1
  have p2 := Int.mul_nonneg (show 0 ≤ K + a by omega) h2.1
  have p3 := Int.mul_le_mul_of_nonneg_left h2.2 (show 0 ≤ K by omega)
  rw [Int.sub_mul] at p1
  rw [Int.add_mul] at p2
  omega
theorem okM_num (x : Bx) {A Q B D : Int} (hx : x.x = fracR A Q) (hw : x.w = fracR B D) (hA : -6000000000 ≤ A ∧ A ≤ 6000000000) (hQ : 0 < Q ∧ Q ≤ 344168) (hB : -8300000 ≤ B ∧ B ≤ 8300000) (hD : 0 < D ∧ D ≤ 172084) : okM x := by
  have a1 := fracR_num (B := 6000000000) hQ.1 hA
  have a2 := fracR_den (n := A) hQ.1
  have c1 := fracR_num (B := 8300000) hD.1 hB
  have c2 := fracR_den (n := B) hD.1
  rw [← hx] at a1 a2
  rw [← hw] at c1 c2
  have m1 := mul_bd2 a1 (show 0 ≤ x.w.den ∧ x.w.den ≤ 172084 by omega)
  have m2 := mul_bd2 c1 (show 0 ≤ x.x.den ∧ x.x.den ≤ 344168 by omega)
  have m4 := Int.mul_pos (show 0 < x.x.den by omega) (show 0 < x.w.den by omega)
  have m5 := mul_bd2 (a := x.x.den) (K := 344168) (show -344168 ≤ x.x.den ∧ x.x.den ≤ 344168 by omega) (show 0 ≤ x.w.den ∧ x.w.den ≤ 172084 by omega)
  have m6 := fracR_num (n := x.x.num * x.w.den + x.w.num * x.x.den) (d := x.x.den * x.w.den) (B := 4000000000000000000) m4 (by omega)
  unfold okM smallI
  exact ⟨by omega, by omega, by omega, m4, by omega, m6⟩
theorem okM_of {cw : Bool} {len : Int} {ks : List Shp} {k : Nat} {s : Shp} (hl : 0 ≤ len ∧ len ≤ 4800) (hB : ∀ s ∈ ks, szB s) (hs : ks[k]? = some s) (hk : k ≤ 200) (h1 : 0 ≤ s.size.1 ∧ s.size.1 ≤ 172084) (h2 : 0 ≤ s.size.2 ∧ s.size.2 ≤ 172084) (p : Pc) (hp : smallQ p s.size.1 s.size.2) :
    okM (boxPc (blA cw len ks k).sc (corX cw (blA cw len ks k)) (corY cw (blA cw len ks k)) p) := by
  have hst := st_len (cw := cw) (len := len) hl.1 hB hs
  have hki := (List.getElem?_eq_some_iff.1 hs).1
  have hln := (plA_bd (cw := cw) (len := len) (s := s) (stA_bd (cw := cw) (len := len) hB k (by omega))).1
  have hbl := blA_at (cw := cw) (len := len) hs
  have e1 : (blA cw len ks k).sc = sclR cw s := by rw [hbl]; rfl
  have e2 : (blA cw len ks k).ac = fracR ((sclR cw s).num * acR cw s) (sclR cw s).den := by rw [hbl]; rfl
  have e3 : (blA cw len ks k).ln = (plA cw len (stA cw len (ks.take k)) s).1 := by rw [hbl]
  rw [← e3] at hln
  obtain ⟨b, hb⟩ : ∃ b, b = blA cw len ks k := ⟨_, rfl⟩
  rw [← hb] at hst hln e1 e2 ⊢
  have hac : 0 ≤ acR cw s ∧ acR cw s ≤ 172084 := by unfold acR; split <;> omega
  have hsc : (0 ≤ (sclR cw s).num ∧ (sclR cw s).num ≤ 48) ∧ 1 ≤ (sclR cw s).den ∧ (sclR cw s).den ≤ 172084 := by
    have h := fracR_bd (n := 48) (d := max 48 (if isRng s then acR cw s else max s.size.1 s.size.2)) (by omega) (by omega)
    have h3 : max 48 (if isRng s then acR cw s else max s.size.1 s.size.2) ≤ 172084 := by split <;> omega
    unfold sclR
    omega
  unfold smallQ at hp
  obtain ⟨⟨n1, D⟩, hf⟩ : ∃ f, f = sclR cw s := ⟨_, rfl⟩
  rw [← hf] at e1 e2 hsc
  dsimp only at e2 hsc
  have eN := mul_bd2 (a := n1) (K := 48) (by omega) hac
  have eX := mul_bd2 (a := n1) (K := 48) (show -48 ≤ n1 ∧ n1 ≤ 48 by omega) (show 0 ≤ p.x ∧ p.x ≤ 172084 by omega)
  have eW := mul_bd2 (a := n1) (K := 48) (show -48 ≤ n1 ∧ n1 ≤ 48 by omega) (show 0 ≤ p.wd ∧ p.wd ≤ 172084 by omega)
  obtain ⟨f1, f2⟩ := fr_val (n := n1 * p.x) (show 0 < D by omega)
  have hw : (boxPc b.sc (corX cw b) (corY cw b) p).w = fracR (n1 * p.wd) D := by rw [e1]; rfl
  have hx : (boxPc b.sc (corX cw b) (corY cw b) p).x = plusF (corX cw b) (fracR (n1 * p.x) D) := by rw [e1]; rfl
  cases cw with
  | false =>
    have hX : corX false b = ⟨b.st, 1⟩ := rfl
    rw [hX] at hx
    rw [plus_com (q := D) (p := b.st * D) (r := n1 * p.x) (by omega) (by simp) f1 (by simp) f2] at hx
    have eS := mul_bd2 (a := b.st) (K := 4800) (show -4800 ≤ b.st ∧ b.st ≤ 4800 by omega) (show 0 ≤ D ∧ D ≤ 172084 by omega)
    exact okM_num _ hx hw (by omega) (by omega) (by omega) (by omega)
  | true =>
    have hX : corX true b = fracR (72 * b.ln * (D * 2) + (48 * D - n1 * acR true s)) (D * 2) := by
      show croR b.ac.num b.ac.den b.ln = _
      rw [e2]
      exact cro_com (by omega)
    obtain ⟨x1, x2⟩ := fr_val (n := 72 * b.ln * (D * 2) + (48 * D - n1 * acR true s)) (show 0 < D * 2 by omega)
    rw [← hX] at x1 x2
    rw [plus_com (q := D * 2) (r := n1 * p.x * 2) (by omega) x1 (by rw [← Int.mul_assoc, f1, Int.mul_right_comm]) x2 f2] at hx
    have eL := mul_bd2 (a := 72 * b.ln) (K := 14472) (show -14472 ≤ 72 * b.ln ∧ 72 * b.ln ≤ 14472 by omega) (show 0 ≤ D * 2 ∧ D * 2 ≤ 344168 by omega)
    exact okM_num _ hx hw (by omega) (by omega) (by omega) (by omega)
open Go.RowKit
def layQ (l : Li) (way len : Int) (ns : List Nd) : List Bx × Int :=
  if bothE l ns way len ≠ 0 then ([], bothE l ns way len)
  else (layL (cwN way) (mwN way) len (shpsI l (cwN way) (regQ plainP l ns).1), 0)
theorem shps_size {l : Li} (cw : Bool) {ns : List Nd} (h : Pln l ns) : ∀ s ∈ shpsI l cw ns, (0 ≤ s.size.1 ∧ s.size.1 ≤ 172084) ∧ (0 ≤ s.size.2 ∧ s.size.2 ≤ 172084) := fun s hs => by
  obtain ⟨j, hj, rfl⟩ := List.mem_map.1 hs
  obtain ⟨u, hu, hd⟩ := tops_at hj
  have := (sh_bd cw h 5 j u hu (by omega) (Nat.le_refl _)).2
  have hb := (bndI_le 5 (Nat.le_refl _)).2
  omega
theorem glay_any (L : Lm) (A : Option Addr) (cap : Nat) (ns : List Nd) (way len : Int) (w : World) (hl : LmOk w L) (hn : NdsAt w A ns) (hc1 : ns.length ≤ cap) (hc : cap ≤ maxLen) :
    Calls Tryz.prog 26 #[.agg #[.int .i64 L.per, .slice L.A L.ms.length L.cap], .agg #[.slice A ns.length cap], .agg #[.int .i64 way, .int .i64 len]] w (GotLayE (layQ L.li way len ns) w) := by
  unfold layQ
  by_cases h : bothE L.li ns way len = 0
  · rw [if_neg (by omega)]
    obtain ⟨hT, hP⟩ := both_ok h
    have hq : regQ plainP L.li ns = ((regQ plainP L.li ns).1, 0) := by rw [plainT_is hT]
    have hp := plain_pln hT hq
    have hlb : 0 ≤ len ∧ len ≤ 4800 := by
      have := hP
      unfold pageErr at this
      split at this <;> omega
    refine glay2_any L A cap ns _ way len w hl hn hc1 hc hT hq hP (fun _ k s hs p hpp => ?_)
    have hm := List.mem_of_getElem? hs
    have hg := shps_good (cwN way) hp
    have hz := shps_size (cwN way) hp s hm
    have hM2 : (shpsI L.li (cwN way) (regQ plainP L.li ns).1).length ≤ 200 := by
      have hkl : (shpsI L.li (cwN way) (regQ plainP L.li ns).1).length = (topsL (regQ plainP L.li ns).1).length := by unfold shpsI; rw [List.length_map]
      have h1 : (topsL (regQ plainP L.li ns).1).length ≤ (regQ plainP L.li ns).1.length := by
        unfold topsL
        refine Nat.le_trans (List.length_filter_le _ _) ?_
        rw [List.length_range]; exact Nat.le_refl _
      have := (text_ok hp.ok).2.1
      omega
    exact okM_of hlb (fun s hs => (hg s hs).szB) hs (by have := (List.getElem?_eq_some_iff.1 hs).1; omega) hz.1 hz.2 p (pcs_small (hg s hm) p hpp)
  · rw [if_pos h]
    exact glayE_any L A cap ns way len w hl hn hc1 hc _ h rfl
end Go.Proofs.YtmiokllpdmmfhaaGreat
