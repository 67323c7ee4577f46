/-
  The groups of a text where they stand (arrange), by the program.
-/
import Derived.Test.YtmiokllpdmmfhaaGreatLbE
import Derived.Test.YtmiokllpdmmfhaaGreatLbC
import Derived.Test.YtmiokllpdmmfhaaGreatLbD
import Derived.Deep.DeepCutAuto
namespace Go.Proofs.YtmiokllpdmmfhaaGreat
open Go.RowKit
theorem newBlockA_any (cw mw : Bool) (a1 a2 b1 b2 pw qw : Nat) (s : Shp) (hO : SzOk s) (hB : szB s) (w : World) (arg : Value) (hv : ShV w s (.iface (tyOf s) arg)) :
    Calls Tryz.prog 98 #[.iface (tyOf s) arg, .agg #[.bool cw, .bool mw, .func (.func a1) #[] #[], .func (.func a2) #[] #[], .func (.func 172) #[] #[.pointer (some ⟨pw, 0, none⟩)], .func (.func b1) #[] #[], .func (.func b2) #[] #[], .func (.func 172) #[] #[.pointer (some ⟨qw, 0, none⟩)]]] w
      fun e w' => e = .returned (.agg #[.iface (tyOf s) arg, .int .i64 (newBl cw s).sc.num, .int .i64 (newBl cw s).sc.den, .int .i64 (newBl cw s).al.num, .int .i64 (newBl cw s).al.den, .int .i64 (newBl cw s).ac.num, .int .i64 (newBl cw s).ac.den, .int .i64 0, .int .i64 0]) ∧ Below w.heap.size w w' := by
  cases s with
  | rng n s' => exact newBlockR_any cw mw a1 a2 b1 b2 pw qw n s' hO hB w arg hv
  | gly => exact newBlock_any cw mw a1 a2 b1 b2 pw qw _ rfl hO hB w arg hv
  | gap => exact newBlock_any cw mw a1 a2 b1 b2 pw qw _ rfl hO hB w arg hv
  | ovl => exact newBlock_any cw mw a1 a2 b1 b2 pw qw _ rfl hO hB w arg hv
  | row => exact newBlock_any cw mw a1 a2 b1 b2 pw qw _ rfl hO hB w arg hv
  | col => exact newBlock_any cw mw a1 a2 b1 b2 pw qw _ rfl hO hB w arg hv
def usV (ks : List Shp) (args : Nat → Value) (j : Nat) : Value := .iface (tyOf (ks.getD j (.gap ⟨0, 0, 0, 0, false, 0, 0, 0⟩))) (args j)
theorem usV_at {ks : List Shp} {args : Nat → Value} {j : Nat} {s : Shp} (h : ks[j]? = some s) : usV ks args j = .iface (tyOf s) (args j) := by
  unfold usV; rw [List.getD_eq_getElem?_getD, h]; rfl
theorem ShPs.vals {P : Nat → Prop} {w : World} {A : Option Addr} {ks : List Shp} (h : ShPs P w A 0 ks) : ∃ args : Nat → Value, ∀ j s, ks[j]? = some s → (∃ b o, A = some ⟨b, o, none⟩ ∧ P b ∧ w.cell? ⟨b, o + j, none⟩ = some (.iface (tyOf s) (args j))) ∧ ShP P w s (.iface (tyOf s) (args j)) := by
  have hh : ∀ j, ∃ a : Value, ∀ s, ks[j]? = some s → (∃ b o, A = some ⟨b, o, none⟩ ∧ P b ∧ w.cell? ⟨b, o + j, none⟩ = some (.iface (tyOf s) a)) ∧ ShP P w s (.iface (tyOf s) a) := fun j => by
    cases hj : ks[j]? with
    | none => exact ⟨.nilIface, fun s e => by cases e⟩
    | some s =>
      obtain ⟨b, o, u, h1, h2, h3, h4⟩ := ShPs.at_ ks 0 j s h hj
      obtain ⟨a, rfl⟩ := h4.iface
      refine ⟨a, fun s' e => ?_⟩
      injection e with e; subst e
      exact ⟨⟨b, o, h1, h2, by simpa using h3⟩, h4⟩
  exact ⟨fun j => Classical.choose (hh j), fun j => Classical.choose_spec (hh j)⟩
def GotArr (cw : Bool) (len : Int) (ks : List Shp) (w : World) (e : Ending) (w' : World) : Prop := ∃ A c args, e = .returned (.tuple #[.slice A ks.length c, .int .i64 0]) ∧ Hid (w'.ownsRow w.heap.size 123 9 (.slice A ks.length c) ks.length (cellsA cw len ks (usV ks args) ks.length)) ∧ Hid (∀ j s, ks[j]? = some s → ShV w' s (.iface (tyOf s) (args j))) ∧ Below w.heap.size w w'
set_option maxRecDepth 100000 in
set_option maxHeartbeats 32000000 in
theorem arr_any (way : Int) (cw mw : Bool) (a1 a2 b1 b2 : Nat) (hw : ∀ wx, Calls Tryz.prog 64 #[.int .i64 way] wx (GotWay cw mw a1 a2 b1 b2 wx)) (L : Lm) (A : Option Addr) (cap : Nat) (ns zs : List Nd) (len : Int) (ks : List Shp) (w : World) (hl : LmOk w L) (hn : NdsAt w A ns) (hc1 : ns.length ≤ cap) (hc : cap ≤ maxLen) (hQ : regQ plainP L.li ns = (zs, 0)) (hlen : pageErr way len = 0)
    (hS : ∀ pw qw, ShapesOk L cw mw a1 a2 b1 b2 pw qw ks) (hof : ShsOf L cw ks zs) (hO : ∀ s ∈ ks, SzOk s) (hB : ∀ s ∈ ks, szB s) (hk2 : ks.length ≤ 200) :
    Calls Tryz.prog 59 #[.agg #[.int .i64 L.per, .slice L.A L.ms.length L.cap], .agg #[.slice A ns.length cap], .agg #[.int .i64 way, .int .i64 len]] w (GotArr cw len ks w) := by
  have hlb : 48 ≤ len ∧ len ≤ 4800 := by unfold pageErr at hlen; split at hlen <;> omega
  have HPR := Lib.hid (fun wx (hb : Below w.heap.size w wx) => prepN_any way cw mw a1 a2 b1 b2 hw L A cap ns zs len wx (hl.below hb) (hn.below hb) hc1 hc hQ hlen)
  have HSS := Lib.hid (fun wx (hb : Below w.heap.size w wx) (pw qw : Nat) (A2 : Option Addr) (c2 : Nat) (h1 : NdsAt wx A2 zs) (h2 : zs.length ≤ c2) (h3 : c2 ≤ maxLen) => show Calls Tryz.prog 54 #[.agg #[.int .i64 L.per, .slice L.A L.ms.length L.cap, .bool cw, .bool mw, .func (.func a1) #[] #[], .func (.func a2) #[] #[], .func (.func 172) #[] #[.pointer (some ⟨pw, 0, none⟩)], .func (.func b1) #[] #[], .func (.func b2) #[] #[], .func (.func 172) #[] #[.pointer (some ⟨qw, 0, none⟩)]], .slice A2 zs.length c2] wx (GotShs ks wx) from
    hS pw qw zs wx A2 c2 hof (hl.below hb) h1 h2 h3)
  have HNB := Lib.hid (fun (s : Shp) (hm : s ∈ ks) wx arg (hv : ShV wx s (.iface (tyOf s) arg)) pw qw => newBlockA_any cw mw a1 a2 b1 b2 pw qw s (hO s hm) (hB s hm) wx arg hv)
  have HBD := Lib.hid (fun (s : Shp) (hm : s ∈ ks) => (show ((0 ≤ (newBl cw s).al.num ∧ (newBl cw s).al.num ≤ 100000000) ∧ 1 ≤ (newBl cw s).al.den ∧ (newBl cw s).al.den ≤ 1000000) from newBl_bd (hB s hm)))
  have HCL := Lib.hid (fun (s : Shp) (hm : s ∈ ks) => al_le (cw := cw) (hB s hm))
  have HST := Lib.hid (fun k (hk : k ≤ ks.length) => stA_bd (cw := cw) (len := len) hB k hk)
  clear hw hl hn hQ hlen hS hof hO hB
  obtain ⟨N, hN⟩ : ∃ N, N = ns.length := ⟨_, rfl⟩
  rw [← hN] at HPR hc1 ⊢
  unfold maxLen at hc
  clear hN
  unfold GotArr
  obtain ⟨K, hK⟩ : ∃ K, K = ks.length := ⟨_, rfl⟩
  have HK := Lib.hid hK
  unfold GotShs at HSS
  rw [← hK] at HSS HST hk2 ⊢
  clear hK
  obtain ⟨W1, hW1⟩ : ∃ W', W' = w.alloc (.cells #[.int .i64 L.per, .slice L.A L.ms.length L.cap] 24) := ⟨_, rfl⟩; obtain ⟨W2, hW2⟩ : ∃ W', W' = W1.alloc (.cells #[.slice A N cap] 27) := ⟨_, rfl⟩; obtain ⟨W, hW⟩ : ∃ W', W' = W2.alloc (.cells #[.int .i64 way, .int .i64 len] 31) := ⟨_, rfl⟩; have szW1 : W1.heap.size = w.heap.size + 1 := (by rw [hW1]; simp); have kbW1 : Below w.heap.size w W1 := hW1 ▸ below_alloc _ _; have szW2 : W2.heap.size = w.heap.size + 1 + 1 := (by rw [hW2]; simp [szW1]); have kbW2 : Below W1.heap.size W1 W2 := hW2 ▸ below_alloc _ _; have szW : W.heap.size = w.heap.size + 1 + 1 + 1 := (by rw [hW]; simp [szW2]); have kbW : Below W2.heap.size W2 W := hW ▸ below_alloc _ _; have HB := Lib.hid (below_more (below_more kbW1 kbW2) kbW); have D0 := Lib.hid (blk_keep kbW (blk_keep kbW2 (show W1.heap[w.heap.size]? = some (.cells #[.int .i64 L.per, .slice L.A L.ms.length L.cap] 24 (0, 0)) by rw [hW1]; exact heap_alloc_new _ _))); have D1 := Lib.hid (blk_keep kbW (show W2.heap[w.heap.size + 1]? = some (.cells #[.slice A N cap] 27 (0, 0)) by rw [hW2, ← szW1]; exact heap_alloc_new _ _)); have D2 := Lib.hid (show W.heap[w.heap.size + 1 + 1]? = some (.cells #[.int .i64 way, .int .i64 len] 31 (0, 0)) by rw [hW, ← szW2]; exact heap_alloc_new _ _); have SZW := Lib.hid szW; clear szW1 kbW1 szW2 kbW2 szW kbW
  have x0 := cell_of_blk D0.out 0; have x1 := cell_of_blk D0.out 1; have hz_x := (Array.getElem?_eq_some_iff.1 D0.out).1; simp at x0 x1
  have y0 := cell_of_blk D1.out 0; have hz_y := (Array.getElem?_eq_some_iff.1 D1.out).1; simp at y0
  have p0 := cell_of_blk D2.out 0; have p1 := cell_of_blk D2.out 1; have hz_p := (Array.getElem?_eq_some_iff.1 D2.out).1; simp at p0 p1
  obtain ⟨iv, hiv, hzv, hsv, hbv⟩ := info_hid infoBl
  go_enter Tryz.func59, Tryz.ntmps59
  go_wp2_with fail
  rw [← hW1, ← hW2, ← hW]; clear hW1 hW2 hW
  go_wp2_with fail
  refine (HPR.out _ HB.out).mono ?_; rintro e v1 ⟨Ap, cp, pw, qw, rfl, hown, hb1⟩
  have HO1 := Lib.hid hown.out
  have HB1 := Lib.hid (below_more HB.out hb1)
  have E2 := Lib.hid (blk_keep hb1 D2.out)
  clear hown hb1 x0 x1 hz_x y0 hz_y p0 p1 hz_p HPR
  go_upto_region 2 with fail
  obtain ⟨V1, hV1⟩ : ∃ V1, V1 = v1.alloc (.cells #[.int .i64 L.per, .slice L.A L.ms.length L.cap, .bool cw, .bool mw, .func (.func a1) #[] #[], .func (.func a2) #[] #[], .func (.func 172) #[] #[.pointer (some ⟨pw, 0, none⟩)], .func (.func b1) #[] #[], .func (.func b2) #[] #[], .func (.func 172) #[] #[.pointer (some ⟨qw, 0, none⟩)]] 104) := ⟨_, rfl⟩
  have hbv1 : Below v1.heap.size v1 V1 := hV1 ▸ below_alloc _ _
  have T9 := Lib.hid (show V1.heap[v1.heap.size]? = some (.cells #[.int .i64 L.per, .slice L.A L.ms.length L.cap, .bool cw, .bool mw, .func (.func a1) #[] #[], .func (.func a2) #[] #[], .func (.func 172) #[] #[.pointer (some ⟨pw, 0, none⟩)], .func (.func b1) #[] #[], .func (.func b2) #[] #[], .func (.func 172) #[] #[.pointer (some ⟨qw, 0, none⟩)]] 104 (0, 0)) from hV1 ▸ heap_alloc_new _ _)
  have HB2 := Lib.hid (below_more HB1.out hbv1)
  have HO2 := Lib.hid (ownsRow_of_block HO1.out (fun g hg => hbv1.block g (HO1.out.lt g hg).2))
  have E2 := Lib.hid (blk_keep hbv1 E2.out)
  rw [← hV1]
  clear hV1 hbv1
  have q0 := cell_of_blk T9.out 0; have q1 := cell_of_blk T9.out 1; have q2 := cell_of_blk T9.out 2; have q3 := cell_of_blk T9.out 3; have q4 := cell_of_blk T9.out 4; have q5 := cell_of_blk T9.out 5; have q6 := cell_of_blk T9.out 6; have q7 := cell_of_blk T9.out 7; have q8 := cell_of_blk T9.out 8; have q9 := cell_of_blk T9.out 9; have hz_q := (Array.getElem?_eq_some_iff.1 T9.out).1; simp at q0 q1 q2 q3 q4 q5 q6 q7 q8 q9
  go_wp2_with fail
  refine (HSS.out _ HB2.out pw qw Ap cp (own_nodes HO2.out) (own_len HO2.out).1 (own_len HO2.out).2.1).mono ?_; rintro e v2 ⟨A3, c3, rfl, hkc3, hc3m, hsh, hb2⟩
  obtain ⟨args, hargs⟩ := ShPs.vals hsh
  have HV2 := Lib.hid (fun j s (h : ks[j]? = some s) => ShP.shv (fun b hp => hp.2) s _ (hargs j s h).2)
  have HCE := Lib.hid (fun j s (h : ks[j]? = some s) => (show ∃ b o, A3 = some ⟨b, o, none⟩ ∧ b < v2.heap.size ∧ v2.cell? ⟨b, o + j, none⟩ = some (.iface (tyOf s) (args j)) from by
    obtain ⟨b, o, h1, h2, h3⟩ := (hargs j s h).1; exact ⟨b, o, h1, h2.2, h3⟩))
  have HB3 := Lib.hid (below_more HB2.out hb2)
  have T3 := Lib.hid (blk_keep hb2 T9.out)
  have E3 := Lib.hid (blk_keep hb2 E2.out)
  unfold maxLen at hc3m
  clear hsh hargs hb2 HSS q0 q1 q2 q3 q4 q5 q6 q7 q8 q9 hz_q HO1 HO2 T9 E2
  go_wp2_with fail
  go_loopw [11, 12, 13, 32] (fun v l st i wr => ∃ (k : Nat) (ln x : Int), k ≤ K ∧ i = .int .i64 k ∧ l = .int .i64 ln ∧ st = .int .i64 x ∧ Hid ((ln, x) = stA cw len (ks.take k)) ∧ Hid (wr.ownsRow v2.heap.size 123 9 v k (cellsA cw len ks (usV ks args) k)) ∧ Hid (Below v2.heap.size v2 wr)) (fun _ _ _ i _ => K - (intOf i).toNat)
  case atStart => exact ⟨0, 0, 0, Nat.zero_le _, rfl, rfl, rfl, Lib.hid rfl, Lib.hid (by simpa [cellsA] using World.ownsRow_nil _ _ _ _), Lib.hid (Below.refl _ _)⟩
  case round =>
    obtain ⟨k, ln, x, hk, rfl, rfl, rfl, hpos, hown, hbw⟩ := hrel
    have HOW := Lib.hid hown.out
    have HBR := Lib.hid hbw.out
    have HPO := Lib.hid hpos.out
    clear hown hbw hpos
    by_cases hlt : k < K
    · obtain ⟨s, hs⟩ : ∃ s, ks[k]? = some s := ⟨_, List.getElem?_eq_getElem (by have := HK.out; omega)⟩
      have hsm := List.mem_of_getElem? hs
      obtain ⟨b, o, hA3, hblt, hcell⟩ := HCE.out k s hs
      subst hA3
      have HSV := Lib.hid (HV2.out k s hs)
      have HUS := Lib.hid (usV_at (args := args) hs)
      have HBL := Lib.hid (blA_at (cw := cw) (len := len) hs)
      have HNX := Lib.hid (stA_step (cw := cw) (len := len) hs)
      have HCLS := Lib.hid (cellsA_step cw len ks (usV ks args) k)
      obtain ⟨arg, harg⟩ : ∃ arg, arg = args k := ⟨_, rfl⟩
      rw [← harg] at hcell HSV HUS
      have HNBS := Lib.hid (fun wx (hv : ShV wx s (.iface (tyOf s) arg)) => HNB.out s hsm wx arg hv pw qw)
      have hbd := HBD.out s hsm
      have hcl := HCL.out s hsm
      have hst := HST.out k hk
      rw [← HPO.out] at hst HNX HBL
      dsimp only at hst
      have hEN := Lib.hid (fun st => end_ceil (b := newBl cw s) st (by omega))
      obtain ⟨nb, hnb⟩ : ∃ nb, nb = newBl cw s := ⟨_, rfl⟩
      have HBK := Lib.hid (show brkB cw len s x = (decide (0 < x) && decide (len * (endR nb x).den < (endR nb x).num)) by rw [hnb]; rfl)
      have HPL := Lib.hid (show plA cw len (ln, x) s = if brkB cw len s x then (ln + 1, 0) else (ln, x) from rfl)
      have HNX2 := Lib.hid (show nxA cw len (ln, x) s = ((plA cw len (ln, x) s).1, (plA cw len (ln, x) s).2 + ceilR nb.al.num nb.al.den + 24) by rw [hnb]; rfl)
      rw [← hnb] at HNBS hbd hcl HBL hEN
      clear hnb harg hs hsm
      obtain ⟨nbs, ⟨n1, d1'⟩, ⟨n2, d2⟩, ⟨n3, d3⟩, nln, nst⟩ := nb
      dsimp only at HNBS hbd hcl HBL hEN HBK HNX2
      have hki : (0 : Int) ≤ (k : Int) := by omega
      have hkl : (k : Int) < (K : Int) := by omega
      have z := (HBR.out.cell (p := ⟨b, o + k, none⟩) hblt).trans hcell
      have hbr : b < wr.heap.size := by have := HBR.out.size; omega
      have TR := Lib.hid (blk_keep HBR.out T3.out)
      have ER := Lib.hid (blk_keep HBR.out E3.out)
      have q2 := cell_of_blk TR.out 2; have q3 := cell_of_blk TR.out 3; have q4 := cell_of_blk TR.out 4; have q5 := cell_of_blk TR.out 5; have q6 := cell_of_blk TR.out 6; have q7 := cell_of_blk TR.out 7; have q8 := cell_of_blk TR.out 8; have q9 := cell_of_blk TR.out 9; have hz_q := (Array.getElem?_eq_some_iff.1 TR.out).1; simp at q2 q3 q4 q5 q6 q7 q8 q9
      clear hcell
      go_wp2_with fail
      refine (HNBS.out _ (ShV.below HBR.out s _ HSV.out)).mono ?_; rintro e v4 ⟨rfl, hb4⟩
      have HB4 := Lib.hid hb4
      clear hb4 z hbr q2 q3 q4 q5 q6 q7 q8 q9 hz_q
      go_upto_region 10 with fail
      obtain ⟨V5, hV5⟩ : ∃ V5, V5 = v4.alloc (.cells #[.iface (tyOf s) arg, .int .i64 n1, .int .i64 d1', .int .i64 n2, .int .i64 d2, .int .i64 n3, .int .i64 d3, .int .i64 0, .int .i64 0] 123) := ⟨_, rfl⟩
      have hb5 : Below v4.heap.size v4 V5 := hV5 ▸ below_alloc _ _
      have HB5 := Lib.hid (below_more HB4.out hb5)
      have Q5 := Lib.hid (show V5.heap[v4.heap.size]? = some (.cells #[.iface (tyOf s) arg, .int .i64 n1, .int .i64 d1', .int .i64 n2, .int .i64 d2, .int .i64 n3, .int .i64 d3, .int .i64 0, .int .i64 0] 123 (0, 0)) from hV5 ▸ heap_alloc_new _ _)
      have E5 := Lib.hid (blk_keep hb5 (blk_keep HB4.out ER.out))
      rw [← hV5]
      clear hV5 hb5 ER
      have hPL := HPL.out
      obtain ⟨B, hBB⟩ : ∃ B, B = brkB cw len s x := ⟨_, rfl⟩
      rw [← hBB] at hPL HBK
      have HPL2 := Lib.hid hPL
      clear hPL HPL hBB
      go_cut [51] (fun t wx => t = .bool B ∧ Hid (Below V5.heap.size V5 wx))
      case first =>
        have q0 := cell_of_blk Q5.out 0; have q1 := cell_of_blk Q5.out 1; have q2 := cell_of_blk Q5.out 2; have q3 := cell_of_blk Q5.out 3; have q4 := cell_of_blk Q5.out 4; have q5 := cell_of_blk Q5.out 5; have q6 := cell_of_blk Q5.out 6; have q7 := cell_of_blk Q5.out 7; have q8 := cell_of_blk Q5.out 8; have hz_q := (Array.getElem?_eq_some_iff.1 Q5.out).1; simp at q0 q1 q2 q3 q4 q5 q6 q7 q8
        have p0 := cell_of_blk E5.out 0; have p1 := cell_of_blk E5.out 1; have hz_p := (Array.getElem?_eq_some_iff.1 E5.out).1; simp at p0 p1
        by_cases hx0 : 0 < x
        · have d1 : decide (0 < x) = true := decide_eq_true hx0
          have HEF := Lib.hid (fun wx => endFrom_any (tyOf s) arg n1 d1' n2 d2 n3 d3 0 0 x wx hbd.1 (by omega) (by omega))
          have hen : (0 ≤ (fracR (x * d2 + n2 * 1) (1 * d2)).num ∧ (fracR (x * d2 + n2 * 1) (1 * d2)).num ≤ 2000000000000000) ∧ 1 ≤ (fracR (x * d2 + n2 * 1) (1 * d2)).den ∧ (fracR (x * d2 + n2 * 1) (1 * d2)).den ≤ 1000000 := by
            have a := Int.mul_nonneg (show 0 ≤ x by omega) (show 0 ≤ d2 by omega)
            have b := Int.mul_le_mul (show x ≤ 200004800 by omega) (show d2 ≤ 1000000 by omega) (by omega) (by omega)
            have := fracR_bd (n := x * d2 + n2 * 1) (d := 1 * d2) (by omega) (by omega)
            omega
          have HBK2 := Lib.hid (show B = decide (len * (fracR (x * d2 + n2 * 1) (1 * d2)).den < (fracR (x * d2 + n2 * 1) (1 * d2)).num) by rw [HBK.out, d1]; rfl)
          obtain ⟨⟨m1, m2⟩, hm⟩ : ∃ m, m = fracR (x * d2 + n2 * 1) (1 * d2) := ⟨_, rfl⟩
          rw [← hm] at hen HEF HBK2
          dsimp only at hen HEF HBK2
          have HCM := Lib.hid (fun wx => compare_any m1 m2 len 1 wx (by unfold smallI; omega) (by
            have a := Int.mul_nonneg (show 0 ≤ len by omega) (show 0 ≤ m2 by omega)
            have b := Int.mul_le_mul (show len ≤ 4800 by omega) hen.2.2 (by omega) (by omega)
            unfold smallI; omega))
          have HWH := Lib.hid (fun wx => whole_any len wx)
          have hD : decide (0 < cmpR (m1 * 1) (len * m2)) = B := by rw [cmp_pos, HBK2.out, Int.mul_one]
          obtain ⟨CC, hCC⟩ : ∃ C, C = cmpR (m1 * 1) (len * m2) := ⟨_, rfl⟩
          rw [← hCC] at HCM hD
          unfold GotFr at HWH
          dsimp only at HWH
          clear hm hCC HBK HBK2 hen
          refine wp_region_later (by kernel_rfl) (by kernel_rfl) ?_; (repeat (first | go_big_quiet_step ((first | ((go_at_call 100; exact Calls.later _ (HEF.out _))) | ((go_at_call 101; exact Calls.later _ (HWH.out _))) | ((go_at_call 99; exact Calls.later _ (HCM.out _))))) | quiet_step ((first | ((go_at_call 100; exact Calls.later _ (HEF.out _))) | ((go_at_call 101; exact Calls.later _ (HWH.out _))) | ((go_at_call 99; exact Calls.later _ (HCM.out _))))))); refine wpQuiet_nil ?_; rintro _ ⟨s', rfl⟩
          go_wp2_with fail
          go_meet
          exact ⟨by first | rfl | rw [hD] | simp [hD], Lib.hid s'.below⟩
        · have d1 : decide (0 < x) = false := decide_eq_false hx0
          have HBK2 := Lib.hid (show B = false by rw [HBK.out, d1]; rfl)
          refine wp_region_later (by kernel_rfl) (by kernel_rfl) ?_; (repeat (first | go_big_quiet_step (fail) | quiet_step (fail))); refine wpQuiet_nil ?_; rintro _ ⟨s', rfl⟩
          go_wp2_with fail
          go_meet
          exact ⟨by rw [HBK2.out], Lib.hid s'.below⟩
      case rest =>
        obtain ⟨rfl, hbc⟩ := hcut
        have HBC := Lib.hid hbc.out
        obtain ⟨w5, rfl⟩ : ∃ w5, w5 = wc := ⟨_, rfl⟩
        have Q5 := Lib.hid (blk_keep HBC.out Q5.out)
        have HB6 := Lib.hid (HB5.out.trans (HBC.out.mono HB5.out.size))
        clear hbc E5 HBK
        go_upto_if 51 with fail
        go_cut [12, 13] (fun a c wx => ∃ l2 x2, a = .int .i64 l2 ∧ c = .int .i64 x2 ∧ Hid ((l2, x2) = plA cw len (ln, x) s) ∧ Hid (Below w5.heap.size w5 wx))
        case first =>
          cases B
          · go_wp2_with fail
            go_meet
            exact ⟨ln, x, rfl, rfl, Lib.hid (by rw [HPL2.out]; rfl), Lib.hid (Below.refl _ _)⟩
          · go_wp2_with fail
            go_meet
            exact ⟨ln + 1, 0, rfl, rfl, Lib.hid (by rw [HPL2.out]; rfl), Lib.hid (Below.refl _ _)⟩
        case rest =>
        obtain ⟨l2, x2, rfl, rfl, hp2, hbc2⟩ := hcut
        obtain ⟨Y, rfl⟩ : ∃ Y, Y = wc := ⟨_, rfl⟩
        have HP2 := Lib.hid hp2.out
        have B5 := Lib.hid (blk_keep hbc2.out Q5.out)
        have HB6 := Lib.hid (HB6.out.trans (hbc2.out.mono HB6.out.size))
        have hb2 := plA_bd (cw := cw) (len := len) (s := s) (p := (ln, x)) (k := (k : Int)) hst
        rw [← HP2.out] at hb2
        dsimp only at hb2
        have HSZ := Lib.hid (show wr.heap.size ≤ v4.heap.size from HB4.out.size)
        have HBL2 := Lib.hid (show blA cw len ks k = ⟨s, ⟨n1, d1'⟩, ⟨n2, d2⟩, ⟨n3, d3⟩, l2, x2⟩ by rw [HBL.out, ← HP2.out])
        have HNX3 := Lib.hid (show stA cw len (ks.take (k + 1)) = (l2, x2 + ceilR n2 d2 + 24) by rw [HNX.out, HNX2.out, ← HP2.out])
        clear hp2 hbc2 HBL HNX HNX2 HPL2 hst HP2 HB5 Q5 HBC
        have q0 := cell_of_blk B5.out 0; have qf0 := free_of_blk B5.out 0; have q1 := cell_of_blk B5.out 1; have qf1 := free_of_blk B5.out 1; have q2 := cell_of_blk B5.out 2; have qf2 := free_of_blk B5.out 2; have q3 := cell_of_blk B5.out 3; have qf3 := free_of_blk B5.out 3; have q4 := cell_of_blk B5.out 4; have qf4 := free_of_blk B5.out 4; have q5 := cell_of_blk B5.out 5; have qf5 := free_of_blk B5.out 5; have q6 := cell_of_blk B5.out 6; have qf6 := free_of_blk B5.out 6; have q7 := cell_of_blk B5.out 7; have qf7 := free_of_blk B5.out 7; have q8 := cell_of_blk B5.out 8; have qf8 := free_of_blk B5.out 8; have hz_q := (Array.getElem?_eq_some_iff.1 B5.out).1; simp at q0 q1 q2 q3 q4 q5 q6 q7 q8
        go_upto_region 13 with fail
        obtain ⟨V6, hV6⟩ : ∃ V6, V6 = (Y.setCell ⟨v4.heap.size, 7, none⟩ (.int .i64 l2)).setCell ⟨v4.heap.size, 8, none⟩ (.int .i64 x2) := ⟨_, rfl⟩
        have B6 := Lib.hid (show V6.heap[v4.heap.size]? = some (.cells #[.iface (tyOf s) arg, .int .i64 n1, .int .i64 d1', .int .i64 n2, .int .i64 d2, .int .i64 n3, .int .i64 d3, .int .i64 l2, .int .i64 x2] 123 (0, 0)) by
          have h := heap_setCell_same _ v4.heap.size 8 (.int .i64 x2) _ _ (heap_setCell_same Y v4.heap.size 7 (.int .i64 l2) _ _ B5.out)
          rw [hV6]; simpa using h)
        have HB7 := Lib.hid (show Below wr.heap.size wr V6 from hV6 ▸ (HB6.out.setCell HSZ.out _).setCell HSZ.out _)
        rw [← hV6]
        clear hV6 q0 q1 q2 q3 q4 q5 q6 q7 q8 hz_q qf0 qf1 qf2 qf3 qf4 qf5 qf6 qf7 qf8
        have q0 := cell_of_blk B6.out 0; have q1 := cell_of_blk B6.out 1; have q2 := cell_of_blk B6.out 2; have q3 := cell_of_blk B6.out 3; have q4 := cell_of_blk B6.out 4; have q5 := cell_of_blk B6.out 5; have q6 := cell_of_blk B6.out 6; have q7 := cell_of_blk B6.out 7; have q8 := cell_of_blk B6.out 8; have hz_q := (Array.getElem?_eq_some_iff.1 B6.out).1; simp at q0 q1 q2 q3 q4 q5 q6 q7 q8
        have HOV := Lib.hid (ownsRow_of_block HOW.out (fun g hg => HB7.out.block g (HOW.out.lt g hg).2))
        obtain ⟨Av, cv, hv7, -, -, -, -⟩ := own_slice HOW.out
        subst hv7
        have HSS := Lib.hid (show v2.heap.size ≤ V6.heap.size from Nat.le_trans HBR.out.size HB7.out.size)
        have HSA := Lib.hid (show ∀ (o : Obj), v2.heap.size ≤ (V6.alloc o).heap.size from fun o => by rw [World.size_alloc]; have := HSS.out; omega)
        have HNR := Lib.hid (new_row V6 [.iface (tyOf s) arg, .int .i64 n1, .int .i64 d1', .int .i64 n2, .int .i64 d2, .int .i64 n3, .int .i64 d3, .int .i64 l2, .int .i64 x2] 123)
        have HN1 := Lib.hid (show ∀ u ∈ ([.iface (tyOf s) arg, .int .i64 n1, .int .i64 d1', .int .i64 n2, .int .i64 d2, .int .i64 n3, .int .i64 d3, .int .i64 l2, .int .i64 x2] : List Value), u.oneCell' = true from fun u hu => by simp at hu; rcases hu with rfl | rfl | rfl | rfl | rfl | rfl | rfl | rfl | rfl <;> rfl)
        go_wp2_with (first
          | (at_builtin; refine wpList_append_src _ rfl (.tmp 58) (.tmp 60) 119 rfl v2.heap.size 123 iv (.agg #[.nilIface, .int .i64 0, .int .i64 0, .int .i64 0, .int .i64 0, .int .i64 0, .int .i64 0, .int .i64 0, .int .i64 0]) 9 80 Tryz.underlying119 hiv.out hzv.out hsv.out hbv.out rfl (by decide) (.slice Av k cv) k (cellsA cw len ks (usV ks args) k) rfl (HOV.out.alloc _) (some ⟨V6.heap.size, 0, none⟩) 1 1 [.iface (tyOf s) arg, .int .i64 n1, .int .i64 d1', .int .i64 n2, .int .i64 d2, .int .i64 n3, .int .i64 d3, .int .i64 l2, .int .i64 x2] rfl rfl (fun h => by cases h) HNR.out HN1.out (by unfold maxLen; omega) (by omega) (HSA.out _) (k + 1) rfl ?_))
        intro A9 c9 w9 own9 hg9 _
        have HB9 := Lib.hid (((HBR.out.trans (HB7.out.mono HBR.out.size)).alloc HSS.out _).grown hg9 (by rw [World.size_alloc]; have := HSS.out; omega) (fun g hg => (HOV.out.lt g hg).1))
        have HO9 := Lib.hid (show w9.ownsRow v2.heap.size 123 9 (.slice A9 (k + 1) c9) (k + 1) (cellsA cw len ks (usV ks args) (k + 1)) by
          rw [HCLS.out, HBL2.out, HUS.out]; exact own9)
        have B7 := Lib.hid (show w9.heap[v4.heap.size]? = some (.cells #[.iface (tyOf s) arg, .int .i64 n1, .int .i64 d1', .int .i64 n2, .int .i64 d2, .int .i64 n3, .int .i64 d3, .int .i64 l2, .int .i64 x2] 123 (0, 0)) from
          (hg9.block v4.heap.size (by rw [World.size_alloc]; have := (Array.getElem?_eq_some_iff.1 B6.out).1; omega) (fun h => by have h1 := (HOW.out.lt _ h.symm).2; have := HSZ.out; omega)).trans ((heap_alloc_other _ _ _ (Array.getElem?_eq_some_iff.1 B6.out).1).trans B6.out))
        have HEF := Lib.hid (fun wx => endFrom_any (tyOf s) arg n1 d1' n2 d2 n3 d3 l2 x2 x2 wx hbd.1 (by omega) (by omega))
        have hen : (0 ≤ (fracR (x2 * d2 + n2 * 1) (1 * d2)).num ∧ (fracR (x2 * d2 + n2 * 1) (1 * d2)).num ≤ 2000000000000000) ∧ 1 ≤ (fracR (x2 * d2 + n2 * 1) (1 * d2)).den ∧ (fracR (x2 * d2 + n2 * 1) (1 * d2)).den ≤ 1000000 := by
          have a := Int.mul_nonneg (show 0 ≤ x2 by omega) (show 0 ≤ d2 by omega)
          have b := Int.mul_le_mul (show x2 ≤ 200004800 by omega) (show d2 ≤ 1000000 by omega) (by omega) (by omega)
          have := fracR_bd (n := x2 * d2 + n2 * 1) (d := 1 * d2) (by omega) (by omega)
          omega
        have hce : ceilR (fracR (x2 * d2 + n2 * 1) (1 * d2)).num (fracR (x2 * d2 + n2 * 1) (1 * d2)).den = x2 + ceilR n2 d2 := hEN.out x2
        obtain ⟨⟨m1, m2⟩, hm⟩ : ∃ m, m = fracR (x2 * d2 + n2 * 1) (1 * d2) := ⟨_, rfl⟩
        rw [← hm] at hen HEF hce
        dsimp only at hen HEF hce
        have HCE2 := Lib.hid (fun wx => ceiling_any m1 m2 wx (by omega) (by omega))
        rw [hce] at HCE2
        obtain ⟨cl, hcl2⟩ : ∃ c, c = ceilR n2 d2 := ⟨_, rfl⟩
        rw [← hcl2] at HCE2 hcl HNX3
        clear hm hen hcl2 hce hEN own9 hg9 HNR HN1 HSA q0 q1 q2 q3 q4 q5 q6 q7 q8 hz_q HB7 HOV B6 HBL2 HCLS
        have q0 := cell_of_blk B7.out 0; have q1 := cell_of_blk B7.out 1; have q2 := cell_of_blk B7.out 2; have q3 := cell_of_blk B7.out 3; have q4 := cell_of_blk B7.out 4; have q5 := cell_of_blk B7.out 5; have q6 := cell_of_blk B7.out 6; have q7 := cell_of_blk B7.out 7; have q8 := cell_of_blk B7.out 8; have hz_q := (Array.getElem?_eq_some_iff.1 B7.out).1; simp at q0 q1 q2 q3 q4 q5 q6 q7 q8
        go_wp2_with fail
        refine (HEF.out _).mono ?_; rintro e w10 ⟨rfl, hb10⟩
        have HB10 := Lib.hid (HB9.out.trans (hb10.mono HB9.out.size))
        have HO10 := Lib.hid (ownsRow_of_block HO9.out (fun g hg => hb10.block g (HO9.out.lt g hg).2))
        clear hb10 q0 q1 q2 q3 q4 q5 q6 q7 q8 hz_q
        go_wp2_with fail
        refine (HCE2.out _).mono ?_; rintro e w11 ⟨rfl, hb11⟩
        have HB11 := Lib.hid (HB10.out.trans (hb11.mono HB10.out.size))
        have HO11 := Lib.hid (ownsRow_of_block HO10.out (fun g hg => hb11.block g (HO10.out.lt g hg).2))
        clear hb11
        go_wp2_with fail
        go_roundw
        case rel => exact ⟨k + 1, l2, x2 + cl + 24, by omega, by go_num, rfl, rfl, Lib.hid HNX3.out.symm, HO11, HB11⟩
        case measure => simp [intOf]; omega
    · obtain rfl : k = K := by omega
      obtain ⟨Av, cv, hv7, -, -, -, -⟩ := own_slice HOW.out
      subst hv7
      have HBF := Lib.hid (below_more HB3.out HBR.out)
      have HOF := Lib.hid (own_base HOW.out HB3.out.size)
      have HVF := Lib.hid (show ∀ j s, ks[j]? = some s → ShV wr s (.iface (tyOf s) (args j)) from fun j s h => ShV.below HBR.out s _ (HV2.out j s h))
      go_wp2_with fail
      go_ret2
      exact ⟨Av, cv, args, rfl, HOF, HVF, HBF.out⟩
end Go.Proofs.YtmiokllpdmmfhaaGreat
