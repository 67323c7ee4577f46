/-
  append onto an owned row, the source nil or not, at a step of a region that draws its order. And what builds on it.
-/
import Derived.Test.YtilagndfohnjnaaPkB
import Derived.Deep.AppendLies
import Derived.Test.YtilagndfohnjnaaPkF
import Derived.Test.YtilagndfohnjnaaPkE
import Derived.Test.YtilagndfohnjnaaPkD
import Derived.Deep.RegionHeld3
import Derived.Deep.DeepCutAuto
import Derived.Test.YtilagndfohnjnaaPkH

/- append onto an owned row, the source nil or not, at a step of a region that draws its order. -/
namespace Go.Proofs.Ytilagndfohnjnaa
open Go.RowKit

theorem run_append_src {P : Program} (w : World) (t ty : TypeId) (base : Nat) (e : TypeId) (i : TypeInfo) (z : Value) (size bytes : Nat) (ht : P.underlying t = some (.slice e)) (hi : P.info? e = some i) (hz : i.zero = some z)
    (hsize : i.size = size) (hby : i.bytes = bytes) (hzs : z.cells.size = size) (hsz : 0 < size)
    (v : Value) (n : Nat) (xs : List Value) (hown : w.ownsRow base e size v n xs)
    (A : Option Addr) (m c : Nat) (news : List Value) (hl : news.length = m * size) (hA : A = none → m = 0) (hnews : ∀ ad, A = some ad → ∀ j u, news[j]? = some u → w.cell? (ad.add j) = some u) (h1 : ∀ u ∈ news, u.oneCell' = true)
    (h63 : n + m ≤ maxLen) (hbytes : (n + m) * bytes ≤ 140737488355328) (hbase : base ≤ w.heap.size) (N : Nat) (hN : N = n + m) :
    ∃ A' c' w', (Builtin.append_ #[t, t] ty #[v, .slice A m c]).run P w = .ok (.slice A' N c') w' ∧ w'.ownsRow base e size (.slice A' N c') N (xs ++ news) ∧ w.grownBy w' v.ownBlock := by
  subst hN
  cases A with
  | some ad =>
    obtain ⟨v', w', hr, h2, h3, _, _⟩ := run_append_own_at (P := P) w base t ty e i z size bytes ht hi hz hsize hby hzs hsz v n xs hown ad m c news hl (hnews ad rfl) h1 h63 hbytes hbase
    obtain ⟨A', c', rfl, _⟩ := own_slice h2
    exact ⟨A', c', w', hr, h2, h3⟩
  | none =>
    have hm := hA rfl
    subst hm
    have hn : news = [] := List.eq_nil_of_length_eq_zero (by simpa using hl)
    subst hn
    have hrun := append_nil_src (P := P) w base t ty e i size ht hi v n xs hown c
    obtain ⟨A', c', rfl, _⟩ := own_slice hown
    exact ⟨A', c', w, hrun, by simpa using hown, World.grownBy.refl w _⟩

theorem step_append_src {P : Program} (w : World) {ops : Array Oper} {o : Oper} {a : Act} {K : Act → World → Prop} {Q : Exit → Act → World → Prop} {E : Prop} (hgd : o.guard = none) (s x : Operand) (t : TypeId)
    (ho : o.op = .call { callee := .builtin .append, args := #[s, x], argTypes := #[t, t] })
    (base : Nat) (e : TypeId) (i : TypeInfo) (z : Value) (size bytes : Nat) (ht : P.underlying t = some (.slice e)) (hi : P.info? e = some i) (hz : i.zero = some z)
    (hsize : i.size = size) (hby : i.bytes = bytes) (hzs : z.cells.size = size) (hsz : 0 < size)
    (v : Value) (n : Nat) (xs : List Value) (hs : a.eval s = v) (hown : w.ownsRow base e size v n xs)
    (A : Option Addr) (m c : Nat) (news : List Value) (hx : a.eval x = .slice A m c) (hl : news.length = m * size) (hA : A = none → m = 0) (hnews : ∀ ad, A = some ad → ∀ j u, news[j]? = some u → w.cell? (ad.add j) = some u) (h1 : ∀ u ∈ news, u.oneCell' = true)
    (h63 : n + m ≤ maxLen) (hbytes : (n + m) * bytes ≤ 140737488355328) (hbase : base ≤ w.heap.size) (N : Nat) (hN : N = n + m)
    (h : ∀ A' c' w', w'.ownsRow base e size (.slice A' N c') N (xs ++ news) → w.grownBy w' v.ownBlock → K (a.put o.dst (.slice A' N c')) w') :
    if Region.wanted o (yielded ops a.tmps) = true then Oper.wp P o a w K Q else E := by
  have hw : Region.wanted o (yielded ops a.tmps) = true := by simp [Region.wanted, hgd]
  rw [if_pos hw]
  obtain ⟨A', c', w', hr, h2, h3⟩ := run_append_src (P := P) w t o.type base e i z size bytes ht hi hz hsize hby hzs hsz v n xs hown A m c news hl hA hnews h1 h63 hbytes hbase N hN
  unfold Oper.wp execOp
  simp only [ho, resolve, invoke, builtin, Sem.run_bind, Sem.run_pure, Result.andThen_ok, List.map_toArray, List.map_cons, List.map_nil, hs, hx, hr]
  exact h A' c' w' h2 h3

end Go.Proofs.Ytilagndfohnjnaa

/- The specification's Leaves of a node. -/
namespace Go.Proofs.Ytilagndfohnjnaa
open Go.RowKit

theorem intsV_one (l : List Nat) : ∀ u ∈ intsV l, u.oneCell' = true := fun u hu => by
  unfold intsV at hu
  obtain ⟨j, _, rfl⟩ := List.mem_map.1 hu
  rfl
theorem intsV_app (a b : List Nat) : intsV (a ++ b) = intsV a ++ intsV b := by unfold intsV; rw [List.map_append]
theorem own_one (w : World) (v : Value) (e : TypeId) : (w.alloc (.cells #[v] e)).ownsRow w.heap.size e 1 (.slice (some ⟨w.heap.size, 0, none⟩) 1 1) 1 [v] :=
  ⟨by simp, .inr ⟨w.heap.size, 1, #[v], rfl, Nat.le_refl _, heap_alloc_new _ _, Nat.le_refl _, by unfold maxLen; omega, by simp, by simp⟩⟩

set_option maxRecDepth 100000 in
set_option maxHeartbeats 16000000 in
theorem rleaves_any (A : Option Addr) (cap : Nat) (ns : List Nd) (hok : VisOk ns) (hon2 : ∀ (i : Nat) (u : Nd), ns[i]? = some u → u.kind = 7 → 2 ≤ (kidsL ns i).length) (hc1 : ns.length ≤ cap) (hc : cap ≤ maxLen) (hsm : ns.length ≤ 1000) : ∀ (f i : Nat) (u : Nd) (w : World), ns[i]? = some u → 5 ≤ u.depth + f → f ≤ 5 → NdsAt w A ns →
    Calls Try.prog 69 #[.agg #[.slice A ns.length cap], .int .i64 i] w (GotRow w 3 1 (leavesF ns f i).length (intsV (leavesF ns f i)))
  | 0, i, u, w, hi, hf, _, _ => by
    have := hok.dep u (List.mem_of_getElem? hi)
    omega
  | f + 1, i, u, w, hi, hf, hf5, hn => by
    have HIH := Lib.hid (fun (j : Nat) (x : Nd) (wx : World) (hb : Below w.heap.size w wx) (hj : ns[j]? = some x) (hd : 5 ≤ x.depth + f) => rleaves_any A cap ns hok hon2 hc1 hc hsm f j x wx hj hd (by omega) (hn.below hb))
    have hud := hok.dep u (List.mem_of_getElem? hi)
    have HNS := Lib.hid hn
    have HOK := Lib.hid hok
    have HI := Lib.hid hi
    have HLF := Lib.hid (leavesF_at hi f)
    have HLN := Lib.hid (fun j => leavesF_len hok f j)
    have HCM := Lib.hid hc
    obtain ⟨b, o, rfl, hb, hva⟩ := hn i u hi
    have y0 := hva.c0
    have hin : i < ns.length := (List.getElem?_eq_some_iff.1 hi).1
    have HKD := Lib.hid (fun wx (hbx : Below w.heap.size w wx) => show Calls Try.prog 67 #[.agg #[.slice (some ⟨b, o, none⟩) ns.length cap], .int .i64 i] wx (GotRow wx 3 1 (kidsL ns i).length (intsV (kidsL ns i))) by
      have := rkids_any (some ⟨b, o, none⟩) cap ns i (u.depth + 1) (i + 1) wx (hn.below hbx) hc1 hc (by omega) (.inl ⟨i, u, rfl, hi, rfl, rfl, by omega, by omega⟩)
      rw [kidsG_is hi] at this; exact this)
    have HAT := Lib.hid (fun j (hj : j ∈ kidsL ns i) => kids_at hi hj)
    have HHN := Lib.hid (fun (h : u.kind = 7) => hon2 i u hi h)
    have HSX := Lib.hid (hok.six i)
    obtain ⟨N, hN⟩ : ∃ N, N = ns.length := ⟨_, rfl⟩
    have HN := Lib.hid hN
    obtain ⟨R, hR⟩ : ∃ R, R = leavesF ns (f + 1) i := ⟨_, rfl⟩
    rw [← hR] at HLF ⊢
    rw [← hN] at hsm hin HIH HKD hc1 ⊢
    unfold maxLen at hc
    have HDU := Lib.hid hf
    obtain ⟨kind, hkd⟩ : ∃ k, k = u.kind := ⟨_, rfl⟩
    rw [← hkd] at y0 HLF HHN
    clear hn hok hi hva hN hR hkd hf
    obtain ⟨W, hW⟩ : ∃ W, W = w.alloc (.cells #[.slice (some ⟨b, o, none⟩) N cap] 27) := ⟨_, rfl⟩
    have HB := Lib.hid (show Below w.heap.size w W from hW ▸ below_alloc _ _)
    have HX := Lib.hid (show W.heap[w.heap.size]? = some (.cells #[.slice (some ⟨b, o, none⟩) N cap] 27 (0, 0)) by rw [hW]; exact heap_alloc_new _ _)
    have hi0 : decide ((0 : Int) ≤ (i : Int)) = true := decide_eq_true (by omega)
    obtain ⟨lf, hlf⟩ : ∃ lf, leafB kind = lf := ⟨_, rfl⟩
    have HLE := Lib.hid (fun wx => leaf_is kind wx lf hlf)
    have HLB := Lib.hid hlf
    clear hlf
    obtain ⟨iv, hiv, hzv, hsv, hbv⟩ := info_hid infoInt
    go_enter Try.func69, Try.ntmps69
    go_wp2_with fail
    rw [← hW]
    refine (HLE.out W).mono ?_; rintro e w' ⟨rfl, rfl⟩
    have x0 := cell_of_blk HX.out 0
    have hx0 := (Array.getElem?_eq_some_iff.1 HX.out).1
    have z0 := (HB.out.cell (p := ⟨b, o + i * 8, none⟩) hb).trans y0
    have hbW : b < W.heap.size := by have := HB.out.size; omega
    simp at x0
    clear hW y0
    cases lf with
    | true =>
      have HF := Lib.hid (show R = [i] by rw [HLF.out, HLB.out]; rfl)
      clear HLF HIH HLE
      go_wp2_with fail
      go_ret
      rw [HF.out]
      exact ⟨some ⟨W.heap.size, 0, none⟩, 1, rfl, own_base (own_one W (.int .i64 (i : Nat)) 3) HB.out.size, HB.out.alloc HB.out.size _⟩
    | false =>
      have HF := Lib.hid (show R = (kidsO ns i kind).flatMap (leavesF ns f) by rw [HLF.out, HLB.out]; rfl)
      clear HLF HLE
      go_wp2_with fail
      refine (HKD.out W HB.out).mono ?_; rintro e w1 ⟨A1, c1, rfl, hown, hb1⟩
      have HB1 := Lib.hid (below_more HB.out hb1)
      have HX1 := Lib.hid (blk_keep hb1 HX.out)
      have x0 := cell_of_blk HX1.out 0
      have hx0 := (Array.getElem?_eq_some_iff.1 HX1.out).1
      have z0 := (hb1.cell (p := ⟨b, o + i * 8, none⟩) hbW).trans z0
      have hbw1 : b < w1.heap.size := by have := hb1.size; omega
      have hw01 : W.heap.size ≤ w1.heap.size := hb1.size
      simp at x0
      obtain ⟨ks, hks⟩ : ∃ ks, ks = kidsL ns i := ⟨_, rfl⟩
      have HKO := Lib.hid (show kidsO ns i kind = if kind = 7 then ks.drop 1 ++ ks.take 1 else ks by rw [hks]; rfl)
      have HKM := Lib.hid (show ∀ j ∈ kidsO ns i kind, j ∈ ks from fun j hj => by rw [hks]; exact kidsO_mem hj)
      have HKL := Lib.hid (show (kidsO ns i kind).length = ks.length by rw [hks]; exact kidsO_len ns i kind)
      rw [← hks] at hown HAT HHN HSX ⊢
      obtain ⟨n, hn⟩ : ∃ n, n = ks.length := ⟨_, rfl⟩
      have HNK := Lib.hid hn
      rw [← hn] at hown HHN HSX HKL ⊢
      have hn6 : n ≤ 6 := HSX.out
      have HO1 := Lib.hid hown
      have hol := own_len hown
      have hnc := hol.1
      have hcm := hol.2.1
      unfold maxLen at hcm
      have HBW1 := Lib.hid hb1
      clear hks hn hown hb1 HB HKD hol
      obtain ⟨k7, hk7⟩ : ∃ k7, (kind == 7) = k7 := ⟨_, rfl⟩
      have HK7 := Lib.hid hk7
      go_upto_if 34 with fail
      clear hk7
      go_cut [5] (fun v wx => ∃ Ak ck, v = .slice Ak n ck ∧ Hid (wx.ownsRow W.heap.size 3 1 (.slice Ak n ck) n (intsV (kidsO ns i kind))) ∧ Hid (Below w1.heap.size w1 wx))
      case first =>
        cases k7 with
        | false =>
          have HE := Lib.hid (show kidsO ns i kind = ks by rw [HKO.out, if_neg]; intro h; have := HK7.out; rw [h] at this; simp at this)
          go_wp2_with fail
          go_meet
          exact ⟨A1, c1, rfl, Lib.hid (by rw [HE.out]; exact HO1.out), Lib.hid (Below.refl _ _)⟩
        | true =>
          have hke : kind = 7 := by have := HK7.out; simpa using this
          have h1n := HHN.out hke
          have HE := Lib.hid (show kidsO ns i kind = ks.drop 1 ++ ks.take 1 by rw [HKO.out, if_pos hke])
          obtain ⟨g, rfl, hbg, hg, -, -, hcell, -⟩ := own_open HO1.out (by omega)
          obtain ⟨k0, hk0⟩ : ∃ k0, ks[0]? = some k0 := ⟨_, List.getElem?_eq_getElem (by have := HNK.out; omega)⟩
          have y0 : w1.cell? ⟨g, 0, none⟩ = some (.int .i64 (k0 : Nat)) := hcell 0 _ (by unfold intsV; rw [List.getElem?_map, hk0]; rfl)
          have HT1 := Lib.hid (show intsV (ks.drop 1 ++ ks.take 1) = intsV (ks.drop 1) ++ [.int .i64 (k0 : Nat)] by
            have : ks.take 1 = [k0] := by cases ks with | nil => simp at hk0 | cons a r => simp at hk0; subst hk0; rfl
            rw [intsV_app, this]; rfl)
          have HD1 := Lib.hid (show (intsV (ks.drop 1)).length = (n - 1) * 1 by unfold intsV; rw [List.length_map, List.length_drop, ← HNK.out]; omega)
          have HCC := Lib.hid (fun wx (hb : Below w1.heap.size w1 wx) => show ∀ ad, some (⟨g, 1, none⟩ : Addr) = some ad → ∀ j u, (intsV (ks.drop 1))[j]? = some u → wx.cell? (ad.add j) = some u from fun ad e j u hj => by
            injection e with e; subst e
            rw [addr_add]
            refine (hb.cell (p := ⟨g, 1 + j, none⟩) hg).trans (hcell _ _ ?_)
            unfold intsV at hj ⊢
            rw [List.getElem?_map, List.getElem?_drop] at hj
            rw [List.getElem?_map]; exact hj)
          obtain ⟨ds, hds⟩ : ∃ ds, ds = intsV (ks.drop 1) := ⟨_, rfl⟩
          have HD2 := Lib.hid (show ∀ u ∈ ds, u.oneCell' = true by rw [hds]; exact intsV_one _)
          rw [← hds] at HT1 HD1 HCC
          have hc1f : (c1 = 1) = False := by simp; omega
          have hi1 : (1 : Int) ≤ (n : Int) := by omega
          have hi0' : (0 : Int) < (n : Int) := by omega
          have hi2 : (n : Int) ≤ (c1 : Int) := by omega
          have hi3 : 0 < n := by omega
          have HK := Lib.hid (fun wx (hb : Below w1.heap.size w1 wx) => show wx.cell? ⟨g, 0, none⟩ = some (.int .i64 (k0 : Nat)) from (hb.cell (p := ⟨g, 0, none⟩) hg).trans y0)
          clear hcell hk0 hds hke y0
          go_wp2_with fail
          go_region_held3 (fun w' => w'.cell? ⟨g, 0, none⟩ = some (.int .i64 (k0 : Nat)))
            ((refine HK.out _ ?_; first | assumption | (repeat (first | exact Below.refl _ _ | assumption | refine Below.drew ?_ | refine Below.alloc ?_ (by first | omega | (simp; omega) | simp) _))))
            (first
              | (refine step_append_src _ rfl (.tmp 35) (.tmp 37) 38 rfl w1.heap.size 3 iv (.int .i64 0) 1 8 Try.underlying38 hiv.out hzv.out hsv.out hbv.out rfl (by decide) (.slice (some ⟨w1.heap.size, 0, none⟩) 0 0) 0 [] rfl (by first | exact own_empty _ _ _ | exact (own_empty _ _ _).alloc _ | exact (own_empty _ _ _).drew | exact ((own_empty _ _ _).alloc _).drew) (some ⟨g, 1, none⟩) (n - 1) (c1 - 1) ds rfl HD1.out (by intro h; cases h) (HCC.out _ (by repeat (first | exact Below.refl _ _ | assumption | refine Below.drew ?_ | refine Below.alloc ?_ (by first | omega | (simp; omega) | simp) _))) HD2.out (by unfold maxLen; omega) (by omega) (by simp; try omega) (n - 1) (by omega) ?_; intro A3 c3 w3 own3 hg3; have hbw3 : Below w1.heap.size w1 w3 := Below.grown (by repeat (first | exact Below.refl _ _ | assumption | refine Below.drew ?_ | refine Below.alloc ?_ (by first | omega | (simp; omega) | simp) _)) hg3 (by simp; try omega) (fun g' e => by have h := Option.some.inj (show some _ = some g' from e); (try dsimp only at h); (try simp at h); omega); have hz3 := hbw3.size; have hy3 := hg3.size; (try simp at hy3))
              | (refine step_append_src _ rfl (.tmp 35) (.tmp 37) 38 rfl w1.heap.size 3 iv (.int .i64 0) 1 8 Try.underlying38 hiv.out hzv.out hsv.out hbv.out rfl (by decide) (.slice (some ⟨w1.heap.size + 1, 0, none⟩) 0 0) 0 [] rfl (by have h := own_base (b0 := w1.heap.size) (own_empty (w1.alloc (.cells #[.int .i64 (k0 : Nat)] 3)) 3 1) (by simp); simp at h; first | exact h | exact h.drew) (some ⟨g, 1, none⟩) (n - 1) (c1 - 1) ds rfl HD1.out (by intro h; cases h) (HCC.out _ (by repeat (first | exact Below.refl _ _ | assumption | refine Below.drew ?_ | refine Below.alloc ?_ (by first | omega | (simp; omega) | simp) _))) HD2.out (by unfold maxLen; omega) (by omega) (by simp; try omega) (n - 1) (by omega) ?_; intro A3 c3 w3 own3 hg3; have hbw3 : Below w1.heap.size w1 w3 := Below.grown (by repeat (first | exact Below.refl _ _ | assumption | refine Below.drew ?_ | refine Below.alloc ?_ (by first | omega | (simp; omega) | simp) _)) hg3 (by simp; try omega) (fun g' e => by have h := Option.some.inj (show some _ = some g' from e); (try dsimp only at h); (try simp at h); omega); have hz3 := hbw3.size; have hy3 := hg3.size; (try simp at hy3))
              | (refine step_append_src _ rfl (.tmp 38) (.tmp 42) 38 rfl w1.heap.size 3 iv (.int .i64 0) 1 8 Try.underlying38 hiv.out hzv.out hsv.out hbv.out rfl (by decide) _ (n - 1) ds rfl (by first | exact own3 | exact own3.alloc _ | exact (own3.alloc _).drew | exact own3.drew) _ 1 1 [.int .i64 (k0 : Nat)] rfl rfl (by intro h; cases h) (by intro ad e j u hj; have e := Option.some.inj e; subst e; first | exact World.news_of_block (cs := #[.int .i64 (k0 : Nat)]) (heap_alloc_new _ _) j u hj | exact World.news_of_block (cs := #[.int .i64 (k0 : Nat)]) (t := 3) (fr := (0, 0)) ((hg3.block (w1.heap.size + 1) (by first | (simp; done) | (simp; omega)) (by intro e; have h := Option.some.inj (show some (w1.heap.size + 1) = some w1.heap.size from e); omega)).trans (show ((w1.alloc (.cells #[] 3)).alloc (.cells #[.int .i64 (k0 : Nat)] 3)).heap[w1.heap.size + 1]? = some (.cells #[.int .i64 (k0 : Nat)] 3 (0, 0)) from by have h := heap_alloc_new (w1.alloc (.cells #[] 3)) (.cells #[.int .i64 (k0 : Nat)] 3); rw [World.size_alloc] at h; exact h)) j u hj | exact World.news_of_block (cs := #[.int .i64 (k0 : Nat)]) (t := 3) (fr := (0, 0)) ((hg3.block w1.heap.size (by first | (simp; done) | (simp; omega)) (by intro e; have h := Option.some.inj (show some w1.heap.size = some (w1.heap.size + 1) from e); omega)).trans ((heap_alloc_other _ _ _ (by simp)).trans (heap_alloc_new _ _))) j u hj) (by intro u hu; simp at hu; subst hu; rfl) (by unfold maxLen; omega) (by omega) (by first | omega | (simp; omega)) n (by omega) ?_; intro A4 c4 w4 own4 hg4; have hbw4 : Below w1.heap.size w1 w4 := Below.grown (by repeat (first | exact Below.refl _ _ | assumption | refine Below.drew ?_ | refine Below.alloc ?_ (by first | omega | (simp; omega) | simp) _)) hg4 (by first | omega | (simp; omega)) (fun g' e => by have := (own3.lt g' e).1; omega)))
          all_goals
            go_wp2
            go_meet
            exact ⟨A4, c4, rfl, Lib.hid (by rw [HE.out, HT1.out]; exact own_base own4 hw01), Lib.hid hbw4⟩
      case rest =>
      obtain ⟨Ak, ck, rfl, hown, hbw⟩ := hcut
      obtain ⟨w2, rfl⟩ : ∃ w2, w2 = wc := ⟨_, rfl⟩
      have HX2 := Lib.hid (blk_keep hbw.out HX1.out)
      have HB2 := Lib.hid (below_more HB1.out hbw.out)
      obtain ⟨kO, hkO⟩ : ∃ kO, kO = kidsO ns i kind := ⟨_, rfl⟩
      rw [← hkO] at HKM HKL HF hown
      have HKL2 := Lib.hid (show n = kO.length from HKL.out.symm)
      have HRI := Lib.hid (row_ints hown.out)
      have hp6 : 6 ^ f ≤ 1296 := Nat.pow_le_pow_right (by omega) (show f ≤ 4 by omega)
      have HL6 := Lib.hid (fun j => show (leavesF ns f j).length ≤ 1296 from Nat.le_trans (HLN.out j) hp6)
      clear hown hbw hkO x0 z0 hx0 hbw1 HO1 HKO HKL HBW1 HX1 HX hp6 HK7 HHN HSX
      go_wp2_with fail
      go_loopw [6, 7] (fun v c wr => ∃ (k m : Nat), k ≤ n ∧ c = .int .i64 k ∧ m ≤ k * 1296 ∧ Hid (m = ((kO.take k).flatMap (leavesF ns f)).length) ∧ Hid (wr.ownsRow w2.heap.size 3 1 v m (intsV ((kO.take k).flatMap (leavesF ns f)))) ∧ Hid (Below w2.heap.size w2 wr)) (fun _ c _ => n - (intOf c).toNat)
      case atStart => exact ⟨0, 0, Nat.zero_le _, rfl, by omega, Lib.hid (by simp), Lib.hid (by simpa [intsV] using World.ownsRow_nil _ _ _ _), Lib.hid (Below.refl _ _)⟩
      case round =>
        obtain ⟨k, m, hk, rfl, hmk, hml, hown, hbw⟩ := hrel
        have HOW := Lib.hid hown.out
        have HBW := Lib.hid hbw.out
        have HML := Lib.hid hml.out
        clear hown hbw hml
        by_cases hlt : k < n
        · obtain ⟨j, hj⟩ : ∃ j, kO[k]? = some j := ⟨_, List.getElem?_eq_getElem (by have := HKL2.out; omega)⟩
          obtain ⟨x, hx, hxd⟩ := HAT.out j (HKM.out j (List.mem_of_getElem? hj))
          have HIJ := Lib.hid (fun wx (hb : Below w.heap.size w wx) => HIH.out j x wx hb hx (by have := HDU.out; omega))
          have HTK := Lib.hid (show (kO.take (k + 1)).flatMap (leavesF ns f) = (kO.take k).flatMap (leavesF ns f) ++ leavesF ns f j by
            obtain ⟨hk', e⟩ := List.getElem?_eq_some_iff.1 hj
            rw [List.take_succ_eq_append_getElem hk', e, List.flatMap_append]; simp)
          obtain ⟨g, o2, rfl, hg, hcell⟩ := HRI.out k j hj
          obtain ⟨ls, hls⟩ : ∃ ls, ls = leavesF ns f j := ⟨_, rfl⟩
          have hll : ls.length ≤ 1296 := by rw [hls]; exact HL6.out j
          obtain ⟨done, hdn⟩ : ∃ d, d = (kO.take k).flatMap (leavesF ns f) := ⟨_, rfl⟩
          rw [← hls] at HIJ HTK
          rw [← hdn] at HTK HOW HML
          obtain ⟨q, hq⟩ : ∃ q, q = ls.length := ⟨_, rfl⟩
          have HQ := Lib.hid hq
          rw [← hq] at HIJ hll
          obtain ⟨Av, cv, hv, -, -, -, -⟩ := own_slice HOW.out
          subst hv
          have hs2 := HBW.out.size
          have HK := Lib.hid (fun wx (hb : Below w2.heap.size w2 wx) => show wx.cell? ⟨w.heap.size, 0, none⟩ = some (.slice (some ⟨b, o, none⟩) N cap) ∧ wx.cell? ⟨g, o2 + k, none⟩ = some (.int .i64 (j : Nat)) from
            ⟨by have := cell_of_blk (blk_keep hb HX2.out) 0; simpa using this, (hb.cell (p := ⟨g, o2 + k, none⟩) hg).trans hcell⟩)
          have hkn : (k : Int) < (n : Int) := by omega
          have hk0' : (0 : Int) ≤ (k : Int) := by omega
          have HDR := Lib.hid (show Below w2.heap.size w2 wr.drew from HBW.out.drew)
          have HLQ := Lib.hid (show (intsV ls).length = q * 1 by unfold intsV; rw [List.length_map, ← HQ.out]; omega)
          have HQ1 := Lib.hid (intsV_one ls)
          clear hj hx hxd hcell hls hdn hq
          go_wp2_with fail
          go_region_held3 (fun w' => w'.cell? ⟨w.heap.size, 0, none⟩ = some (.slice (some ⟨b, o, none⟩) N cap) ∧ w'.cell? ⟨g, o2 + k, none⟩ = some (.int .i64 (j : Nat)))
            ((refine HK.out _ ?_; first | assumption | exact HDR.out))
            (first
              | (go_at_call 69; refine (HIJ.out _ (below_more HB2.out HDR.out)).mono ?_; rintro e w3 ⟨A3, c3, rfl, hown3, hb3⟩; have hbw3 := below_more HDR.out hb3; have hz3 := hbw3.size)
              | (refine step_append_src _ rfl (.tmp 50) (.tmp 56) 38 rfl w2.heap.size 3 iv (.int .i64 0) 1 8 Try.underlying38 hiv.out hzv.out hsv.out hbv.out rfl (by decide) (.slice Av m cv) m (intsV done) rfl (ownsRow_of_block HOW.out (fun g hg => hb3.block g (HOW.out.lt g hg).2)) A3 q c3 (intsV ls) rfl HLQ.out (own_len hown3).2.2 (fun ad e jj u hj => by obtain ⟨A5, c5, hv5, -, -, h5, -⟩ := own_slice hown3; injection hv5 with e1 e2 e3; subst e1 e3; obtain ⟨g5, e5, -, -, hc5⟩ := h5 ad e; rw [e5, addr_add, Nat.zero_add]; exact hc5 jj u hj) HQ1.out (by unfold maxLen; omega) (by omega) (by omega) (m + q) rfl ?_; intro A4 c4 w4 own4 hg4; have hbw4 : Below w2.heap.size w2 w4 := Below.grown hbw3 hg4 (by omega) (fun g' e => (HOW.out.lt g' e).1)))
          have HO4 := Lib.hid own4
          have HB4 := Lib.hid hbw4
          clear own4 hg4 hbw4 hown3 hb3 hbw3 HK HDR
          go_wp2_with fail
          go_roundw
          case rel => exact ⟨k + 1, m + q, by omega, by go_num, by omega, Lib.hid (by rw [HTK.out, List.length_append, ← HML.out, ← HQ.out]), Lib.hid (by rw [HTK.out, intsV_app]; exact HO4.out), HB4⟩
          case measure => simp [intOf]; omega
        · obtain rfl : k = n := by omega
          have HT := Lib.hid (show R = (kO.take k).flatMap (leavesF ns f) by rw [HF.out, HKL2.out, List.take_length])
          have h1 := HOW.out
          rw [← HT.out] at h1
          obtain ⟨Av, cv, hv, -, -, -, -⟩ := own_slice h1
          subst hv
          have HO := Lib.hid h1
          have HRL := Lib.hid (show m = R.length by rw [HT.out]; exact HML.out)
          have hs2 := HB2.out.size
          clear h1
          go_wp2_with fail
          go_ret
          refine ⟨Av, cv, by rw [← HRL.out]; rfl, ?_, below_more HB2.out HBW.out⟩
          rw [← HRL.out]
          exact own_base HO.out hs2

end Go.Proofs.Ytilagndfohnjnaa

/- The line of a text by its groups and by its nodes: both sides read the same leaves. -/
namespace Go.Proofs.Ytilagndfohnjnaa

theorem tops_parts {ns : List Nd} (h : Shape ns) : ∀ (n k : Nat), ns.length - k ≤ n → (∀ u, ns[k]? = some u → u.depth = 0) → (partsW k (ns.drop k)).map (·.1) = (List.range' k (ns.length - k)).filter (atD ns 0)
  | 0, k, hn, _ => by
    rw [List.drop_eq_nil_of_le (by omega), partsW_nil, show ns.length - k = 0 by omega]; rfl
  | n + 1, k, hn, hd => by
    rcases Nat.lt_or_ge k ns.length with hk | hk
    · obtain ⟨u, hu⟩ : ∃ u, ns[k]? = some u := ⟨_, List.getElem?_eq_getElem hk⟩
      have hu0 := hd u hu
      have h0 : (ns.drop k)[0]? = some u := by rw [List.getElem?_drop, Nat.add_zero]; exact hu
      rw [partsW_at h0, List.map_cons]
      obtain ⟨m, hm⟩ : ∃ m, m = 1 + spanN (ns.drop k) u.depth 0 := ⟨_, rfl⟩
      rw [← hm]
      have hsp : spanN (ns.drop k) u.depth 0 = spanN ns 0 k := by rw [spanN_drop, Nat.add_zero, hu0]
      rw [hsp] at hm
      have hle := spanN_le ns 0 k hk
      have hnext : ∀ u', ns[k + m]? = some u' → u'.depth = 0 := fun u' hu' => by
        have h1 := (h.depth u' (List.mem_of_getElem? hu')).1
        rcases spanN_end ns 0 k hk with he | ⟨x, hx, hxd⟩
        · have := (List.getElem?_eq_some_iff.1 hu').1; omega
        · rw [show k + 1 + spanN ns 0 k = k + m by omega, hu'] at hx
          injection hx with hx; subst hx; omega
      have ih := tops_parts h n (k + m) (by omega) hnext
      rw [List.drop_drop, ih]
      have e : List.range' k (ns.length - k) = k :: (List.range' (k + 1) (m - 1) ++ List.range' (k + m) (ns.length - (k + m))) := by
        rw [show ns.length - k = (1 + (m - 1)) + (ns.length - (k + m)) by omega, ← List.range'_append_1, ← List.range'_append_1, show k + (1 + (m - 1)) = k + m by omega]
        rfl
      rw [e, List.filter_cons]
      have hk0 : atD ns 0 k = true := by unfold atD; rw [hu]; simp [hu0]
      rw [hk0, if_pos rfl, List.filter_append]
      have hnone : (List.range' (k + 1) (m - 1)).filter (atD ns 0) = [] := by
        rw [List.filter_eq_nil_iff]
        intro j hj
        rw [List.mem_range'_1] at hj
        obtain ⟨x, hx, hxd⟩ := spanN_at (ns := ns) (d := 0) (i := k) (k := j - (k + 1)) (by omega)
        rw [show k + 1 + (j - (k + 1)) = j by omega] at hx
        unfold atD; rw [hx]; simp; omega
      rw [hnone, List.nil_append]
    · rw [List.drop_eq_nil_of_le hk, partsW_nil, show ns.length - k = 0 by omega]; rfl
theorem tops_is {ns : List Nd} (h : Shape ns) : topsL ns = (partsW 0 ns).map (·.1) := by
  have := tops_parts h ns.length 0 (by omega) (fun u hu => by have := h.first u hu; have := (h.depth u (List.mem_of_getElem? hu)).1; omega)
  rw [List.drop_zero, Nat.sub_zero] at this
  rw [this]; unfold topsL; rw [List.range_eq_range']

/-- the group's kids are the text's -/
theorem kids_grp {ns : List Nd} {p : Nat × List Nd} (hp : p ∈ partsW 0 ns) {i : Nat} (hi : i < p.2.length) : kidsL ns (p.1 + i) = (kidsL p.2 i).map (fun j => p.1 + j) := by
  obtain ⟨q, u, h1, h2, h3⟩ := partsW_grp ns.length 0 ns (Nat.le_refl _) p hp
  have h1 : p.1 = q := by omega
  rw [h1, kidsL_drop]
  have him : i < 1 + spanN (ns.drop q) u.depth 0 := by rw [h3, List.length_take] at hi; omega
  rw [h3, kidsL_take h2 rfl him]
theorem node_grp {ns : List Nd} {p : Nat × List Nd} (hp : p ∈ partsW 0 ns) {i : Nat} (hi : i < p.2.length) : ns[p.1 + i]? = p.2[i]? := by
  obtain ⟨q, u, h1, h2, h3⟩ := partsW_grp ns.length 0 ns (Nat.le_refl _) p hp
  have h1 : p.1 = q := by omega
  have him : i < 1 + spanN (ns.drop q) u.depth 0 := by rw [h3, List.length_take] at hi; omega
  rw [h1, h3, List.getElem?_take, if_pos him, List.getElem?_drop]
theorem kids_lt {ns : List Nd} {i j : Nat} (h : j ∈ kidsL ns i) : j < ns.length := by
  unfold kidsL at h
  cases hu : ns[i]? with
  | none => rw [hu] at h; cases h
  | some u =>
    rw [hu] at h
    have := (List.mem_filter.1 h).2
    unfold kidB at this
    cases hx : ns[j]? with
    | none => rw [hx] at this; cases this
    | some x => exact (List.getElem?_eq_some_iff.1 hx).1
theorem leaves_grp {ns : List Nd} {p : Nat × List Nd} (hp : p ∈ partsW 0 ns) : ∀ (f i : Nat), i < p.2.length → leavesF ns f (p.1 + i) = (leavesF p.2 f i).map (fun j => p.1 + j)
  | 0, i, _ => rfl
  | f + 1, i, hi => by
    obtain ⟨u, hu⟩ : ∃ u, p.2[i]? = some u := ⟨_, List.getElem?_eq_getElem hi⟩
    have hu2 : ns[p.1 + i]? = some u := (node_grp hp hi).trans hu
    rw [leavesF_at hu, leavesF_at hu2]
    cases leafB u.kind with
    | true => rfl
    | false =>
      simp only [Bool.false_eq_true, if_false]
      have e : kidsO ns (p.1 + i) u.kind = (kidsO p.2 i u.kind).map (fun j => p.1 + j) := by
        unfold kidsO
        rw [kids_grp hp hi]
        split
        · rw [List.map_append, List.map_drop, List.map_take]
        · rfl
      rw [e, List.flatMap_map, List.map_flatMap]
      have hm : ∀ l : List Nat, (∀ j ∈ l, j < p.2.length) → l.flatMap (fun j => leavesF ns f (p.1 + j)) = l.flatMap (fun j => (leavesF p.2 f j).map (fun j => p.1 + j)) := by
        intro l
        induction l with
        | nil => intro _; rfl
        | cons a r ih =>
          intro h
          rw [List.flatMap_cons, List.flatMap_cons, leaves_grp hp f a (h a (List.mem_cons_self ..)), ih (fun j hj => h j (List.mem_cons_of_mem _ hj))]
      exact hm _ (fun j hj => kids_lt (kidsO_mem hj))
theorem leaves_lt {ns : List Nd} : ∀ (f i : Nat), ∀ j ∈ leavesF ns f i, j < ns.length
  | 0, i, j, h => by cases h
  | f + 1, i, j, h => by
    rw [leavesF] at h
    cases hu : ns[i]? with
    | none => rw [hu] at h; cases h
    | some u =>
      rw [hu] at h
      dsimp only at h
      split at h
      · simp at h; subst h; exact (List.getElem?_eq_some_iff.1 hu).1
      · obtain ⟨k, _, hk⟩ := List.mem_flatMap.1 h
        exact leaves_lt f k j hk
theorem parts_pos {ns : List Nd} {p : Nat × List Nd} (hp : p ∈ partsW 0 ns) : 0 < p.2.length := (partsW_pos ns.length 0 ns (Nat.le_refl _) p hp).1
/-- the leaves of a group, as nodes -/
theorem pick_grp {ns : List Nd} {p : Nat × List Nd} (hp : p ∈ partsW 0 ns) (f : Nat) : pickN p.2 (leavesF p.2 f 0) = pickN ns (leavesF ns f p.1) := by
  have h := leaves_grp hp f 0 (parts_pos hp)
  rw [Nat.add_zero] at h
  rw [h]
  unfold pickN
  rw [List.map_map]
  refine List.map_congr_left fun j hj => ?_
  have hj' := leaves_lt f 0 j hj
  show getN p.2 j = getN ns (p.1 + j)
  unfold getN
  rw [node_grp hp hj']
def allLeaves (ns : List Nd) : List Nat := (topsL ns).flatMap (leavesF ns 5)
theorem line_is {ns : List Nd} (h : Shape ns) : lineR ns = (pickN ns (allLeaves ns)).map markR := by
  unfold lineR allLeaves
  rw [tops_is h, List.flatMap_map]
  unfold pickN
  rw [List.map_flatMap, List.map_flatMap]
  have hm : ∀ l : List (Nat × List Nd), (∀ p ∈ l, p ∈ partsW 0 ns) → l.flatMap lineP = l.flatMap (fun p => ((leavesF ns 5 p.1).map (getN ns)).map markR) := by
    intro l
    induction l with
    | nil => intro _; rfl
    | cons a r ih =>
      intro hh
      rw [List.flatMap_cons, List.flatMap_cons, ih (fun j hj => hh j (List.mem_cons_of_mem _ hj))]
      congr 1
      unfold lineP
      rw [pick_grp (hh a (List.mem_cons_self ..))]; rfl
  exact hm _ (fun p hp => hp)

end Go.Proofs.Ytilagndfohnjnaa

/- The specification's Leaves of a whole text. -/
namespace Go.Proofs.Ytilagndfohnjnaa
open Go.RowKit

theorem vis_of {ns : List Nd} (h : Shape ns) : VisOk ns ∧ ∀ (i : Nat) (u : Nd), ns[i]? = some u → u.kind = 7 → 2 ≤ (kidsL ns i).length := by
  have h2 : ∀ (i : Nat) (u : Nd), ns[i]? = some u → u.kind = 7 → 2 ≤ (kidsL ns i).length := fun i u hu hk => fits_hon h.fits hu hk
  exact ⟨⟨h.depth, fun i u hu hk => by have := h2 i u hu hk; omega, fun i => fits_six h.fits i⟩, h2⟩
theorem tops_at {ns : List Nd} {j : Nat} (hj : j ∈ topsL ns) : ∃ x, ns[j]? = some x ∧ x.depth = 0 := by
  unfold topsL at hj
  have := (List.mem_filter.1 hj).2
  unfold atD at this
  cases hx : ns[j]? with
  | none => rw [hx] at this; cases this
  | some x => rw [hx] at this; exact ⟨x, rfl, by simpa using this⟩
theorem tops_len (ns : List Nd) : (topsL ns).length ≤ ns.length := by
  unfold topsL
  refine Nat.le_trans (List.length_filter_le _ _) ?_
  rw [List.length_range]; exact Nat.le_refl _

set_option maxRecDepth 100000 in
set_option maxHeartbeats 16000000 in
theorem rleavesT_any (A : Option Addr) (cap : Nat) (ns : List Nd) (hsh : Shape ns) (hc1 : ns.length ≤ cap) (hc : cap ≤ maxLen) (hsm : ns.length ≤ 1000) (w : World) (hn : NdsAt w A ns) :
    Calls Try.prog 69 #[.agg #[.slice A ns.length cap], .int .i64 (-1)] w (GotRow w 3 1 (allLeaves ns).length (intsV (allLeaves ns))) := by
  obtain ⟨hok, hon2⟩ := vis_of hsh
  have HIH := Lib.hid (fun (j : Nat) (x : Nd) (wx : World) (hb : Below w.heap.size w wx) (hj : ns[j]? = some x) (hd : 5 ≤ x.depth + 5) => rleaves_any A cap ns hok hon2 hc1 hc hsm 5 j x wx hj hd (by omega) (hn.below hb))
  have HLN := Lib.hid (fun j => leavesF_len hok 5 j)
  have HKD := Lib.hid (fun wx (hbx : Below w.heap.size w wx) => show Calls Try.prog 67 #[.agg #[.slice A ns.length cap], .int .i64 (-1)] wx (GotRow wx 3 1 (topsL ns).length (intsV (topsL ns))) by
    have := rkids_any A cap ns (-1) 0 0 wx (hn.below hbx) hc1 hc (by omega) (.inr ⟨rfl, rfl, rfl⟩)
    rw [tops_kids (fun x hx => (hsh.depth x hx).1)] at this; exact this)
  have HAT := Lib.hid (fun j (hj : j ∈ topsL ns) => tops_at hj)
  have htl := tops_len ns
  obtain ⟨N, hN⟩ : ∃ N, N = ns.length := ⟨_, rfl⟩
  obtain ⟨R, hR⟩ : ∃ R, R = allLeaves ns := ⟨_, rfl⟩
  obtain ⟨kO, hkO⟩ : ∃ kO, kO = topsL ns := ⟨_, rfl⟩
  have HF := Lib.hid (show R = kO.flatMap (leavesF ns 5) by rw [hR, hkO]; rfl)
  rw [← hR]
  rw [← hkO] at HKD HAT htl
  rw [← hN] at hsm HIH HKD hc1 htl ⊢
  obtain ⟨n, hn2⟩ : ∃ n, n = kO.length := ⟨_, rfl⟩
  have HKL2 := Lib.hid hn2
  rw [← hn2] at HKD htl
  unfold maxLen at hc
  clear hn hok hon2 hN hR hsh hkO hn2
  obtain ⟨W, hW⟩ : ∃ W, W = w.alloc (.cells #[.slice A N cap] 27) := ⟨_, rfl⟩
  have HB := Lib.hid (show Below w.heap.size w W from hW ▸ below_alloc _ _)
  have HX := Lib.hid (show W.heap[w.heap.size]? = some (.cells #[.slice A N cap] 27 (0, 0)) by rw [hW]; exact heap_alloc_new _ _)
  obtain ⟨iv, hiv, hzv, hsv, hbv⟩ := info_hid infoInt
  go_enter Try.func69, Try.ntmps69
  go_wp2_with fail
  rw [← hW]
  refine (HKD.out W HB.out).mono ?_; rintro e w2 ⟨Ak, ck, rfl, hown, hb1⟩
  have HB2 := Lib.hid (below_more HB.out hb1)
  have HX2 := Lib.hid (blk_keep hb1 HX.out)
  have HRI := Lib.hid (row_ints hown)
  have hol := own_len hown
  have hnc := hol.1
  have hcm := hol.2.1
  unfold maxLen at hcm
  have HL6 := Lib.hid (fun j => show (leavesF ns 5 j).length ≤ 7776 from Nat.le_trans (HLN.out j) (by decide))
  clear hW hown hb1 HB HKD hol HLN HX
  go_wp2_with fail
  go_loopw [6, 7] (fun v c wr => ∃ (k m : Nat), k ≤ n ∧ c = .int .i64 k ∧ m ≤ k * 7776 ∧ Hid (m = ((kO.take k).flatMap (leavesF ns 5)).length) ∧ Hid (wr.ownsRow w2.heap.size 3 1 v m (intsV ((kO.take k).flatMap (leavesF ns 5)))) ∧ Hid (Below w2.heap.size w2 wr)) (fun _ c _ => n - (intOf c).toNat)
  case atStart => exact ⟨0, 0, Nat.zero_le _, rfl, by omega, Lib.hid (by simp), Lib.hid (by simpa [intsV] using World.ownsRow_nil _ _ _ _), Lib.hid (Below.refl _ _)⟩
  case round =>
    obtain ⟨k, m, hk, rfl, hmk, hml, hown, hbw⟩ := hrel
    have HOW := Lib.hid hown.out
    have HBW := Lib.hid hbw.out
    have HML := Lib.hid hml.out
    clear hown hbw hml
    by_cases hlt : k < n
    · obtain ⟨j, hj⟩ : ∃ j, kO[k]? = some j := ⟨_, List.getElem?_eq_getElem (by have := HKL2.out; omega)⟩
      obtain ⟨x, hx, hxd⟩ := HAT.out j (List.mem_of_getElem? hj)
      have HIJ := Lib.hid (fun wx (hb : Below w.heap.size w wx) => HIH.out j x wx hb hx (by omega))
      have HTK := Lib.hid (show (kO.take (k + 1)).flatMap (leavesF ns 5) = (kO.take k).flatMap (leavesF ns 5) ++ leavesF ns 5 j by
        obtain ⟨hk', e⟩ := List.getElem?_eq_some_iff.1 hj
        rw [List.take_succ_eq_append_getElem hk', e, List.flatMap_append]; simp)
      obtain ⟨g, o2, rfl, hg, hcell⟩ := HRI.out k j hj
      obtain ⟨ls, hls⟩ : ∃ ls, ls = leavesF ns 5 j := ⟨_, rfl⟩
      have hll : ls.length ≤ 7776 := by rw [hls]; exact HL6.out j
      obtain ⟨done, hdn⟩ : ∃ d, d = (kO.take k).flatMap (leavesF ns 5) := ⟨_, rfl⟩
      rw [← hls] at HIJ HTK
      rw [← hdn] at HTK HOW HML
      obtain ⟨q, hq⟩ : ∃ q, q = ls.length := ⟨_, rfl⟩
      have HQ := Lib.hid hq
      rw [← hq] at HIJ hll
      obtain ⟨Av, cv, hv, -, -, -, -⟩ := own_slice HOW.out
      subst hv
      have hs2 := HBW.out.size
      have HK := Lib.hid (fun wx (hb : Below w2.heap.size w2 wx) => show wx.cell? ⟨w.heap.size, 0, none⟩ = some (.slice A N cap) ∧ wx.cell? ⟨g, o2 + k, none⟩ = some (.int .i64 (j : Nat)) from
        ⟨by have := cell_of_blk (blk_keep hb HX2.out) 0; simpa using this, (hb.cell (p := ⟨g, o2 + k, none⟩) hg).trans hcell⟩)
      have hkn : (k : Int) < (n : Int) := by omega
      have hk0' : (0 : Int) ≤ (k : Int) := by omega
      have HDR := Lib.hid (show Below w2.heap.size w2 wr.drew from HBW.out.drew)
      have HLQ := Lib.hid (show (intsV ls).length = q * 1 by unfold intsV; rw [List.length_map, ← HQ.out]; omega)
      have HQ1 := Lib.hid (intsV_one ls)
      clear hj hx hxd hcell hls hdn hq
      go_wp2_with fail
      go_region_held3 (fun w' => w'.cell? ⟨w.heap.size, 0, none⟩ = some (.slice A N cap) ∧ w'.cell? ⟨g, o2 + k, none⟩ = some (.int .i64 (j : Nat)))
        ((refine HK.out _ ?_; first | assumption | exact HDR.out))
        (first
          | (go_at_call 69; refine (HIJ.out _ (below_more HB2.out HDR.out)).mono ?_; rintro e w3 ⟨A3, c3, rfl, hown3, hb3⟩; have hbw3 := below_more HDR.out hb3; have hz3 := hbw3.size)
          | (refine step_append_src _ rfl (.tmp 50) (.tmp 56) 38 rfl w2.heap.size 3 iv (.int .i64 0) 1 8 Try.underlying38 hiv.out hzv.out hsv.out hbv.out rfl (by decide) (.slice Av m cv) m (intsV done) rfl (ownsRow_of_block HOW.out (fun g hg => hb3.block g (HOW.out.lt g hg).2)) A3 q c3 (intsV ls) rfl HLQ.out (own_len hown3).2.2 (fun ad e jj u hj => by obtain ⟨A5, c5, hv5, -, -, h5, -⟩ := own_slice hown3; injection hv5 with e1 e2 e3; subst e1 e3; obtain ⟨g5, e5, -, -, hc5⟩ := h5 ad e; rw [e5, addr_add, Nat.zero_add]; exact hc5 jj u hj) HQ1.out (by unfold maxLen; omega) (by omega) (by omega) (m + q) rfl ?_; intro A4 c4 w4 own4 hg4; have hbw4 : Below w2.heap.size w2 w4 := Below.grown hbw3 hg4 (by omega) (fun g' e => (HOW.out.lt g' e).1)))
      have HO4 := Lib.hid own4
      have HB4 := Lib.hid hbw4
      clear own4 hg4 hbw4 hown3 hb3 hbw3 HK HDR
      go_wp2_with fail
      go_roundw
      case rel => exact ⟨k + 1, m + q, by omega, by go_num, by omega, Lib.hid (by rw [HTK.out, List.length_append, ← HML.out, ← HQ.out]), Lib.hid (by rw [HTK.out, intsV_app]; exact HO4.out), HB4⟩
      case measure => simp [intOf]; omega
    · obtain rfl : k = n := by omega
      have HT := Lib.hid (show R = (kO.take k).flatMap (leavesF ns 5) by rw [HF.out, HKL2.out, List.take_length])
      have h1 := HOW.out
      rw [← HT.out] at h1
      obtain ⟨Av, cv, hv, -, -, -, -⟩ := own_slice h1
      subst hv
      have HO := Lib.hid h1
      have HRL := Lib.hid (show m = R.length by rw [HT.out]; exact HML.out)
      have hs2 := HB2.out.size
      clear h1
      go_wp2_with fail
      go_ret
      refine ⟨Av, cv, by rw [← HRL.out]; rfl, ?_, below_more HB2.out HBW.out⟩
      rw [← HRL.out]
      exact own_base HO.out hs2

end Go.Proofs.Ytilagndfohnjnaa
