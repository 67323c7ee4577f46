/-
  Contract of the law of Check of a text: it returns true.
-/
import Derived.Test.YtbfedahonfjpfaaGRch
import Derived.Test.YtbfedahonfjpfaaGLaw
import Derived.Test.YtbfedahonfjpfaaGWrk
import Derived.Test.YtbfedahonfjpfaaRSame
import Derived.Deep.RegionHeld3
import Derived.Deep.DeepCutAuto
namespace Go.Proofs.Ytbfedahonfjpfaa
open Go.RowKit

/-- the law's own list and text, in boxes of their own -/
structure Made (W wx : World) (l : Li) (ns : List Nd) (x y : Nat) (M : Lm) (A2 : Option Addr) (c2 : Nat) : Prop where
  below : Below W.heap.size W wx
  bx : wx.heap[x]? = some (.cells #[.int .i64 M.per, .slice M.A M.ms.length M.cap] 24 (0, 0))
  bt : wx.heap[y]? = some (.cells #[.slice A2 ns.length c2] 27 (0, 0))
  ok : LmOk wx M
  li : M.li = l
  nds : NdsAt wx A2 ns
  len : ns.length ≤ c2
  cap : c2 ≤ maxLen

theorem two_a (w : World) (o1 o2 : Obj) : ((w.alloc o1).alloc o2).heap[w.heap.size]? = some o1 := by
  rw [heap_alloc_other _ _ _ (by simp)]; exact heap_alloc_new _ _
theorem two_b (w : World) (o1 o2 : Obj) : ((w.alloc o1).alloc o2).heap[w.heap.size + 1]? = some o2 := by
  have := heap_alloc_new (w.alloc o1) o2
  simpa using this
theorem made_of {w1 P0 wl P1 wt wx : World} (P2 : World) {l : Li} {ns : List Nd} {x y : Nat} {pm : Int} {mm : List Sm} {Am A2 : Option Addr} {km cm kt c2 : Nat}
    (hwx : wx = ((P2.setCell ⟨x, 0, none⟩ (.int .i64 pm)).setCell ⟨x, 1, none⟩ (.slice Am km cm)).setCell ⟨y, 0, none⟩ (.slice A2 kt c2))
    (hl : Hid (Below P0.heap.size P0 wl)) (ht : Hid (Below P1.heap.size P1 wt))
    (hkm : Hid (km = mm.length)) (own : Hid (OwnSigns wl P0.heap.size Am cm mm)) (hlow : Hid (∀ m ∈ mm, ∀ b o, m.A = some ⟨b, o, none⟩ → P0.heap.size ≤ b)) (hli : Hid ((Lm.mk pm mm Am cm).li = l))
    (hkt : Hid (kt = ns.length)) (ownt : Hid (wt.ownsRow P1.heap.size 78 8 (.slice A2 kt c2) kt (ns.flatMap Nd.cells)))
    (h0 : Below w1.heap.size w1 P0) (h1 : Below wl.heap.size wl P1) (h2 : Below wt.heap.size wt P2)
    (hx : (P0.heap[x]? = some (Obj.cells #[.int .i64 0, .slice none 0 0] 24 (0, 0)) ∧ w1.heap.size ≤ x) ∨ (P1.heap[x]? = some (Obj.cells #[.int .i64 0, .slice none 0 0] 24 (0, 0)) ∧ wl.heap.size ≤ x) ∨ (P2.heap[x]? = some (Obj.cells #[.int .i64 0, .slice none 0 0] 24 (0, 0)) ∧ wt.heap.size ≤ x))
    (hy : (P0.heap[y]? = some (Obj.cells #[.slice none 0 0] 27 (0, 0)) ∧ w1.heap.size ≤ y) ∨ (P1.heap[y]? = some (Obj.cells #[.slice none 0 0] 27 (0, 0)) ∧ wl.heap.size ≤ y) ∨ (P2.heap[y]? = some (Obj.cells #[.slice none 0 0] 27 (0, 0)) ∧ wt.heap.size ≤ y)) :
    Made w1 wx l ns x y ⟨pm, mm, Am, cm⟩ A2 c2 := by
  subst hwx
  have hl := hl.out
  have ht := ht.out
  have hkm := hkm.out
  have own := own.out
  have hlow := hlow.out
  have hkt := hkt.out
  have ownt := ownt.out
  have s0 := h0.size
  have sl := hl.size
  have s1 := h1.size
  have st := ht.size
  have s2 := h2.size
  have k0 : Below P0.heap.size P0 P2 := below_more (below_more hl h1) (below_more ht h2)
  have k1 : Below P1.heap.size P1 P2 := below_more ht h2
  have kl : Below wl.heap.size wl P2 := below_more h1 (below_more ht h2)
  have hx2 : P2.heap[x]? = some (Obj.cells #[.int .i64 0, .slice none 0 0] 24 (0, 0)) ∧ w1.heap.size ≤ x ∧ (x < P0.heap.size ∨ wl.heap.size ≤ x) ∧ (x < P1.heap.size ∨ wt.heap.size ≤ x) := by
    rcases hx with ⟨h, hq⟩ | ⟨h, hq⟩ | ⟨h, hq⟩
    · have := (Array.getElem?_eq_some_iff.1 h).1
      exact ⟨(k0.block x this).trans h, hq, .inl this, .inl (by omega)⟩
    · have := (Array.getElem?_eq_some_iff.1 h).1
      exact ⟨(k1.block x this).trans h, by omega, .inr hq, .inl this⟩
    · exact ⟨h, by omega, .inr (by omega), .inr hq⟩
  have hy2 : P2.heap[y]? = some (Obj.cells #[.slice none 0 0] 27 (0, 0)) ∧ w1.heap.size ≤ y ∧ (y < P0.heap.size ∨ wl.heap.size ≤ y) ∧ (y < P1.heap.size ∨ wt.heap.size ≤ y) := by
    rcases hy with ⟨h, hq⟩ | ⟨h, hq⟩ | ⟨h, hq⟩
    · have := (Array.getElem?_eq_some_iff.1 h).1
      exact ⟨(k0.block y this).trans h, hq, .inl this, .inl (by omega)⟩
    · have := (Array.getElem?_eq_some_iff.1 h).1
      exact ⟨(k1.block y this).trans h, by omega, .inr hq, .inl this⟩
    · exact ⟨h, by omega, .inr (by omega), .inr hq⟩
  obtain ⟨bx, x1, x2, x3⟩ := hx2
  obtain ⟨bt, y1, y2, y3⟩ := hy2
  have hxy : x ≠ y := fun e => by subst e; rw [bx] at bt; simp at bt
  have hsx := (Array.getElem?_eq_some_iff.1 bx).1
  have hsy := (Array.getElem?_eq_some_iff.1 bt).1
  have keep : ∀ g, g ≠ x → g ≠ y → (((P2.setCell ⟨x, 0, none⟩ (.int .i64 pm)).setCell ⟨x, 1, none⟩ (.slice Am km cm)).setCell ⟨y, 0, none⟩ (.slice A2 kt c2)).heap[g]? = P2.heap[g]? := fun g h1 h2 => by
    rw [heap_setCell_other _ _ _ _ h2, heap_setCell_other _ _ _ _ h1, heap_setCell_other _ _ _ _ h1]
  have hsz : (((P2.setCell ⟨x, 0, none⟩ (.int .i64 pm)).setCell ⟨x, 1, none⟩ (.slice Am km cm)).setCell ⟨y, 0, none⟩ (.slice A2 kt c2)).heap.size = P2.heap.size := by simp
  have hown2 : OwnSigns (((P2.setCell ⟨x, 0, none⟩ (.int .i64 pm)).setCell ⟨x, 1, none⟩ (.slice Am km cm)).setCell ⟨y, 0, none⟩ (.slice A2 kt c2)) P0.heap.size Am cm mm :=
    ⟨ownsRow_of_block own.own (fun g hg => by
        have := own.own.lt g hg
        rw [keep g (by omega) (by omega)]; exact kl.block g this.2),
      fun m hm => smok_of_blocks (own.ok m hm) (by rw [hsz]; have := kl.size; omega) (fun b o e hb => by
        have := hlow m hm b o e
        rw [keep b (by omega) (by omega)]; exact kl.block b hb), own.apart⟩
  have hownt2 := ownsRow_of_block (w' := (((P2.setCell ⟨x, 0, none⟩ (.int .i64 pm)).setCell ⟨x, 1, none⟩ (.slice Am km cm)).setCell ⟨y, 0, none⟩ (.slice A2 kt c2))) ownt (fun g hg => by
    have := ownt.lt g hg
    rw [keep g (by omega) (by omega)]; exact h2.block g this.2)
  obtain ⟨l1, l2, -⟩ := own_len hownt2
  have hbb : Below w1.heap.size w1 P2 := below_more (below_more h0 hl) (below_more h1 (below_more ht h2))
  refine ⟨((hbb.setCell x1 _).setCell x1 _).setCell y1 _, ?_, ?_, hown2.lm pm, hli.out, own_nodes hownt2, by rw [← hkt]; exact l1, l2⟩
  · rw [heap_setCell_other _ _ _ _ hxy, heap_setCell_same _ _ _ _ _ _ (heap_setCell_same _ _ _ _ _ _ bx), ← hkm]; rfl
  · rw [heap_setCell_same _ _ _ _ _ _ (show _ = some (Obj.cells #[.slice none 0 0] 27 (0, 0)) by
      rw [heap_setCell_other _ _ _ _ (fun e => hxy e.symm), heap_setCell_other _ _ _ _ (fun e => hxy e.symm)]; exact bt), hkt]; rfl

set_option maxHeartbeats 6400000 in
set_option maxRecDepth 100000 in
theorem law_gchecks (L : Lm) (A : Option Addr) (cap : Nat) (ns : List Nd) (w : World) (hl : LmOk w L) (hn : NdsAt w A ns) (hc1 : ns.length ≤ cap) (hc : cap ≤ maxLen) :
    Calls Try.prog 3 #[.agg #[.int .i64 L.per, .slice L.A L.ms.length L.cap, .slice A ns.length cap]] w fun e w' => e = .returned (.bool true) ∧ Below w.heap.size w w' := by
  obtain ⟨W, hW⟩ : ∃ W, W = (w.alloc (.cells #[.int .i64 L.per, .slice L.A L.ms.length L.cap, .slice A ns.length cap] 29)) := ⟨_, rfl⟩
  have HB := Lib.hid (show Below w.heap.size w W from hW ▸ below_alloc _ _)
  have C1 := Lib.hid (show W.heap[w.heap.size]? = some (.cells #[.int .i64 L.per, .slice L.A L.ms.length L.cap, .slice A ns.length cap] 29 (0, 0)) by
    rw [hW]; exact heap_alloc_new _ _)
  have HL := Lib.hid (hl.below HB.out)
  have HNS := Lib.hid (hn.below HB.out)
  have HC1 := Lib.hid hc1
  have HCM := Lib.hid hc
  have hnm : ns.length ≤ maxLen := Nat.le_trans hc1 hc
  have HBG := Lib.hid (fun r (h : bigG L.li ns.length = r) => show Calls Try.prog 15 #[.agg #[.int .i64 L.per, .slice L.A L.ms.length L.cap, .slice A ns.length cap]] W _ from bigG_is L A ns.length cap W HL.out hnm r h)
  clear hl hn hc1 hc hnm
  obtain ⟨B, hB⟩ : ∃ B, bigG L.li ns.length = B := ⟨_, rfl⟩
  have HBB := Lib.hid hB
  clear hB
  obtain ⟨N, hN⟩ : ∃ N, N = ns.length := ⟨_, rfl⟩
  have HN := Lib.hid hN
  rw [← hN] at hW C1 HBG HC1 HBB ⊢
  clear hN
  go_enter Try.func3, Try.ntmps3
  go_wp2_with fail
  rw [← hW]
  refine (HBG.out _ HBB.out).mono ?_; rintro e w1 ⟨rfl, hb1⟩
  have B1 := Lib.hid hb1
  have D1 := Lib.hid (blk_keep hb1 C1.out)
  have x0 := cell_of_blk D1.out 0
  have x1 := cell_of_blk D1.out 1
  have x2 := cell_of_blk D1.out 2
  simp at x0 x1 x2
  have hsz1 := (Array.getElem?_eq_some_iff.1 D1.out).1
  clear hb1 hW
  cases B with
  | true =>
    go_wp2_with fail
    refine (works2_any _).mono ?_; rintro e w2 ⟨rfl, hb2⟩
    go_wp2
    go_ret
    exact ⟨rfl, below_more (below_more HB.out B1.out) hb2⟩
  | false =>
    have HNB := Lib.hid (not_bigG (L := L) HBB.out)
    have L1 := Lib.hid (HL.out.below B1.out)
    have N1 := Lib.hid (HNS.out.below B1.out)
    have HK := Lib.hid (fun w' (hb : Below w1.heap.size w1 w') => show w'.cell? ⟨w.heap.size, 0, none⟩ = some (.int .i64 L.per) ∧ w'.cell? ⟨w.heap.size, 1, none⟩ = some (.slice L.A L.ms.length L.cap) ∧ w'.cell? ⟨w.heap.size, 2, none⟩ = some (.slice A N cap) ∧ Below w1.heap.size w1 w' from
      ⟨cell_of_blk (blk_keep hb D1.out) 0, cell_of_blk (blk_keep hb D1.out) 1, cell_of_blk (blk_keep hb D1.out) 2, hb⟩)
    have HDR := Lib.hid (show Below w1.heap.size w1 w1.drew from (Below.refl _ _).drew)
    have HSB := Lib.hid (fun wx (h : wx.cell? ⟨w.heap.size, 0, none⟩ = some (.int .i64 L.per) ∧ wx.cell? ⟨w.heap.size, 1, none⟩ = some (.slice L.A L.ms.length L.cap) ∧ wx.cell? ⟨w.heap.size, 2, none⟩ = some (.slice A N cap) ∧ Below w1.heap.size w1 wx) => h.2.2.2)
    have HLS := Lib.hid (fun wx (hb : Below w1.heap.size w1 wx) => show Calls Try.prog 17 #[.agg #[.int .i64 L.per, .slice L.A L.ms.length L.cap, .slice A N cap]] wx (GotListY wx L.li) from
      (list2O_any L A N cap wx (L1.out.below hb) (by have := HNB.out.2.1; omega) (fun m hm => by have := (HNB.out.2.2 m hm).1; omega)).mono fun _ _ h => h.y)
    have HTX := Lib.hid (fun wx (hb : Below w1.heap.size w1 wx) => show Calls Try.prog 18 #[.agg #[.int .i64 L.per, .slice L.A L.ms.length L.cap, .slice A N cap]] wx (GotTextY wx ns) by
      have := text2_any L A cap ns wx (N1.out.below hb) (by rw [← HN.out]; exact HC1.out) HCM.out (by rw [← HN.out]; have := HNB.out.1; omega)
      rw [← HN.out] at this; exact this.mono fun _ _ h => h.y)
    go_wp2_with fail
    go_cut [3, 4] (fun p q wx => ∃ x y M A2 c2, p = .pointer (some ⟨x, 0, none⟩) ∧ q = .pointer (some ⟨y, 0, none⟩) ∧ Hid (Made w1 wx L.li ns x y M A2 c2))
    case first =>
      go_region_held3 (fun w' => w'.cell? ⟨w.heap.size, 0, none⟩ = some (.int .i64 L.per) ∧ w'.cell? ⟨w.heap.size, 1, none⟩ = some (.slice L.A L.ms.length L.cap) ∧ w'.cell? ⟨w.heap.size, 2, none⟩ = some (.slice A N cap) ∧ Below w1.heap.size w1 w')
        ((refine HK.out _ ?_; first | assumption | exact HDR.out | (repeat (first | exact Below.refl _ _ | assumption | refine Below.drew ?_ | refine Below.alloc ?_ (by first | omega | (simp; omega) | simp) _ | refine Below.setCell ?_ (by first | omega | (simp; omega) | simp) _))))
        (first
          | (go_at_call 17; refine (HLS.out _ (HSB.out _ (by assumption))).mono ?_; rintro e wl ⟨pm, mm, Am, km, cm, rfl, hkm, hownl, hlowl, hlil, hbl⟩; have hbwl := below_more (HSB.out _ (by assumption)) hbl; have hzl := hbwl.size; have hyl := hbl.size; (try simp at hyl); (try (have hq3 : w1.heap.size < wl.heap.size := by omega)); (try (have hq4 : w1.heap.size + 1 < wl.heap.size := by omega)); have HBL := Lib.hid hbl; have hltl := fun b hb => Nat.lt_of_lt_of_le (n := b) hb hbl.size; obtain ⟨hcl, hfl⟩ := bcell hbl; clear hbl)
          | (go_at_call 18; refine (HTX.out _ (HSB.out _ (by assumption))).mono ?_; rintro e wt ⟨A2, kt, c2, rfl, hkt, hownt, hbt⟩; have hbwt := below_more (HSB.out _ (by assumption)) hbt; have hzt := hbwt.size; have hyt := hbt.size; (try simp at hyt); (try (have hq1 : w1.heap.size < wt.heap.size := by omega)); (try (have hq2 : w1.heap.size + 1 < wt.heap.size := by omega)); have HBT := Lib.hid hbt; have hltt := fun b hb => Nat.lt_of_lt_of_le (n := b) hb hbt.size; obtain ⟨hct, hft⟩ := bcell hbt; clear hbt))
      all_goals go_wp2
      all_goals go_meet
      all_goals refine ⟨_, _, ⟨pm, mm, Am, cm⟩, A2, c2, rfl, rfl, Lib.hid ?_⟩
      all_goals first
        | (refine made_of (wt) ?_ HBL HBT hkm hownl hlowl hlil hkt hownt ?_ ?_ ?_ ?_ ?_; (first | with_reducible rfl | (simp [go_sem] <;> fail) | (simp [go_sem, *] <;> fail) | (go_simp <;> fail)))
        | (refine made_of (wt.alloc (.cells #[.int .i64 0, .slice none 0 0] 24)) ?_ HBL HBT hkm hownl hlowl hlil hkt hownt ?_ ?_ ?_ ?_ ?_; (first | with_reducible rfl | (simp [go_sem] <;> fail) | (simp [go_sem, *] <;> fail) | (go_simp <;> fail)))
        | (refine made_of (wt.alloc (.cells #[.slice none 0 0] 27)) ?_ HBL HBT hkm hownl hlowl hlil hkt hownt ?_ ?_ ?_ ?_ ?_; (first | with_reducible rfl | (simp [go_sem] <;> fail) | (simp [go_sem, *] <;> fail) | (go_simp <;> fail)))
        | (refine made_of ((wt.alloc (.cells #[.int .i64 0, .slice none 0 0] 24)).alloc (.cells #[.slice none 0 0] 27)) ?_ HBL HBT hkm hownl hlowl hlil hkt hownt ?_ ?_ ?_ ?_ ?_; (first | with_reducible rfl | (simp [go_sem] <;> fail) | (simp [go_sem, *] <;> fail) | (go_simp <;> fail)))
        | (refine made_of ((wt.alloc (.cells #[.slice none 0 0] 27)).alloc (.cells #[.int .i64 0, .slice none 0 0] 24)) ?_ HBL HBT hkm hownl hlowl hlil hkt hownt ?_ ?_ ?_ ?_ ?_; (first | with_reducible rfl | (simp [go_sem] <;> fail) | (simp [go_sem, *] <;> fail) | (go_simp <;> fail)))
      all_goals first
        | exact .inl ⟨heap_alloc_new _ _, by simp⟩
        | exact .inl ⟨two_a _ _ _, by simp⟩
        | exact .inl ⟨two_b _ _ _, by simp⟩
        | exact .inr (.inl ⟨heap_alloc_new _ _, by simp⟩)
        | exact .inr (.inl ⟨two_a _ _ _, by simp⟩)
        | exact .inr (.inl ⟨two_b _ _ _, by simp⟩)
        | exact .inr (.inr ⟨heap_alloc_new _ _, by simp⟩)
        | exact .inr (.inr ⟨two_a _ _ _, by simp⟩)
        | exact .inr (.inr ⟨two_b _ _ _, by simp⟩)
        | (repeat (first | exact Below.refl _ _ | refine Below.drew ?_ | refine Below.alloc ?_ (by simp) _))
    case rest =>
    obtain ⟨x, y, M, A2, c2, rfl, rfl, hm⟩ := hcut
    obtain ⟨w3, rfl⟩ : ∃ w3, w3 = wc := ⟨_, rfl⟩
    have HM := Lib.hid hm.out
    have D3 := Lib.hid (blk_keep hm.out.below D1.out)
    have B3 := Lib.hid (below_more B1.out hm.out.below)
    clear hm HK HDR HSB HLS HTX x0 x1 x2 hsz1
    have HML := Lib.hid (show M.ms.length ≤ 1000000 ∧ ∀ m ∈ M.ms, m.s.vals.length ≤ 1000000 by
      have h1 := HM.out.li
      have h2 : M.ms.map (·.s) = L.ms.map (·.s) := congrArg Li.signs h1
      refine ⟨by have := congrArg List.length h2; simp at this; have := HNB.out.2.1; omega, fun m hm => ?_⟩
      have h3 : m.s ∈ L.ms.map (·.s) := h2 ▸ List.mem_map_of_mem hm
      obtain ⟨m', hm', e⟩ := List.mem_map.1 h3
      have := (HNB.out.2.2 m' hm').1
      rw [← e]; omega)
    obtain ⟨E, hE⟩ : ∃ E, E = textErr L.li ns := ⟨_, rfl⟩
    have HCK := Lib.hid (fun wx (hb : Below w3.heap.size w3 wx) => show Calls Try.prog 19 #[M.val, .agg #[.slice A2 N c2]] wx (fun e w' => e = .returned (.int .i64 E) ∧ Below wx.heap.size wx w') by
      have := gcheck_any M A2 c2 ns wx (HM.out.ok.below hb) (HM.out.nds.below hb) HM.out.len HM.out.cap
      rw [HM.out.li, ← hE, ← HN.out] at this; exact this)
    have HRC := Lib.hid (fun wx (hb : Below w3.heap.size w3 wx) => show Calls Try.prog 20 #[.agg #[.int .i64 L.per, .slice L.A L.ms.length L.cap], .agg #[.slice A N cap]] wx (fun e w' => e = .returned (.int .i64 E) ∧ Below wx.heap.size wx w') by
      have := rgcheck_any L A cap ns wx (HL.out.below (below_more B3.out hb)) (HNS.out.below (below_more B3.out hb)) (by rw [← HN.out]; exact HC1.out) HCM.out
      rw [← hE, ← HN.out] at this; exact this)
    have HSM := Lib.hid (fun wx (hb : Below w3.heap.size w3 wx) => show Calls Try.prog 21 #[M.val, .agg #[.int .i64 L.per, .slice L.A L.ms.length L.cap]] wx (fun e w' => e = .returned (.bool true) ∧ Below wx.heap.size wx w') by
      have := rsame_any M L wx (HM.out.ok.below hb) (HL.out.below (below_more B3.out hb)) (fun m hm => by have := (HNB.out.2.2 m hm).1; omega) HML.out.2 (by have := HNB.out.2.1; omega) HML.out.1
      rw [HM.out.li, liEq_refl] at this; exact this)
    have HST := Lib.hid (fun wx (hb : Below w3.heap.size w3 wx) => show Calls Try.prog 22 #[.agg #[.slice A2 N c2], .agg #[.slice A N cap]] wx (fun e w' => e = .returned (.bool true) ∧ Below wx.heap.size wx w') by
      have := rsameT_any A2 A c2 cap ns ns wx (HM.out.nds.below hb) (HNS.out.below (below_more B3.out hb)) (by have := HNB.out.1; have := HN.out; omega) (by have := HNB.out.1; have := HN.out; omega)
      rw [eqUp_refl ndEq ndEq_refl, ← HN.out] at this; exact this)
    have HWK := Lib.hid (fun wx => works2_any wx)
    have hx0 := (Array.getElem?_eq_some_iff.1 HM.out.bx).1
    have hy0 := (Array.getElem?_eq_some_iff.1 HM.out.bt).1
    have hw0 := (Array.getElem?_eq_some_iff.1 D3.out).1
    have x0 := cell_of_blk HM.out.bx 0
    have x1 := cell_of_blk HM.out.bx 1
    have y0 := cell_of_blk HM.out.bt 0
    have p0 := cell_of_blk D3.out 0
    have p1 := cell_of_blk D3.out 1
    have p2 := cell_of_blk D3.out 2
    rw [← HN.out] at y0
    obtain ⟨pm, mm, Am, cm⟩ := M
    unfold Lm.val at HCK HSM
    dsimp only at HCK HSM x0 x1
    simp at x0 x1 y0 p0 p1 p2
    clear hE
    go_wp2_with fail
    refine wp_region_later (by kernel_rfl) (by kernel_rfl) ?_; (repeat (first | go_big_quiet_step ((first | ((go_at_call 19; exact Calls.later _ (HCK.out _ (Later.below _)))) | ((go_at_call 20; exact Calls.later _ (HRC.out _ (Later.below _)))) | ((go_at_call 21; exact Calls.later _ (HSM.out _ (Later.below _)))) | ((go_at_call 22; exact Calls.later _ (HST.out _ (Later.below _)))) | ((go_at_call 16; exact Calls.later _ (HWK.out _))))) | quiet_step ((first | ((go_at_call 19; exact Calls.later _ (HCK.out _ (Later.below _)))) | ((go_at_call 20; exact Calls.later _ (HRC.out _ (Later.below _)))) | ((go_at_call 21; exact Calls.later _ (HSM.out _ (Later.below _)))) | ((go_at_call 22; exact Calls.later _ (HST.out _ (Later.below _)))) | ((go_at_call 16; exact Calls.later _ (HWK.out _))))))); refine wpQuiet_nil ?_; rintro _ ⟨s, rfl⟩
    go_wp2
    go_ret
    exact ⟨rfl, below_more (below_more HB.out B3.out) s.below⟩

end Go.Proofs.Ytbfedahonfjpfaa
