/-
  Contract of the law of the names: it returns true.
-/
import Derived.Test.YthnhpgmohhaeaaaDoorNme
import Derived.Test.YthnhpgmohhaeaaaDoorValsF
import Derived.Test.YthnhpgmohhaeaaaDoorLBear
namespace Go.Proofs.YthnhpgmohhaeaaaDoor
open Go.RowKit

theorem ValsAt.blocks {w w' : World} {A : Option Addr} {vs : List Va} (h : ValsAt w A vs) (hs : w.heap.size ≤ w'.heap.size) (hb : ∀ b o, A = some ⟨b, o, none⟩ → w'.heap[b]? = w.heap[b]?) : ValsAt w' A vs := fun k v hk => by
  obtain ⟨b, o, e, hlt, c0, c1, c2, c3, sz⟩ := h k v hk
  have hc : ∀ q, w'.cell? ⟨b, q, none⟩ = w.cell? ⟨b, q, none⟩ := fun q => World.cell?_of_block (w := w) (hb b o e)
  exact ⟨b, o, e, by omega, (hc _).trans c0, (hc _).trans c1, (hc _).trans c2, (hc _).trans c3, sz⟩
theorem infoStr : (Tryd.prog.info? 9).map (fun i => (i.zero, i.size, i.bytes)) = some (some (.string ⟨#[]⟩), 1, 16) := by kernel_rfl
theorem big_bds2 {L M : Lm} (h : bigB L.signs = false) (hli : M.li = L.li) : M.ms.length ≤ 1000000 ∧ ∀ m ∈ M.ms, m.s.vals.length ≤ 1000000 := by
  have h2 : bigB M.signs = false := by rw [show M.signs = L.signs from congrArg (fun l : Li => l.signs) hli]; exact h
  have := not_big h2
  exact ⟨by omega, fun m hm => by have := (this.2 m hm).1; omega⟩
/-- the names so far, in a row of the law's own -/
def NamesRow (l : Li) (p : Int) (k j : Nat) (wr : World) (base : Nat) (v : Value) (c : Nat) : Prop :=
  ∃ names : List ByteArray, c = names.length ∧ wr.ownsRow base 9 1 v c (names.map Value.string) ∧ NamesOk l p k j names
theorem NamesRow.keep {l : Li} {p : Int} {k j : Nat} {wr w' : World} {base : Nat} {v : Value} {c : Nat} (h : NamesRow l p k j wr base v c) (hb : Below wr.heap.size wr w') : NamesRow l p k j w' base v c := by
  obtain ⟨names, h1, h2, h3⟩ := h
  exact ⟨names, h1, ownsRow_of_block h2 (fun g hg => hb.block g (h2.lt g hg).2), h3⟩
def ApartA (v : Value) (A : Option Addr) : Prop := ∀ g b o, v.ownBlock = some g → A = some ⟨b, o, none⟩ → g ≠ b
theorem any_take_succ (zs : List Int) (t : Nat) (z x : Int) (h : zs[t]? = some z) : (zs.take (t + 1)).any (fun y => y == x) = ((zs.take t).any (fun y => y == x) || (z == x)) := by
  obtain ⟨hk, rfl⟩ := List.getElem?_eq_some_iff.1 h
  rw [List.take_succ_eq_append_getElem hk, List.any_append]; simp

set_option maxHeartbeats 6400000 in
set_option maxRecDepth 100000 in
theorem law_named (L : Lm) (p : Int) (w : World) (hE : Env w) (hl : LmOk w L) :
    Calls Tryd.prog 11 #[L.val, .int .i64 p] w fun e w' => e = .returned (.bool true) ∧ Below w.heap.size w w' := by
  obtain ⟨W, hW⟩ : ∃ W, W = (w.alloc (.cells #[.int .i64 L.per, .slice L.A L.ms.length L.cap] 24)) := ⟨_, rfl⟩
  have HB := Lib.hid (show Below w.heap.size w W from hW ▸ ((Below.refl _ _).alloc (Nat.le_refl _) _))
  have C1 := Lib.hid (show W.heap[w.heap.size]? = some (.cells #[.int .i64 L.per, .slice L.A L.ms.length L.cap] 24 (0, 0)) by
    rw [hW]; exact heap_alloc_new _ _)
  have HL := Lib.hid (hl.below HB.out)
  have HE := Lib.hid (hE.below HB.out)
  clear hl hE
  obtain ⟨G, hG⟩ : ∃ B, largeB L.signs = B := ⟨_, rfl⟩
  obtain ⟨E, hE⟩ : ∃ B, checkErr L.li = B := ⟨_, rfl⟩
  have HG := Lib.hid hG
  have HC := Lib.hid hE
  have HLG := Lib.hid (show Calls Tryd.prog 37 #[.agg #[.int .i64 L.per, .slice L.A L.ms.length L.cap]] W (fun e w' => e = .returned (.bool G) ∧ Below W.heap.size W w') by rw [← hG]; exact large_any L W HL.out)
  have HCK := Lib.hid (fun w1 (hb : Below W.heap.size W w1) => show Calls Tryd.prog 18 #[.agg #[.int .i64 L.per, .slice L.A L.ms.length L.cap]] w1 (fun e w' => e = .returned (.int .i64 E) ∧ Below w1.heap.size w1 w') by rw [← hE]; exact rcheck_any L w1 (HL.out.below hb))
  have HWK := Lib.hid (fun w1 (hb : Below W.heap.size W w1) => works_any w1 (HE.out.below hb))
  clear hG hE
  show Calls _ _ #[.agg #[.int .i64 L.per, .slice L.A L.ms.length L.cap], .int .i64 p] w _
  go_enter Tryd.func11, Tryd.ntmps11
  go_wp2_with fail
  rw [← hW]
  refine (HLG.out).mono ?_; rintro e w1 ⟨rfl, hb1⟩
  have b1 := Lib.hid hb1
  have x0 := cell_of_blk (blk_keep hb1 C1.out) 0
  have x1 := cell_of_blk (blk_keep hb1 C1.out) 1
  simp at x0 x1
  clear hb1 HLG hW
  cases G with
  | true =>
    go_wp2_with fail
    refine (HWK.out _ b1.out).mono ?_; rintro e w2 ⟨rfl, hb2⟩
    go_wp2
    go_ret
    exact ⟨rfl, HB.out.trans ((below_more b1.out hb2).mono HB.out.size)⟩
  | false =>
  go_wp2_with fail
  refine (HCK.out _ b1.out).mono ?_; rintro e w2 ⟨rfl, hb2⟩
  have b2 := Lib.hid (below_more b1.out hb2)
  have D1 := Lib.hid (blk_keep (below_more b1.out hb2) C1.out)
  clear hb2 HCK x0 x1
  have x0 := cell_of_blk D1.out 0
  have x1 := cell_of_blk D1.out 1
  simp at x0 x1
  by_cases h0 : E = 0
  case neg =>
    have hb : (E != 0) = true := by simpa using h0
    go_wp2_with fail
    refine (HWK.out _ b2.out).mono ?_; rintro e w3 ⟨rfl, hb3⟩
    go_wp2
    go_ret
    exact ⟨rfl, HB.out.trans ((below_more b2.out hb3).mono HB.out.size)⟩
  subst h0
  by_cases hp1 : 1 ≤ p
  case neg =>
    have hp1 : p < 1 := by omega
    go_wp2_with fail
    refine (HWK.out _ b2.out).mono ?_; rintro e w3 ⟨rfl, hb3⟩
    go_wp2
    go_ret
    exact ⟨rfl, HB.out.trans ((below_more b2.out hb3).mono HB.out.size)⟩
  by_cases hp2 : p ≤ L.per
  case neg =>
    have hp2 : L.per < p := by omega
    go_wp2_with fail
    refine (HWK.out _ b2.out).mono ?_; rintro e w3 ⟨rfl, hb3⟩
    go_wp2
    go_ret
    exact ⟨rfl, HB.out.trans ((below_more b2.out hb3).mono HB.out.size)⟩
  have HP := Lib.hid (show withinB p L.li.per = true by rw [Lm.li]; simp [withinB, hp1, hp2])
  have hbg : bigB L.signs = false ∧ L.ms.length ≤ 30 := by
    have := HG.out
    simp [largeB] at this
    rw [Lm.length_signs] at this
    exact this
  obtain ⟨n, hn⟩ : ∃ n, n = L.ms.length := ⟨_, rfl⟩
  have hn30 : n ≤ 30 := by omega
  have HBG := Lib.hid hbg.1
  have HN := Lib.hid hn
  have L2 := Lib.hid (HL.out.below b2.out)
  have HNB := Lib.hid (not_big hbg.1)
  have BLN := Lib.hid (fun (N : Lm) (h : N.li = L.li) => big_bds2 (L := L) (M := N) HBG.out h)
  have HCP := Lib.hid (fun wx (hb : Below w2.heap.size w2 wx) => show Calls Tryd.prog 14 #[.agg #[.int .i64 L.per, .slice L.A n L.cap]] wx (GotList wx L.li) by
    rw [hn]; exact copy_any L wx (L2.out.below hb) (BLN.out L rfl).1 (BLN.out L rfl).2)
  have HV := Lib.hid (fun wx (N : Lm) (h : LmOk wx N) (e : N.li = L.li) (k : Nat) (s : Sg) (hs : L.li.signs[k]? = some s) => show Calls Tryd.prog 20 #[N.val, .int .i64 k, .int .i64 p] wx (GotValsEF wx (usedV s.vals p, 0)) by
    have := valuesF_any N k p wx h (BLN.out N e).2
    rw [e, vals_of_ok HC.out HP.out hs] at this; exact this)
  have HBR := Lib.hid (fun wx (N : Lm) (h : LmOk wx N) (e : N.li = L.li) (kd : Int) (t : ByteArray) (hk : kindB kd = true) => show Calls Tryd.prog 25 #[N.val, .int .i64 kd, .string t, .int .i64 p] wx (GotIntsE wx (bearFrom kd t p 0 L.li.signs, 0)) by
    have := bearersE_any N kd t p wx h (BLN.out N e).1
    rw [e, bearers_ok HC.out HP.out hk] at this; exact this)
  have HNM := Lib.hid (fun wx (N : Lm) (hE : Env wx) (h : LmOk wx N) (e : N.li = L.li) (k : Nat) (t x : ByteArray) (hx : nameR L.li k t p = (x, 0)) (ht : t.size ≤ 8) => show Calls Tryd.prog 28 #[N.val, .int .i64 k, .string t, .int .i64 p] wx (fun e w' => e = .returned (.tuple #[.string x, .int .i64 0]) ∧ Below wx.heap.size wx w') by
    have := name_of N k t p wx hE h (BLN.out N e).1 (by omega)
    rw [e, hx] at this; exact this)
  have HPN := Lib.hid (fun wx (N : Lm) (h : LmOk wx N) (e : N.li = L.li) (k : Nat) (t x : ByteArray) (h1 : x.size ≤ 1000) (h2 : t.size ≤ x.size) (h3 : ((bytes x).take t.size).all letB = true) (h4 : ∀ h : t.size < x.size, letB x[t.size] = false) (h5 : pnameR L.li x t.size p = ((k : Int), t, 0)) => show Calls Tryd.prog 30 #[N.val, .string x, .int .i64 p] wx (fun e w' => e = .returned (.tuple #[.int .i64 k, .string t, .int .i64 0]) ∧ Below wx.heap.size wx w') by
    have := pname_any N x t.size p wx h (BLN.out N e).1 (by omega) h2 h3 h4
    rw [e, h5] at this; exact this)
  have HW2 := Lib.hid (fun wx (hb : Below w2.heap.size w2 wx) => HWK.out wx (below_more b2.out hb))
  have HEE := Lib.hid (fun wx (hb : Below w2.heap.size w2 wx) => show Env wx from HE.out.below (below_more b2.out hb))
  have HZ := Lib.hid (fun kd t => show (bearFrom kd t p 0 L.li.signs).length ≤ 30 from Nat.le_trans (bearFrom_len kd t p L.li.signs 0) (by rw [show L.li.signs = L.signs from rfl, Lm.length_signs]; exact hbg.2))
  obtain ⟨iv, hiv, hzv, hsv, hbv⟩ := info_hid infoStr
  have hcapn := L2.out.len
  have hcapm := L2.out.cap
  unfold maxLen at hcapm
  rw [← hn] at D1 x1 hcapn
  clear hbg hn HWK HL HE C1 b1
  rw [← HN.out]
  go_wp2
  go_loopw [5, 6] (fun v i wr => ∃ k c : Nat, k ≤ n ∧ c ≤ k * 20 ∧ i = .int .i64 k ∧ Hid (Below w2.heap.size w2 wr) ∧ Hid (NamesRow L.li p k 0 wr w2.heap.size v c)) (fun _ i _ => n - (intOf i).toNat)
  case atStart => exact ⟨0, 0, Nat.zero_le _, Nat.zero_le _, rfl, Lib.hid (Below.refl _ _), Lib.hid ⟨[], rfl, by simpa using World.ownsRow_nil _ _ _ _, NamesOk.nil _ _ _ _⟩⟩
  case round =>
    obtain ⟨k, c, hk, hck, rfl, hb, hrow⟩ := hrel
    have DK := Lib.hid (blk_keep hb.out D1.out)
    clear x0 x1
    have x0 := cell_of_blk DK.out 0
    have x1 := cell_of_blk DK.out 1
    simp at x0 x1
    by_cases hlt : k < n
    · have hget : L.ms[k]? = some (L.ms[k]'(by have := HN.out; omega)) := List.getElem?_eq_getElem _
      obtain ⟨m, hm⟩ : ∃ m, m = L.ms[k]'(by have := HN.out; omega) := ⟨_, rfl⟩
      rw [← hm] at hget
      have HS := Lib.hid (show L.li.signs[k]? = some m.s from Lm.getElem_signs hget)
      obtain ⟨us, hus⟩ : ∃ us, us = usedV m.s.vals p := ⟨_, rfl⟩
      have hul : us.length ≤ 20 := by
        rw [hus]; exact Nat.le_trans (used_len m.s.vals p) (HNB.out.2 m (List.mem_of_getElem? hget)).1
      have HUS := Lib.hid hus
      clear hm hget
      go_wp2_with fail
      refine (HCP.out _ hb.out).mono ?_; rintro e w3 ⟨N, rfl, hok3, hli3, hb3⟩
      clear x0 x1
      go_wp2_with fail
      refine (HV.out _ N hok3 hli3 k m.s HS.out).mono ?_; rintro e w4 ⟨A4, c4, rfl, hv4, hl4, hc4, hb4, hnew4⟩
      dsimp only at hv4 hl4 ⊢
      rw [← hus] at hv4 hl4 ⊢
      have hb34 := below_more hb3 hb4
      have B4 := Lib.hid (below_more hb.out hb34)
      have R4 := Lib.hid (hrow.out.keep hb34)
      have V4 := Lib.hid hv4
      have AP4 := Lib.hid (show ApartA u5 A4 from fun g b o e1 e2 e3 => by
        subst e3
        obtain ⟨names, _, h2, _⟩ := hrow.out
        have := (h2.lt g e1).2
        have := hnew4 g o e2
        have := hb3.size
        omega)
      have hc4' := hc4
      unfold maxLen at hc4'
      clear hok3 hli3 hb3 hv4 hb4 hnew4 hb34 hus hb hrow DK
      obtain ⟨q, hq⟩ : ∃ q, q = us.length := ⟨_, rfl⟩
      rw [← hq] at hul hl4 ⊢
      have HQ := Lib.hid hq
      clear hq
      go_wp2
      go_loopw [5, 9] (fun v i wr => ∃ j c' : Nat, j ≤ q ∧ c' ≤ k * 20 + j ∧ i = .int .i64 j ∧ Hid (Below w2.heap.size w2 wr) ∧ Hid (ValsAt wr A4 us) ∧ Hid (ApartA v A4) ∧ Hid (NamesRow L.li p k j wr w2.heap.size v c')) (fun _ i _ => q - (intOf i).toNat)
      case atStart => exact ⟨0, c, Nat.zero_le _, hck, rfl, B4, V4, AP4, R4⟩
      case round =>
        obtain ⟨j, c', hj, hcj, rfl, hb, hvs, hap, hrow⟩ := hrel
        by_cases hjq : j < q
        · have DK := Lib.hid (blk_keep hb.out D1.out)
          have hget : us[j]? = some (us[j]'(by have := HQ.out; omega)) := List.getElem?_eq_getElem _
          obtain ⟨u, hu⟩ : ∃ u, u = us[j]'(by have := HQ.out; omega) := ⟨_, rfl⟩
          rw [← hu] at hget
          obtain ⟨b, o, hA, hb1, hva⟩ := hvs.out j u hget
          subst hA
          have GETU := Lib.hid (show (usedV m.s.vals p)[j]? = some u by rw [← HUS.out]; exact hget)
          have HVA := Lib.hid hva
          have hus := used_ok HC.out HS.out (List.mem_of_getElem? GETU.out)
          have HKD := Lib.hid hus.1
          obtain ⟨zs, hzs⟩ : ∃ zs, zs = bearFrom u.kind u.text p 0 L.li.signs := ⟨_, rfl⟩
          have hzl : zs.length ≤ 30 := by rw [hzs]; exact HZ.out _ _
          have HMEM := Lib.hid (show zs.any (fun z => z == (k : Int)) = true by
            rw [List.any_eq_true]
            refine ⟨k, ?_, by simp⟩
            have := bearFrom_mem u.kind u.text p L.li.signs 0 k m.s HS.out (bear_used (List.mem_of_getElem? GETU.out))
            rw [Nat.zero_add] at this
            rw [hzs]; exact this)
          have HBU := Lib.hid (fun wx (N : Lm) (h : LmOk wx N) (e : N.li = L.li) => show Calls Tryd.prog 25 #[N.val, .int .i64 u.kind, .string u.text, .int .i64 p] wx (GotIntsE wx (zs, 0)) by
            rw [hzs]; exact HBR.out wx N h e u.kind u.text HKD.out)
          have hbw : b < wr.heap.size := hb1
          clear hu hget hva hus hzs
          have HK := Lib.hid (fun w' (hbx : Below wr.heap.size wr w') => show w'.cell? ⟨w.heap.size, 0, none⟩ = some (.int .i64 L.per) ∧ w'.cell? ⟨w.heap.size, 1, none⟩ = some (.slice L.A n L.cap) ∧ w'.cell? ⟨b, o + j * 4, none⟩ = some (.int .i64 u.kind) ∧ w'.cell? ⟨b, o + j * 4 + 1, none⟩ = some (.string u.text) ∧ Below wr.heap.size wr w' from
            ⟨cell_of_blk (blk_keep hbx DK.out) 0, cell_of_blk (blk_keep hbx DK.out) 1, (HVA.out.below hbx hbw).c0, (HVA.out.below hbx hbw).c1, hbx⟩)
          have HDR := Lib.hid (show Below wr.heap.size wr wr.drew from (Below.refl _ _).drew)
          have HSB := Lib.hid (fun w' (h : w'.cell? ⟨w.heap.size, 0, none⟩ = some (.int .i64 L.per) ∧ w'.cell? ⟨w.heap.size, 1, none⟩ = some (.slice L.A n L.cap) ∧ w'.cell? ⟨b, o + j * 4, none⟩ = some (.int .i64 u.kind) ∧ w'.cell? ⟨b, o + j * 4 + 1, none⟩ = some (.string u.text) ∧ Below wr.heap.size wr w') => h.2.2.2.2)
          go_wp2_with fail
          go_region_held3 (fun w' => w'.cell? ⟨w.heap.size, 0, none⟩ = some (.int .i64 L.per) ∧ w'.cell? ⟨w.heap.size, 1, none⟩ = some (.slice L.A n L.cap) ∧ w'.cell? ⟨b, o + j * 4, none⟩ = some (.int .i64 u.kind) ∧ w'.cell? ⟨b, o + j * 4 + 1, none⟩ = some (.string u.text) ∧ Below wr.heap.size wr w')
            (first | (refine HK.out _ ?_; first | assumption | exact HDR.out))
            (first
              | (go_at_call 14; refine (HCP.out _ (below_more hb.out (HSB.out _ (by assumption)))).mono ?_; rintro e w5 ⟨N5, rfl, hok5, hli5, hb5⟩; have hbw5 := below_more (HSB.out _ (by assumption)) hb5)
              | (go_at_call 25; refine (HBU.out _ N5 hok5 hli5).mono ?_; rintro e w6 ⟨A6, c6, rfl, hi6, hn6, hb6⟩; have hbw6 := below_more (HSB.out _ (by assumption)) hb6))
          have B6 := Lib.hid (below_more hb.out hbw6)
          have V6 := Lib.hid (hvs.out.below hbw6)
          have R6 := Lib.hid (hrow.out.keep hbw6)
          have D6 := Lib.hid (blk_keep hbw6 DK.out)
          have HA6 := Lib.hid (HVA.out.below hbw6 hbw)
          have hbw' : b < w6.heap.size := by have := hbw6.size; omega
          have HI := Lib.hid hi6
          have HN6 := Lib.hid hn6
          clear HK HDR HSB HBU hb5 hbw5 hb6 hbw6 hok5 hli5 hi6 hn6 hb hvs hrow HVA DK
          obtain ⟨zl, hzl'⟩ : ∃ zl, zl = zs.length := ⟨_, rfl⟩
          rw [← hzl'] at hzl ⊢
          have HZL := Lib.hid hzl'
          clear hzl'
          go_wp2
          go_loop [12, 13] (fun f t => ∃ (t' : Nat) (fb : Bool), t' ≤ zl ∧ t = .int .i64 t' ∧ f = .bool fb ∧ Hid (fb = (zs.take t').any (fun z => z == (k : Int)))) (fun _ t => zl - (intOf t).toNat)
          case atStart => exact ⟨0, false, Nat.zero_le _, rfl, rfl, Lib.hid (by simp)⟩
          case round =>
            obtain ⟨t, fb, ht, rfl, rfl, hf⟩ := hrel
            by_cases htl : t < zl
            · have hkz : t < zs.length := by have := HZL.out; omega
              have hgz : zs[t]? = some zs[t] := List.getElem?_eq_getElem hkz
              obtain ⟨z, hz⟩ : ∃ z, z = zs[t] := ⟨_, rfl⟩
              rw [← hz] at hgz
              obtain ⟨g, hA, hgl, hcell⟩ : ∃ g, A6 = some ⟨g, 0, none⟩ ∧ g < w6.heap.size ∧ w6.cell? ⟨g, t, none⟩ = some (.int .i64 z) := by
                cases hA6 : A6 with
                | none => have := HN6.out hA6; rw [this] at hkz; simp at hkz
                | some ad =>
                  obtain ⟨g, rfl, hg, hc⟩ := HI.out ad hA6
                  refine ⟨g, rfl, hg, ?_⟩
                  rw [hc t hkz]
                  have : zs.getD t 0 = z := by rw [List.getD, hgz]; rfl
                  rw [this]
              subst hA
              have HSN := Lib.hid (any_take_succ zs t z k hgz)
              clear hgz hz hkz
              cases fb with
              | true =>
                have hst := Lib.hid (show true = (zs.take (t + 1)).any (fun z => z == (k : Int)) by rw [HSN.out, ← hf.out]; rfl)
                go_wp2
                go_round
                case rel => exact ⟨t + 1, true, by omega, by go_num, rfl, hst⟩
                case measure => simp [intOf]; omega
              | false =>
                obtain ⟨ez, hez⟩ : ∃ ez, (z == (k : Int)) = ez := ⟨_, rfl⟩
                have hst := Lib.hid (show ez = (zs.take (t + 1)).any (fun z => z == (k : Int)) by rw [HSN.out, ← hf.out, hez]; rfl)
                cases ez with
                | true =>
                  go_wp2
                  go_round
                  case rel => exact ⟨t + 1, true, by omega, by go_num, rfl, hst⟩
                  case measure => simp [intOf]; omega
                | false =>
                  go_wp2
                  go_round
                  case rel => exact ⟨t + 1, false, by omega, by go_num, rfl, hst⟩
                  case measure => simp [intOf]; omega
            · obtain rfl : t = zl := by omega
              have hfb : fb = true := by
                rw [hf.out, HZL.out, List.take_length]; exact HMEM.out
              subst hfb
              clear hf HMEM HI HN6
              obtain ⟨y0, y1, y2, y3, ysz⟩ := HA6.out
              by_cases hkd : (u.kind == 1) = true
              case neg =>
                have hkd : (u.kind == 1) = false := by simpa using hkd
                have hkn : (u.kind != 1) = true := by unfold bne; rw [hkd]; rfl
                have RN := Lib.hid (show NamesRow L.li p k (j + 1) w6 w2.heap.size u5 c' from by
                  obtain ⟨names, h1, h2, h3⟩ := R6.out
                  exact ⟨names, h1, h2, h3.step⟩)
                go_wp2
                go_roundw
                case rel => exact ⟨j + 1, c', by omega, by omega, by go_num, B6, V6, hap, RN⟩
                case measure => simp [intOf]; omega
              have hkn : (u.kind != 1) = false := by unfold bne; rw [hkd]; rfl
              obtain ⟨x, hnm, hx1, hx2, hx3, hx4, hx5, hx6, hx7⟩ := nm_of HC.out HP.out HS.out GETU.out (by simpa using hkd)
              have NM := Lib.hid hnm
              have HNX := Lib.hid (fun wx (N : Lm) (hE : Env wx) (h : LmOk wx N) (e : N.li = L.li) => HNM.out wx N hE h e k u.text x hx1 hx3)
              have HPX := Lib.hid (fun wx (N : Lm) (h : LmOk wx N) (e : N.li = L.li) => HPN.out wx N h e k u.text x hx2 hx4 hx5 hx6 hx7)
              have hxs : x.size ≤ 1000 := hx2
              clear hnm hx1 hx2 hx3 hx4 hx5 hx6 hx7
              have HK := Lib.hid (fun w' (hbx : Below w6.heap.size w6 w') => show w'.cell? ⟨w.heap.size, 0, none⟩ = some (.int .i64 L.per) ∧ w'.cell? ⟨w.heap.size, 1, none⟩ = some (.slice L.A n L.cap) ∧ w'.cell? ⟨b, o + j * 4 + 1, none⟩ = some (.string u.text) ∧ Below w6.heap.size w6 w' from
                ⟨cell_of_blk (blk_keep hbx D6.out) 0, cell_of_blk (blk_keep hbx D6.out) 1, (HA6.out.below hbx hbw').c1, hbx⟩)
              have HDR := Lib.hid (show Below w6.heap.size w6 w6.drew from (Below.refl _ _).drew)
              have HSB := Lib.hid (fun w' (h : w'.cell? ⟨w.heap.size, 0, none⟩ = some (.int .i64 L.per) ∧ w'.cell? ⟨w.heap.size, 1, none⟩ = some (.slice L.A n L.cap) ∧ w'.cell? ⟨b, o + j * 4 + 1, none⟩ = some (.string u.text) ∧ Below w6.heap.size w6 w') => h.2.2.2)
              go_wp2_with fail
              clear y0 y1 y2 y3
              go_region_held3 (fun w' => w'.cell? ⟨w.heap.size, 0, none⟩ = some (.int .i64 L.per) ∧ w'.cell? ⟨w.heap.size, 1, none⟩ = some (.slice L.A n L.cap) ∧ w'.cell? ⟨b, o + j * 4 + 1, none⟩ = some (.string u.text) ∧ Below w6.heap.size w6 w')
                (first | (refine HK.out _ ?_; first | assumption | exact HDR.out))
                (first
                  | (go_at_call 14; refine (HCP.out _ (below_more B6.out (HSB.out _ (by assumption)))).mono ?_; rintro e w7 ⟨N7, rfl, hok7, hli7, hb7⟩; have hbw7 := below_more (HSB.out _ (by assumption)) hb7)
                  | (go_at_call 28; refine (HNX.out _ N7 (HEE.out _ (below_more B6.out hbw7)) hok7 hli7).mono ?_; rintro e w8 ⟨rfl, hb8⟩; have hbw8 := below_more (HSB.out _ (by assumption)) hb8))
              have B8 := Lib.hid (below_more B6.out hbw8)
              have H68 := Lib.hid hbw8
              obtain ⟨q0, q1, -⟩ := HK.out w8 hbw8
              clear hb7 hbw7 hb8 hbw8 hok7 hli7 HDR HSB
              go_wp2_with fail
              refine (HCP.out _ B8.out).mono ?_; rintro e w9 ⟨N9, rfl, hok9, hli9, hb9⟩
              clear q0 q1
              go_wp2_with fail
              refine (HPX.out _ N9 hok9 hli9).mono ?_; rintro e w10 ⟨rfl, hb10⟩
              have H610 := Lib.hid (below_more H68.out (below_more hb9 hb10))
              have B10 := Lib.hid (below_more B6.out H610.out)
              have V10 := Lib.hid (V6.out.below H610.out)
              have y1 := (HA6.out.below H610.out hbw').c1
              have hbw10 : b < w10.heap.size := by have := H610.out.size; omega
              obtain ⟨names, hcn, hown, hnok⟩ := R6.out.keep H610.out
              have HOWN := Lib.hid hown
              have HNOK := Lib.hid hnok
              have HCN := Lib.hid hcn
              have HFR := Lib.hid (hnok.fresh HC.out HP.out HS.out GETU.out (by simpa using hkd) NM.out)
              clear hb9 hb10 hok9 hli9 hcn hnok HK
              obtain ⟨An, capn, hv, hle, hcap, hcel, hnil⟩ := own_slice hown
              have HCEL := Lib.hid hcel
              have HNIL := Lib.hid hnil
              subst hv
              have hcap' := hcap
              unfold maxLen at hcap'
              clear hown hcel hnil
              go_wp2
              go_loop [19] (fun t => ∃ t' : Nat, t' ≤ c' ∧ t = .int .i64 t') (fun t => c' - (intOf t).toNat)
              case atStart => exact ⟨0, Nat.zero_le _, rfl⟩
              case round =>
                obtain ⟨t, ht, rfl⟩ := hrel
                by_cases htc : t < c'
                · have htn : t < names.length := by rw [← HCN.out]; exact htc
                  obtain ⟨y, hy⟩ : ∃ y, y = names[t] := ⟨_, rfl⟩
                  have hyg : names[t]? = some y := by rw [hy]; exact List.getElem?_eq_getElem htn
                  have hyc : (names.map Value.string)[t]? = some (.string y) := by rw [List.getElem?_map, hyg]; rfl
                  have hne : (y.toList == x.toList) = false := HFR.out y (List.mem_of_getElem? hyg)
                  obtain ⟨g, hA, hgl, hcell⟩ : ∃ g, An = some ⟨g, 0, none⟩ ∧ g < w10.heap.size ∧ w10.cell? ⟨g, t, none⟩ = some (.string y) := by
                    cases hAn : An with
                    | none => have := HNIL.out hAn; omega
                    | some ad =>
                      obtain ⟨g, rfl, _, hg, hc⟩ := HCEL.out ad hAn
                      exact ⟨g, rfl, hg, hc t _ hyc⟩
                  subst hA
                  clear hy hyg hyc htn
                  go_wp2
                  go_round
                  case rel => exact ⟨t + 1, by omega, by go_num⟩
                  case measure => simp [intOf]; omega
                · obtain rfl : t = c' := by omega
                  go_wp2_with (first
                    | (at_builtin; refine wpList_append_src _ rfl (.tmp 159) (.tmp 161) 58 rfl w2.heap.size 9 iv (.string ⟨#[]⟩) 1 16 Tryd.underlying58 hiv.out hzv.out hsv.out hbv.out rfl (by decide) (.slice An t capn) t (names.map Value.string) rfl ?own2 (some ⟨w10.heap.size, 0, none⟩) 1 1 [.string x] rfl ?l2 ?n2 ?c2 ?o2 ?m2 ?b2 ?s2 (t + 1) rfl ?_))
                  case own2 => exact HOWN.out.alloc _
                  case o2 => rfl
                  case m2 => unfold maxLen; omega
                  case b2 => omega
                  case s2 => have := B10.out.size; simp; omega
                  · intro A2 c2 w11 own3 hg3 hwh
                    have B11 := Lib.hid ((B10.out.alloc (by have := B10.out.size; omega) (.cells #[.string x] 9)).grown hg3 (by have := B10.out.size; simp; omega) (fun g hg => (HOWN.out.lt g hg).1))
                    have hs11 : w10.heap.size + 1 ≤ w11.heap.size := by have := hg3.size; simpa using this
                    have V11 := Lib.hid (V10.out.blocks (w' := w11) (by omega) (fun b' o' e => by
                      injection e with e
                      injection e with e1 e2
                      subst e1
                      rw [hg3.block b (by simp; omega) (fun e => hap.out b b o e.symm rfl rfl), heap_alloc_other _ _ _ hbw10]))
                    have AP11 := Lib.hid (show ApartA (.slice A2 (t + 1) c2) (some ⟨b, o, none⟩) from fun g b' o' e1 e2 => by
                      injection e2 with e2
                      injection e2 with e2 e3
                      subst e2
                      rcases hwh with h | h
                      · exact hap.out g b o (h.symm.trans e1) rfl
                      · rw [h] at e1; injection e1 with e1; (try simp at e1); omega)
                    have R11 := Lib.hid (show NamesRow L.li p k (j + 1) w11 w2.heap.size (.slice A2 (t + 1) c2) (t + 1) from
                      ⟨names ++ [x], by rw [List.length_append, ← HCN.out]; rfl, by rw [List.map_append]; exact own3, HNOK.out.add HS.out GETU.out (by simpa using hkd) NM.out⟩)
                    clear own3 hg3 hwh
                    go_wp2
                    go_roundw
                    case rel => exact ⟨j + 1, t + 1, by omega, by omega, by go_num, B11, V11, AP11, R11⟩
                    case measure => simp [intOf]; omega
        · obtain rfl : j = q := by omega
          have RN := Lib.hid (show NamesRow L.li p (k + 1) 0 wr w2.heap.size u5 c' from by
            obtain ⟨names, h1, h2, h3⟩ := hrow.out
            exact ⟨names, h1, h2, h3.next⟩)
          go_wp2
          go_roundw
          case rel => exact ⟨k + 1, c', by omega, by omega, by go_num, hb, RN⟩
          case measure => simp [intOf]; omega
    · obtain rfl : k = n := by omega
      go_wp2_with fail
      refine (HW2.out _ hb.out).mono ?_; rintro e w3 ⟨rfl, hb3⟩
      go_wp2
      go_ret
      exact ⟨rfl, HB.out.trans ((below_more b2.out (below_more hb.out hb3)).mono HB.out.size)⟩

end Go.Proofs.YthnhpgmohhaeaaaDoor
