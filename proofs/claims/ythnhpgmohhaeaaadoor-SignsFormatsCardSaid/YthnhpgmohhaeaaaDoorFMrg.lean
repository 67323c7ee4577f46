/-
  A list as text: the contracts of Format, of the reference's Format, and of the law that the text is read as the same list.
-/
import Derived.Test.YthnhpgmohhaeaaaDoorSameR
import Derived.Test.YthnhpgmohhaeaaaDoorLBear
import Derived.Test.YthnhpgmohhaeaaaDoorParse
import Derived.Lib.AppendStr
import Derived.Lib.Builder
import Derived.Lib.MakeNoZero
import Derived.Lib.UnsafeStr
import Derived.Laws.Externs
import Derived.Test.YthnhpgmohhaeaaaDoorPMrg

/- Contract of the law of Same: it returns true. -/
namespace Go.Proofs.YthnhpgmohhaeaaaDoor
open Go.RowKit

theorem big_bds {L M : Lm} (h : bigB L.signs = false) (hli : M.li = L.li) : M.ms.length ≤ 1000000 ∧ ∀ m ∈ M.ms, m.s.vals.length ≤ 1000000 := by
  have h2 : bigB M.signs = false := by rw [show M.signs = L.signs from congrArg (fun l : Li => l.signs) hli]; exact h
  have := not_big h2
  exact ⟨by omega, fun m hm => by have := (this.2 m hm).1; omega⟩

set_option maxHeartbeats 3200000 in
set_option maxRecDepth 100000 in
theorem law_same (L M : Lm) (w : World) (hE : Env w) (hl : LmOk w L) (hm : LmOk w M) :
    Calls Tryd.prog 10 #[L.val, M.val] w fun e w' => e = .returned (.bool true) ∧ Below w.heap.size w w' := by
  obtain ⟨W, hW⟩ : ∃ W, W = ((w.alloc (.cells #[.int .i64 L.per, .slice L.A L.ms.length L.cap] 24)).alloc (.cells #[.int .i64 M.per, .slice M.A M.ms.length M.cap] 24)) := ⟨_, rfl⟩
  have HB := Lib.hid (show Below w.heap.size w W from hW ▸ ((Below.refl _ _).alloc (Nat.le_refl _) _).alloc (by simp) _)
  have C1 := Lib.hid (show W.heap[w.heap.size]? = some (.cells #[.int .i64 L.per, .slice L.A L.ms.length L.cap] 24 (0, 0)) by
    rw [hW, heap_alloc_other _ _ _ (by simp)]; exact heap_alloc_new _ _)
  have C2 := Lib.hid (show W.heap[w.heap.size + 1]? = some (.cells #[.int .i64 M.per, .slice M.A M.ms.length M.cap] 24 (0, 0)) by
    rw [hW]; have := heap_alloc_new (w.alloc (.cells #[.int .i64 L.per, .slice L.A L.ms.length L.cap] 24)) (.cells #[.int .i64 M.per, .slice M.A M.ms.length M.cap] 24); simpa using this)
  have HL := Lib.hid (hl.below HB.out)
  have HM := Lib.hid (hm.below HB.out)
  have HE := Lib.hid (hE.below HB.out)
  clear hl hm hE
  obtain ⟨B, hB⟩ : ∃ B, bigB L.signs = B := ⟨_, rfl⟩
  obtain ⟨B', hB'⟩ : ∃ B, bigB M.signs = B := ⟨_, rfl⟩
  have HBB := Lib.hid hB
  have HBB' := Lib.hid hB'
  clear hB hB'
  show Calls _ _ #[.agg #[.int .i64 L.per, .slice L.A L.ms.length L.cap], .agg #[.int .i64 M.per, .slice M.A M.ms.length M.cap]] w _
  have HBG := Lib.hid (fun r (h : bigB L.signs = r) => show Calls Tryd.prog 12 #[.agg #[.int .i64 L.per, .slice L.A L.ms.length L.cap]] W _ from big_is L W HL.out r h)
  have HBM := Lib.hid (fun w1 r (hb : Below W.heap.size W w1) (h : bigB M.signs = r) => show Calls Tryd.prog 12 #[.agg #[.int .i64 M.per, .slice M.A M.ms.length M.cap]] w1 _ from big_is M w1 (HM.out.below hb) r h)
  have HWK := Lib.hid (fun w1 (hb : Below W.heap.size W w1) => works_any w1 (HE.out.below hb))
  go_enter Tryd.func10, Tryd.ntmps10
  go_wp2_with fail
  rw [← hW]
  refine (HBG.out _ HBB.out).mono ?_; rintro e w1 ⟨rfl, hb1⟩
  have b1 := Lib.hid hb1
  have x0 := cell_of_blk (blk_keep hb1 C2.out) 0
  have x1 := cell_of_blk (blk_keep hb1 C2.out) 1
  simp at x0 x1
  clear hb1 HBG hW
  cases B with
  | true =>
    go_wp2_with fail
    refine (HWK.out _ b1.out).mono ?_; rintro e w2 ⟨rfl, hb2⟩
    go_wp2
    go_ret
    exact ⟨rfl, (HB.out.trans (b1.out.mono HB.out.size)).trans (hb2.mono (by have := HB.out.size; have := b1.out.size; omega))⟩
  | false =>
  go_wp2_with fail
  refine (HBM.out _ _ b1.out HBB'.out).mono ?_; rintro e w2 ⟨rfl, hb2⟩
  have b2 := Lib.hid (below_more b1.out hb2)
  clear hb2 HBM x0 x1
  cases B' with
  | true =>
    go_wp2_with fail
    refine (HWK.out _ b2.out).mono ?_; rintro e w3 ⟨rfl, hb3⟩
    go_wp2
    go_ret
    exact ⟨rfl, (HB.out.trans (b2.out.mono HB.out.size)).trans (hb3.mono (by have := HB.out.size; have := b2.out.size; omega))⟩
  | false =>
  have D1 := Lib.hid (blk_keep b2.out C1.out)
  have D2 := Lib.hid (blk_keep b2.out C2.out)
  have L1 := Lib.hid (HL.out.below b2.out)
  have M1 := Lib.hid (HM.out.below b2.out)
  have BL := Lib.hid (big_bds (L := L) (M := L) HBB.out rfl)
  have BM := Lib.hid (big_bds (L := M) (M := M) HBB'.out rfl)
  have BLN := Lib.hid (fun (N : Lm) (h : N.li = L.li) => big_bds (L := L) (M := N) HBB.out h)
  have BMN := Lib.hid (fun (N : Lm) (h : N.li = M.li) => big_bds (L := M) (M := N) HBB'.out h)
  have HK := Lib.hid (fun w' (hb : Below w2.heap.size w2 w') => show w'.cell? ⟨w.heap.size, 0, none⟩ = some (.int .i64 L.per) ∧ w'.cell? ⟨w.heap.size, 1, none⟩ = some (.slice L.A L.ms.length L.cap) ∧ w'.cell? ⟨w.heap.size + 1, 0, none⟩ = some (.int .i64 M.per) ∧ w'.cell? ⟨w.heap.size + 1, 1, none⟩ = some (.slice M.A M.ms.length M.cap) ∧ Below w2.heap.size w2 w' from
    ⟨cell_of_blk (blk_keep hb D1.out) 0, cell_of_blk (blk_keep hb D1.out) 1, cell_of_blk (blk_keep hb D2.out) 0, cell_of_blk (blk_keep hb D2.out) 1, hb⟩)
  have HDR := Lib.hid (show Below w2.heap.size w2 w2.drew from (Below.refl _ _).drew)
  have HSB := Lib.hid (fun wx (h : wx.cell? ⟨w.heap.size, 0, none⟩ = some (.int .i64 L.per) ∧ wx.cell? ⟨w.heap.size, 1, none⟩ = some (.slice L.A L.ms.length L.cap) ∧ wx.cell? ⟨w.heap.size + 1, 0, none⟩ = some (.int .i64 M.per) ∧ wx.cell? ⟨w.heap.size + 1, 1, none⟩ = some (.slice M.A M.ms.length M.cap) ∧ Below w2.heap.size w2 wx) => h.2.2.2.2)
  have HCL := Lib.hid (fun wx (hb : Below w2.heap.size w2 wx) => show Calls Tryd.prog 14 #[.agg #[.int .i64 L.per, .slice L.A L.ms.length L.cap]] wx (GotList wx L.li) from copy_any L wx (L1.out.below hb) BL.out.1 BL.out.2)
  have HCM := Lib.hid (fun wx (hb : Below w2.heap.size w2 wx) => show Calls Tryd.prog 14 #[.agg #[.int .i64 M.per, .slice M.A M.ms.length M.cap]] wx (GotList wx M.li) from copy_any M wx (M1.out.below hb) BM.out.1 BM.out.2)
  have HS1 := Lib.hid (fun wx (P Q : Lm) (X Y : Li) (h : LmOk wx P) (h2 : LmOk wx Q) (e1 : P.li = X) (e2 : Q.li = Y) (o1 : X = L.li ∨ X = M.li) (o2 : Y = L.li ∨ Y = M.li) => show Calls Tryd.prog 36 #[P.val, Q.val] wx (fun e w' => e = .returned (.bool (liEq X Y)) ∧ Below wx.heap.size wx w') by
    have p1 : P.ms.length ≤ 1000000 ∧ ∀ m ∈ P.ms, m.s.vals.length ≤ 1000000 := by
      rcases o1 with h | h
      · exact BLN.out P (e1.trans h)
      · exact BMN.out P (e1.trans h)
    have p2 : Q.ms.length ≤ 1000000 ∧ ∀ m ∈ Q.ms, m.s.vals.length ≤ 1000000 := by
      rcases o2 with h | h
      · exact BLN.out Q (e2.trans h)
      · exact BMN.out Q (e2.trans h)
    rw [← e1, ← e2]; exact same_any P Q wx h h2 p1.1 p2.1 p1.2 p2.2)
  have HRS := Lib.hid (fun wx (hb : Below w2.heap.size w2 wx) => show Calls Tryd.prog 19 #[.agg #[.int .i64 L.per, .slice L.A L.ms.length L.cap], .agg #[.int .i64 M.per, .slice M.A M.ms.length M.cap]] wx (fun e w' => e = .returned (.bool (liEq L.li M.li)) ∧ Below wx.heap.size wx w') from
    rsame_any L M wx (L1.out.below hb) (M1.out.below hb) BM.out.2 BL.out.2 BM.out.1 BL.out.1)
  have HW2 := Lib.hid (fun wx (hb : Below w2.heap.size w2 wx) => HWK.out wx (below_more b2.out hb))
  have hLL := liEq_refl L.li
  clear HWK BL BM BLN BMN
  go_wp2_with fail
  go_region_held3 (fun w' => w'.cell? ⟨w.heap.size, 0, none⟩ = some (.int .i64 L.per) ∧ w'.cell? ⟨w.heap.size, 1, none⟩ = some (.slice L.A L.ms.length L.cap) ∧ w'.cell? ⟨w.heap.size + 1, 0, none⟩ = some (.int .i64 M.per) ∧ w'.cell? ⟨w.heap.size + 1, 1, none⟩ = some (.slice M.A M.ms.length M.cap) ∧ Below w2.heap.size w2 w')
    (first | (refine HK.out _ ?_; first | assumption | exact HDR.out))
    (first
      | (go_at_call 14; ((with_reducible refine (HCL.out _ (HSB.out _ (by assumption))).mono ?_)); rintro e wa ⟨N1, rfl, hok1, hli1, hb1⟩; have hbw1 := below_more (HSB.out _ (by assumption)) hb1)
      | (go_at_call 14; ((with_reducible refine (HCM.out _ (HSB.out _ (by assumption))).mono ?_)); rintro e wb ⟨N2, rfl, hok2, hli2, hb2⟩; have hbw2 := below_more (HSB.out _ (by assumption)) hb2)
      | (go_at_call 36; refine (HS1.out _ _ _ _ _ (LmOk.below (by assumption) (by assumption)) (by assumption) (by assumption) (by assumption) (by first | exact .inl rfl | exact .inr rfl) (by first | exact .inl rfl | exact .inr rfl)).mono ?_; rintro e wc ⟨rfl, hb3⟩; have hbw3 := below_more (HSB.out _ (by assumption)) hb3)
      | (go_at_call 19; refine (HRS.out _ (HSB.out _ (by assumption))).mono ?_; rintro e wd ⟨rfl, hb4⟩; have hbw4 := below_more (HSB.out _ (by assumption)) hb4)
      | (go_at_call 13; refine (HW2.out _ (HSB.out _ (by assumption))).mono ?_; rintro e we ⟨rfl, hb5⟩; have hbw5 := below_more (HSB.out _ (by assumption)) hb5))
  have B5 := Lib.hid hbw5
  clear hbw1 hbw2 hbw3 hbw4 hbw5 hb1 hb2 hb3 hb4 hb5
  go_wp2
  go_ret
  exact ⟨rfl, HB.out.trans ((b2.out.trans (B5.out.mono b2.out.size)).mono HB.out.size)⟩

end Go.Proofs.YthnhpgmohhaeaaaDoor

/- Contracts of a strings.Builder's copyCheck and WriteString, at this program. -/
namespace Go.Proofs.YthnhpgmohhaeaaaDoor
open Go.RowKit

theorem bldSize : (Tryd.prog.info? 88).map (·.size) = some 2 := by kernel_rfl
theorem bldLies : liesAt Tryd.prog Tryd.prog.depth 88 (2 / Tryd.prog.cellsOf 88) 0 88 1 = true := by kernel_rfl
theorem byteInfo : (Tryd.prog.info? 5).map (fun i => (i.zero, i.size, i.bytes)) = some (some (.int .u8 0), 1, 1) := by kernel_rfl

set_option maxHeartbeats 1000000 in
set_option maxRecDepth 100000 in
theorem bcheck_any (B b : Nat) (bs : List Value) (w : World) (h : Lib.IsBuilder 88 5 B b bs w) :
    Calls Tryd.prog 80 #[.pointer (some ⟨b, 0, none⟩)] w fun e w' => e = .returned (.tuple #[]) ∧ (Lib.BuilderAt 88 5 B b (.pointer (some ⟨b, 0, none⟩)) bs w' ∧ Below B w w') := by
  obtain ⟨j, hj, hjs⟩ := Option.map_eq_some_iff.1 bldSize
  rcases h with h | h
  · have h0 := h.cell0
    have hsh := h.shape
    have hfz := h.frozen0
    have HU := Lib.hid (h.used (.pointer (some ⟨b, 0, none⟩)))
    have HB := Lib.hid h.1
    clear h
    go_enter Tryd.func80, Tryd.ntmps80
    go_wp2
    rw [Lib.run_to_unsafe w ⟨b, 0, none⟩ Tryd.underlying85 Tryd.underlying121 hj (by rw [hjs]; decide) hsh (Nat.zero_lt_succ 1)]
    simp only [Result.andThen]
    rw [Oper.upon_value]
    go_wp2
    rw [run_callFunc_extern Tryd.func93 (by kernel_rfl) (by kernel_rfl) (by kernel_rfl) (e := Extern.AbiNoEscape.same) (by kernel_rfl)]
    rw [Lib.run_noEscape]
    simp only [Result.andThen]
    rw [Oper.upon_value]
    go_wp2
    rw [Lib.run_from_unsafe w ⟨b, 0, none⟩ Tryd.underlying121 Tryd.underlying85 hj hsh bldLies]
    simp only [Result.andThen]
    rw [Oper.upon_value]
    go_wp2
    go_end0
    exact ⟨rfl, HU.out, (Below.refl B w).setCell (p := ⟨b, 0, none⟩) HB.out _⟩
  · have h0 := h.cell0
    have HH := Lib.hid h
    clear h
    go_enter Tryd.func80, Tryd.ntmps80
    go_wp2
    rw [Lib.run_neq_ptr_same w _ Tryd.underlying85 hj]
    go_wp2
    go_end0
    exact ⟨rfl, HH.out, Below.refl B _⟩

set_option maxHeartbeats 1000000 in
set_option maxRecDepth 100000 in
theorem bwrite_any (B b : Nat) (bs : List Value) (s : ByteArray) (w : World) (h : Lib.IsBuilder 88 5 B b bs w) (hlen : bs.length + s.size ≤ 1000000000) (hBw : B ≤ w.heap.size) :
    Calls Tryd.prog 58 #[.pointer (some ⟨b, 0, none⟩), .string s] w fun e w' => e = .returned (.tuple #[.int .i64 s.size, .nilIface]) ∧ (Lib.BuilderAt 88 5 B b (.pointer (some ⟨b, 0, none⟩)) (bs ++ Lib.strCells s) w' ∧ Below B w w') := by
  obtain ⟨i0, hi, hz0, hz1, hz2⟩ := info_hid byteInfo
  have HC := Lib.hid (bcheck_any B b bs w h)
  clear h
  go_enter Tryd.func58, Tryd.ntmps58
  go_wp2_with fail
  refine (HC.out).mono ?_
  rintro e w1 ⟨rfl, ⟨hB, v, hbk, hown, hne⟩, hb1⟩
  have HBK := Lib.hid hbk
  have HOWN := Lib.hid hown
  have HNE := Lib.hid hne
  have HB1 := Lib.hid hb1
  have hsz : B ≤ w1.heap.size := Nat.le_trans hBw hb1.size
  have c0 := cell_of_blk hbk 0
  have c1 := cell_of_blk hbk 1
  simp at c0 c1
  have hlt : b < w1.heap.size := (Array.getElem?_eq_some_iff.1 hbk).1
  clear hbk hown hne hb1
  go_wp2_with (first
    | (at_builtin; refine Lib.wpList_append_own_string _ rfl _ _ 86 9 rfl B 5 i0 Tryd.underlying86 Tryd.underlying9 hi.out hz0.out hz1.out hz2.out _ _ _ rfl HOWN.out s rfl ?c3 ?c4 ?c5 ?_))
  case c3 => unfold maxLen; omega
  case c4 => omega
  case c5 => omega
  intro v' w2 hown' hgrow _
  have hb2 : w2.heap[b]? = some (.cells #[.pointer (some ⟨b, 0, none⟩), v] 88 (0, 0)) := by
    rw [hgrow.block b hlt (fun e => HNE.out e.symm)]
    exact HBK.out
  have d0 := cell_of_blk hb2 0
  have d1 := cell_of_blk hb2 1
  simp at d0 d1
  have f1 := free_of_blk hb2 1
  obtain ⟨A2, cap, hv, -⟩ := own_slice hown'
  subst hv
  have PUT := Lib.hid (Lib.BuilderAt.put (T := 88) (e := 5) hB hb2 (bs' := bs ++ Lib.strCells s) (by simpa [Lib.strCells_length] using hown') (by decide))
  have BB := Lib.hid ((HB1.out.grown hgrow hsz (fun k hk => (HOWN.out.lt k hk).1)).setCell (p := ⟨b, 1, none⟩) hB (.slice A2 (bs.length + s.size) cap))
  clear hown' hgrow hb2
  go_wp2
  go_ret2
  refine ⟨rfl, ?_, ?_⟩
  · have := PUT.out; simpa [Lib.strCells_length] using this
  · exact BB.out

end Go.Proofs.YthnhpgmohhaeaaaDoor

/- A list as text, plainly; the contracts of formatValue and of numbers in decimal. -/
namespace Go.Proofs.YthnhpgmohhaeaaaDoor
open Go.RowKit

/-- a number from 0 on in decimal -/
def dB (n : Int) : ByteArray := ⟨(Lib.decDigits n.toNat).toArray⟩
def kindL (k : Int) : List UInt8 := if k = 1 then [115] else if k = 2 then [119] else [99]
def fmtV (v : Va) : List UInt8 := kindL v.kind ++ 58 :: (bytes v.text ++ 64 :: (bytes (dB v.fr) ++ 45 :: bytes (dB v.to)))
def fmtS (s : Sg) : List UInt8 := bytes s.code ++ 32 :: (bytes (dB s.wide) ++ 120 :: bytes (dB s.high)) ++ (if s.even then [32, 61] else []) ++ s.vals.flatMap (fun v => 32 :: fmtV v)
def fmtL (l : Li) : List UInt8 := [112, 101, 114, 105, 111, 100, 115, 32] ++ bytes (dB l.per) ++ [10] ++ l.signs.flatMap (fun s => fmtS s ++ [10])
/-- Format -/
def formatR (l : Li) : ByteArray × Int := if checkErr l ≠ 0 then (⟨#[]⟩, checkErr l) else (str (fmtL l), 0)

theorem dB_bytes (n : Int) : bytes (dB n) = Lib.decDigits n.toNat := by simp [bytes, dB]
theorem dB_size {n : Int} (h : n ≤ 999) : (dB n).size ≤ 3 := by
  rw [← bytes_length, dB_bytes]; exact dec_len2 n.toNat (by omega)
theorem itoaD_any (n : Int) (h0 : 0 ≤ n) (h1 : n ≤ 999) (w : World) (hE : Env w) : Calls Tryd.prog 53 #[.int .i64 n] w fun e w' => e = .returned (.string (dB n)) ∧ Below w.heap.size w w' := by
  have := itoa_any n h0 (by omega) w hE
  unfold Lib.itoa at this
  rw [if_neg (by omega)] at this
  have e : n.natAbs = n.toNat := by omega
  first
    | exact this
    | (rw [e] at this; exact this)
theorem rdecD_any (n : Int) (h0 : 0 ≤ n) (h1 : n ≤ 999) (w : World) : Calls Tryd.prog 54 #[.int .i64 n] w fun e w' => e = .returned (.string (dB n)) ∧ Below w.heap.size w w' := by
  have := decimal_any n.toNat (by omega) w
  rw [Int.toNat_of_nonneg h0] at this
  exact this
theorem str_app (a b : List UInt8) : str (a ++ b) = str a ++ str b := bytes_inj (by rw [bytes_app, bytes_str, bytes_str, bytes_str])
/-- a valid value, as far as its text goes -/
structure ValOk (v : Va) : Prop where
  kind : v.kind = 1 ∨ v.kind = 2 ∨ v.kind = 3
  text : v.text.size ≤ 8
  fr : 0 ≤ v.fr ∧ v.fr ≤ 9
  till : 0 ≤ v.to ∧ v.to ≤ 9

set_option maxHeartbeats 1600000 in
set_option maxRecDepth 100000 in
theorem fval_any (v : Va) (hv : ValOk v) (w : World) (hE : Env w) : Calls Tryd.prog 81 #[v.val] w fun e w' => e = .returned (.string (str (fmtV v))) ∧ Below w.heap.size w w' := by
  obtain ⟨kd, tx, fr, tt⟩ := v
  obtain ⟨hk, ht, ⟨hf0, hf9⟩, ht0, ht9⟩ := hv
  dsimp only at hk ht hf0 hf9 ht0 ht9
  have h1 := dB_size (n := fr) (by omega)
  have h2 := dB_size (n := tt) (by omega)
  have hb := Lib.hid (below_alloc w (.cells #[.int .i64 kd, .string tx, .int .i64 fr, .int .i64 tt] 60))
  have E1 := Lib.hid (hE.below hb.out)
  have k1 := E1.out.k1
  have k2 := E1.out.k2
  have k3 := E1.out.k3
  have hg := cell_lt hE.k1
  unfold Va.val
  dsimp only
  rcases hk with rfl | rfl | rfl
  · have HF := Lib.hid (show (⟨#[115]⟩ : ByteArray) ++ ⟨#[58]⟩ ++ tx ++ ⟨#[64]⟩ ++ dB fr ++ ⟨#[45]⟩ ++ dB tt = str (fmtV ⟨1, tx, fr, tt⟩) from bytes_inj (by
      rw [bytes_str]; simp only [bytes_app]; simp [fmtV, kindL, bytes]))
    clear k2 k3 hE
    go_enter Tryd.func81, Tryd.ntmps81
    go_wp2
    refine wp_region_later (by kernel_rfl) (by kernel_rfl) ?_; (repeat (first | go_big_quiet_step ((first | ((go_at_call 53; exact Calls.later _ (itoaD_any _ (by omega) (by omega) _ (E1.out.below (Later.below _))))))) | quiet_step ((first | ((go_at_call 53; exact Calls.later _ (itoaD_any _ (by omega) (by omega) _ (E1.out.below (Later.below _))))))))); refine wpQuiet_nil ?_; rintro _ ⟨s, rfl⟩
    go_wp2
    go_ret
    exact ⟨of_text HF.out, below_more hb.out s.below⟩
  · have HF := Lib.hid (show (⟨#[119]⟩ : ByteArray) ++ ⟨#[58]⟩ ++ tx ++ ⟨#[64]⟩ ++ dB fr ++ ⟨#[45]⟩ ++ dB tt = str (fmtV ⟨2, tx, fr, tt⟩) from bytes_inj (by
      rw [bytes_str]; simp only [bytes_app]; simp [fmtV, kindL, bytes]))
    clear k1 k3 hE
    go_enter Tryd.func81, Tryd.ntmps81
    go_wp2
    refine wp_region_later (by kernel_rfl) (by kernel_rfl) ?_; (repeat (first | go_big_quiet_step ((first | ((go_at_call 53; exact Calls.later _ (itoaD_any _ (by omega) (by omega) _ (E1.out.below (Later.below _))))))) | quiet_step ((first | ((go_at_call 53; exact Calls.later _ (itoaD_any _ (by omega) (by omega) _ (E1.out.below (Later.below _))))))))); refine wpQuiet_nil ?_; rintro _ ⟨s, rfl⟩
    go_wp2
    go_ret
    exact ⟨of_text HF.out, below_more hb.out s.below⟩
  · have HF := Lib.hid (show (⟨#[99]⟩ : ByteArray) ++ ⟨#[58]⟩ ++ tx ++ ⟨#[64]⟩ ++ dB fr ++ ⟨#[45]⟩ ++ dB tt = str (fmtV ⟨3, tx, fr, tt⟩) from bytes_inj (by
      rw [bytes_str]; simp only [bytes_app]; simp [fmtV, kindL, bytes]))
    clear k1 k2 hE
    go_enter Tryd.func81, Tryd.ntmps81
    go_wp2
    refine wp_region_later (by kernel_rfl) (by kernel_rfl) ?_; (repeat (first | go_big_quiet_step ((first | ((go_at_call 53; exact Calls.later _ (itoaD_any _ (by omega) (by omega) _ (E1.out.below (Later.below _))))))) | quiet_step ((first | ((go_at_call 53; exact Calls.later _ (itoaD_any _ (by omega) (by omega) _ (E1.out.below (Later.below _))))))))); refine wpQuiet_nil ?_; rintro _ ⟨s, rfl⟩
    go_wp2
    go_ret
    exact ⟨of_text HF.out, below_more hb.out s.below⟩

theorem fmtV_len (v : Va) (hv : ValOk v) : (fmtV v).length ≤ 20 := by
  have h1 := dB_size (n := v.fr) (by have := hv.fr; omega)
  have h2 := dB_size (n := v.to) (by have := hv.till; omega)
  have ht := hv.text
  have hk : (kindL v.kind).length = 1 := by unfold kindL; (repeat' split) <;> rfl
  unfold fmtV
  rw [← bytes_length] at h1 h2 ht
  simp only [List.length_append, List.length_cons]
  omega
structure SgOk (s : Sg) : Prop where
  code : s.code.size ≤ 8
  wide : 0 ≤ s.wide ∧ s.wide ≤ 12
  high : 0 ≤ s.high ∧ s.high ≤ 12
  len : s.vals.length ≤ 12
  vals : ∀ v ∈ s.vals, ValOk v
def fmtH (s : Sg) : List UInt8 := bytes s.code ++ 32 :: (bytes (dB s.wide) ++ 120 :: bytes (dB s.high)) ++ (if s.even then [32, 61] else [])
theorem fmtS_eq (s : Sg) : fmtS s = fmtH s ++ s.vals.flatMap (fun v => 32 :: fmtV v) := rfl
theorem fmtH_len (s : Sg) (h : SgOk s) : (fmtH s).length ≤ 30 := by
  have h1 := dB_size (n := s.wide) (by have := h.wide; omega)
  have h2 := dB_size (n := s.high) (by have := h.high; omega)
  have ht := h.code
  rw [← bytes_length] at h1 h2 ht
  unfold fmtH
  simp only [List.length_append, List.length_cons]
  split
  · simp; omega
  · simp; omega
theorem flat_le {α : Type} (f : α → List UInt8) (c : Nat) : ∀ (l : List α), (∀ x ∈ l, (f x).length ≤ c) → (l.flatMap f).length ≤ c * l.length
  | [], _ => by simp
  | x :: l, h => by
    have h1 := h x (by simp)
    have h2 := flat_le f c l (fun y hy => h y (by simp [hy]))
    rw [List.flatMap_cons, List.length_append, List.length_cons, Nat.mul_succ]; omega
theorem fmtS_len (s : Sg) (h : SgOk s) : (fmtS s).length ≤ 300 := by
  have h1 := fmtH_len s h
  have h2 := flat_le (fun v => 32 :: fmtV v) 21 s.vals (fun v hv => by have := fmtV_len v (h.vals v hv); simp; omega)
  have := h.len
  rw [fmtS_eq, List.length_append]; omega
theorem flat_snoc {α : Type} (f : α → List UInt8) (l : List α) (k : Nat) (x : α) (h : l[k]? = some x) : (l.take (k + 1)).flatMap f = (l.take k).flatMap f ++ f x := by
  obtain ⟨hk, rfl⟩ := List.getElem?_eq_some_iff.1 h
  rw [List.take_succ_eq_append_getElem hk, List.flatMap_append]; simp

set_option maxHeartbeats 1600000 in
set_option maxRecDepth 100000 in
theorem fsign_any (m : Sm) (hs : SgOk m.s) (w : World) (hE : Env w) (hm : SmOk w m) : Calls Tryd.prog 59 #[m.val] w fun e w' => e = .returned (.string (str (fmtS m.s))) ∧ Below w.heap.size w w' := by
  obtain ⟨⟨code, wide, high, even, vs⟩, A, cap⟩ := m
  have hh := fmtH_len _ hs
  obtain ⟨hcd, ⟨hw0, hw9⟩, ⟨hh0, hh9⟩, hln, hvv⟩ := hs
  obtain ⟨hvs, hl, hcap, hcode⟩ := hm
  dsimp only at hcd hw0 hw9 hh0 hh9 hln hvv hvs hl hcap hcode hh
  have h1 := dB_size (n := wide) (by omega)
  have h2 := dB_size (n := high) (by omega)
  have hcap' := hcap
  unfold maxLen at hcap' hcode
  obtain ⟨n, hn⟩ : ∃ n, n = vs.length := ⟨_, rfl⟩
  have HN := Lib.hid hn
  rw [← hn] at hl hln
  obtain ⟨H, hH⟩ : ∃ H, H = fmtH ⟨code, wide, high, even, vs⟩ := ⟨_, rfl⟩
  have HFS := Lib.hid (show fmtS ⟨code, wide, high, even, vs⟩ = H ++ vs.flatMap (fun v => 32 :: fmtV v) by rw [hH]; rfl)
  rw [← hH] at hh
  have HF1 := Lib.hid (show even = true → code ++ ⟨#[32]⟩ ++ dB wide ++ ⟨#[120]⟩ ++ dB high ++ ⟨#[32, 61]⟩ = str H from fun e => bytes_inj (by
    rw [bytes_str, hH, e]; simp only [bytes_app]; simp [fmtH, bytes]))
  have HF2 := Lib.hid (show even = false → code ++ ⟨#[32]⟩ ++ dB wide ++ ⟨#[120]⟩ ++ dB high = str H from fun e => bytes_inj (by
    rw [bytes_str, hH, e]; simp only [bytes_app]; simp [fmtH, bytes]))
  have HHS := Lib.hid (show (str H).size ≤ 30 by rw [← bytes_length, bytes_str]; exact hh)
  clear hH
  have hb := Lib.hid (below_alloc w (.cells #[.string code, .int .i64 wide, .int .i64 high, .bool even, .slice A n cap] 63))
  have HB0 := Lib.hid (heap_alloc_new w (.cells #[.string code, .int .i64 wide, .int .i64 high, .bool even, .slice A n cap] 63))
  have E1 := Lib.hid (hE.below hb.out)
  unfold Sm.val
  dsimp only
  rw [← hn]
  clear hE hn
  go_enter Tryd.func59, Tryd.ntmps59
  go_wp2
  generalize w.alloc (.cells #[.string code, .int .i64 wide, .int .i64 high, .bool even, .slice A n cap] 63) = W at hb HB0 E1 ⊢
  have hwl : w.heap.size < W.heap.size := (Array.getElem?_eq_some_iff.1 HB0.out).1
  have x0 := cell_of_blk HB0.out 0
  have x1 := cell_of_blk HB0.out 1
  have x2 := cell_of_blk HB0.out 2
  have x3 := cell_of_blk HB0.out 3
  have x4 := cell_of_blk HB0.out 4
  simp at x0 x1 x2 x3 x4
  refine wp_region_later (by kernel_rfl) (by kernel_rfl) ?_; (repeat (first | go_big_quiet_step ((first | ((go_at_call 53; exact Calls.later _ (itoaD_any _ (by omega) (by omega) _ (E1.out.below (Later.below _))))))) | quiet_step ((first | ((go_at_call 53; exact Calls.later _ (itoaD_any _ (by omega) (by omega) _ (E1.out.below (Later.below _))))))))); refine wpQuiet_nil ?_; rintro _ ⟨s, rfl⟩
  have bs := Lib.hid s.below
  clear x0 x1 x2
  cases even
  all_goals go_wp2
  · rw [HF2.out trivial]
    obtain ⟨S0, hS0⟩ : ∃ S, S = str H := ⟨_, rfl⟩
    rw [← hS0] at HHS ⊢
    have HS0 := Lib.hid hS0
    clear HF1 HF2 hS0
    have hs0 := HHS.out
    go_loopw [3, 25] (fun l i wr => ∃ k : Nat, k ≤ n ∧ i = .int .i64 k ∧ ∃ X : ByteArray, l = .string X ∧ X.size ≤ 30 + 21 * k ∧ Hid (X = str (H ++ (vs.take k).flatMap (fun v => 32 :: fmtV v))) ∧ Hid (Below W.heap.size W wr)) (fun _ i _ => n - (intOf i).toNat)
    case atStart => exact ⟨0, Nat.zero_le _, rfl, S0, rfl, by omega, Lib.hid (by rw [HS0.out]; simp), bs⟩
    case round =>
      obtain ⟨k, hk, rfl, X, rfl, hX, hXe, hbr⟩ := hrel
      by_cases hlt : k < n
      · have hget : vs[k]? = some (vs[k]'(by have := HN.out; omega)) := List.getElem?_eq_getElem _
        obtain ⟨u, hu⟩ : ∃ u, u = vs[k]'(by have := HN.out; omega) := ⟨_, rfl⟩
        rw [← hu] at hget
        obtain ⟨b, o, hA, hb1, hva⟩ := hvs k u hget
        subst hA
        have hww := Lib.hid (below_more hb.out hbr.out)
        obtain ⟨y0, y1, y2, y3, ysz⟩ := hva.below hww.out hb1
        have hsb : b < wr.heap.size := by have := hww.out.size; omega
        have VO := hvv u (List.mem_of_getElem? hget)
        have hfl := fmtV_len u VO
        have HSN := Lib.hid (flat_snoc (fun v => 32 :: fmtV v) vs k u hget)
        obtain ⟨F, hF⟩ : ∃ F, F = str (fmtV u) := ⟨_, rfl⟩
        have hFs : F.size ≤ 20 := by rw [hF, ← bytes_length, bytes_str]; exact hfl
        have HFV := Lib.hid (fun w (hE : Env w) => show Calls Tryd.prog 81 #[.agg #[.int .i64 u.kind, .string u.text, .int .i64 u.fr, .int .i64 u.to]] w (fun e w' => e = .returned (.string F) ∧ Below w.heap.size w w') by
          have := fval_any u VO w hE; rw [← hF] at this; exact this)
        have HFE := Lib.hid hF
        have BA := Lib.hid (hbr.out.alloc (by have := hbr.out.size; omega) (.cells #[.int .i64 u.kind, .string u.text, .int .i64 u.fr, .int .i64 u.to] 60))
        have BA2 := Lib.hid (below_alloc wr (.cells #[.int .i64 u.kind, .string u.text, .int .i64 u.fr, .int .i64 u.to] 60))
        clear hu hget hva VO hfl hF hvs hvv
        go_wp2_with fail
        refine (HFV.out _ (E1.out.below BA.out)).mono ?_; rintro e w4 ⟨rfl, hb4⟩
        have B4 := Lib.hid (hbr.out.trans ((below_more BA2.out hb4).mono hbr.out.size))
        have HXN := Lib.hid (show X ++ (⟨#[32]⟩ ++ F) = str (H ++ (vs.take (k + 1)).flatMap (fun v => 32 :: fmtV v)) from by
          rw [HSN.out, hXe.out, HFE.out]
          apply bytes_inj
          simp only [bytes_app, bytes_str]
          simp [bytes])
        clear hb4 y0 y1 y2 y3
        go_wp2
        go_roundw
        case rel => exact ⟨k + 1, by omega, by go_num, X ++ (⟨#[32]⟩ ++ F), rfl, by rw [ByteArray.size_append, ByteArray.size_append, show (⟨#[32]⟩ : ByteArray).size = 1 from rfl]; omega, HXN, B4⟩
        case measure => simp [intOf]; omega
      · obtain rfl : k = n := by omega
        have HR := Lib.hid (show X = str (fmtS ⟨code, wide, high, false, vs⟩) by
          have h5 := hXe.out
          rw [HN.out, List.take_length] at h5
          rw [h5, HFS.out])
        go_wp2
        go_ret
        exact ⟨of_text HR.out, below_more hb.out hbr.out⟩
  · rw [HF1.out trivial]
    obtain ⟨S0, hS0⟩ : ∃ S, S = str H := ⟨_, rfl⟩
    rw [← hS0] at HHS ⊢
    have HS0 := Lib.hid hS0
    clear HF1 HF2 hS0
    have hs0 := HHS.out
    go_loopw [3, 25] (fun l i wr => ∃ k : Nat, k ≤ n ∧ i = .int .i64 k ∧ ∃ X : ByteArray, l = .string X ∧ X.size ≤ 30 + 21 * k ∧ Hid (X = str (H ++ (vs.take k).flatMap (fun v => 32 :: fmtV v))) ∧ Hid (Below W.heap.size W wr)) (fun _ i _ => n - (intOf i).toNat)
    case atStart => exact ⟨0, Nat.zero_le _, rfl, S0, rfl, by omega, Lib.hid (by rw [HS0.out]; simp), bs⟩
    case round =>
      obtain ⟨k, hk, rfl, X, rfl, hX, hXe, hbr⟩ := hrel
      by_cases hlt : k < n
      · have hget : vs[k]? = some (vs[k]'(by have := HN.out; omega)) := List.getElem?_eq_getElem _
        obtain ⟨u, hu⟩ : ∃ u, u = vs[k]'(by have := HN.out; omega) := ⟨_, rfl⟩
        rw [← hu] at hget
        obtain ⟨b, o, hA, hb1, hva⟩ := hvs k u hget
        subst hA
        have hww := Lib.hid (below_more hb.out hbr.out)
        obtain ⟨y0, y1, y2, y3, ysz⟩ := hva.below hww.out hb1
        have hsb : b < wr.heap.size := by have := hww.out.size; omega
        have VO := hvv u (List.mem_of_getElem? hget)
        have hfl := fmtV_len u VO
        have HSN := Lib.hid (flat_snoc (fun v => 32 :: fmtV v) vs k u hget)
        obtain ⟨F, hF⟩ : ∃ F, F = str (fmtV u) := ⟨_, rfl⟩
        have hFs : F.size ≤ 20 := by rw [hF, ← bytes_length, bytes_str]; exact hfl
        have HFV := Lib.hid (fun w (hE : Env w) => show Calls Tryd.prog 81 #[.agg #[.int .i64 u.kind, .string u.text, .int .i64 u.fr, .int .i64 u.to]] w (fun e w' => e = .returned (.string F) ∧ Below w.heap.size w w') by
          have := fval_any u VO w hE; rw [← hF] at this; exact this)
        have HFE := Lib.hid hF
        have BA := Lib.hid (hbr.out.alloc (by have := hbr.out.size; omega) (.cells #[.int .i64 u.kind, .string u.text, .int .i64 u.fr, .int .i64 u.to] 60))
        have BA2 := Lib.hid (below_alloc wr (.cells #[.int .i64 u.kind, .string u.text, .int .i64 u.fr, .int .i64 u.to] 60))
        clear hu hget hva VO hfl hF hvs hvv
        go_wp2_with fail
        refine (HFV.out _ (E1.out.below BA.out)).mono ?_; rintro e w4 ⟨rfl, hb4⟩
        have B4 := Lib.hid (hbr.out.trans ((below_more BA2.out hb4).mono hbr.out.size))
        have HXN := Lib.hid (show X ++ (⟨#[32]⟩ ++ F) = str (H ++ (vs.take (k + 1)).flatMap (fun v => 32 :: fmtV v)) from by
          rw [HSN.out, hXe.out, HFE.out]
          apply bytes_inj
          simp only [bytes_app, bytes_str]
          simp [bytes])
        clear hb4 y0 y1 y2 y3
        go_wp2
        go_roundw
        case rel => exact ⟨k + 1, by omega, by go_num, X ++ (⟨#[32]⟩ ++ F), rfl, by rw [ByteArray.size_append, ByteArray.size_append, show (⟨#[32]⟩ : ByteArray).size = 1 from rfl]; omega, HXN, B4⟩
        case measure => simp [intOf]; omega
      · obtain rfl : k = n := by omega
        have HR := Lib.hid (show X = str (fmtS ⟨code, wide, high, true, vs⟩) by
          have h5 := hXe.out
          rw [HN.out, List.take_length] at h5
          rw [h5, HFS.out])
        go_wp2
        go_ret
        exact ⟨of_text HR.out, below_more hb.out hbr.out⟩

end Go.Proofs.YthnhpgmohhaeaaaDoor

/- Contract of Format. -/
namespace Go.Proofs.YthnhpgmohhaeaaaDoor
open Go.RowKit

theorem bat_keep {B b : Nat} {p : Value} {bs : List Value} {w w' : World} (h : Lib.BuilderAt 88 5 B b p bs w) (hb : Below w.heap.size w w') : Lib.BuilderAt 88 5 B b p bs w' := by
  obtain ⟨hB, v, hbk, hown, hne⟩ := h
  exact ⟨hB, v, blk_keep hb hbk, ownsRow_of_block hown (fun g hg => hb.block g (hown.lt g hg).2), hne⟩
theorem bat_size {B b : Nat} {p : Value} {bs : List Value} {w : World} (h : Lib.BuilderAt 88 5 B b p bs w) : B ≤ b ∧ b < w.heap.size := by
  obtain ⟨hB, v, hbk, _⟩ := h
  exact ⟨hB, (Array.getElem?_eq_some_iff.1 hbk).1⟩
theorem valErr_range {v : Va} {b : List Va} {p : Int} (h : valErr v b p = 0) : 1 ≤ v.fr ∧ v.fr ≤ v.to ∧ v.to ≤ p := by
  unfold valErr at h
  split at h
  · cases h
  · split at h
    · cases h
    · rename_i h2; omega
theorem signErr_wh {s : Sg} {p : Int} (h : signErr s p = 0) : withinB s.wide 12 = true ∧ withinB s.high 12 = true ∧ s.vals.length ≤ 12 := by
  unfold signErr at h
  split at h
  · cases h
  · rename_i h1
    split at h
    · cases h
    · simp at h1; exact ⟨h1.1, h1.2, by omega⟩
theorem signsErr_code0 (p : Int) : ∀ (r done : List Sg), signsErr p done r = 0 → ∀ (k : Nat) (s : Sg), r[k]? = some s → codeB s.code = true
  | [], _, _, k, v, h => by simp at h
  | x :: r, done, h0, k, v, h => by
    unfold signsErr at h0
    split at h0
    · cases h0
    · rename_i hc
      split at h0
      · cases k with
        | zero =>
          have : x = v := by simpa using h
          subst this
          simp at hc; exact hc.1
        | succ k => exact signsErr_code0 p r (done ++ [x]) h0 k v (by simpa using h)
      · rename_i hx; exact absurd h0 hx
theorem per_ok {l : Li} (h : checkErr l = 0) : 1 ≤ l.per ∧ l.per ≤ 9 := by
  unfold checkErr at h
  split at h
  · cases h
  · split at h
    · cases h
    · rename_i h2; simp [withinB] at h2; omega
theorem code_size {c : ByteArray} (h : codeB c = true) : c.size ≤ 8 := by simp [codeB, withinB] at h; omega
theorem sg_ok {l : Li} (h : checkErr l = 0) {k : Nat} {s : Sg} (hk : l.signs[k]? = some s) : SgOk s := by
  have hp := per_ok h
  have h0 := signs_ok2 h
  have h1 := signErr_wh (signsErr_ok l.per l.signs [] h0 k s hk)
  have hw := h1.1
  have hh := h1.2.1
  simp [withinB] at hw hh
  refine ⟨code_size (signsErr_code0 l.per l.signs [] h0 k s hk), by omega, by omega, h1.2.2, fun v hv => ?_⟩
  obtain ⟨j, hj⟩ := List.getElem?_of_mem hv
  have hv0 := vals_ok h hk hj
  have hr := valErr_range hv0
  have ho := valErr_ok hv0
  have hkd := ho.1
  have htx := ho.2.1
  simp [kindB] at hkd
  simp [textB, withinB] at htx
  exact ⟨by omega, by omega, by omega, by omega⟩
theorem strCells_str (l : List UInt8) : Lib.strCells (str l) = Lib.byteCells l := rfl
theorem byteCells_app (a b : List UInt8) : Lib.byteCells (a ++ b) = Lib.byteCells a ++ Lib.byteCells b := by simp [Lib.byteCells]
theorem isb_keep {B b : Nat} {bs : List Value} {w w' : World} (h : Lib.IsBuilder 88 5 B b bs w) (hb : Below w.heap.size w w') : Lib.IsBuilder 88 5 B b bs w' := by
  rcases h with h | h
  · exact .inl (bat_keep h hb)
  · exact .inr (bat_keep h hb)
theorem byteCells_len (l : List UInt8) : (Lib.byteCells l).length = l.length := by simp [Lib.byteCells]
theorem ret_fs {a b : ByteArray} (h : a = b) : Ending.returned (.tuple #[.string a, .int .i64 0]) = .returned (.tuple #[.string b, .int .i64 0]) := by rw [h]

set_option maxHeartbeats 1600000 in
set_option maxRecDepth 100000 in
theorem format_any (l : Lm) (w : World) (hE : Env w) (hl : LmOk w l) :
    Calls Tryd.prog 32 #[l.val] w fun e w' => e = .returned (.tuple #[.string (formatR l.li).1, .int .i64 (formatR l.li).2]) ∧ Below w.heap.size w w' := by
  have H0 := Lib.hid (show LmOk (w.alloc (.cells #[.int .i64 l.per, .slice l.A l.ms.length l.cap] 24)) l from hl.below (below_alloc _ _))
  have C0 := Lib.hid (heap_alloc_new w (.cells #[.int .i64 l.per, .slice l.A l.ms.length l.cap] 24))
  show Calls _ _ #[.agg #[.int .i64 l.per, .slice l.A l.ms.length l.cap]] w _
  obtain ⟨E, hE'⟩ : ∃ E, E = checkErr l.li := ⟨_, rfl⟩
  have HC := Lib.hid hE'.symm
  by_cases h0 : E = 0
  case neg =>
    have hb : (E != 0) = true := by simpa using h0
    have HF := Lib.hid (show formatR l.li = (⟨#[]⟩, E) by unfold formatR; rw [HC.out, if_pos h0])
    clear hE' h0 hl
    go_enter Tryd.func32, Tryd.ntmps32
    go_wp2_with fail
    refine (check_is l _ H0.out E HC.out).mono ?_; rintro e w1 ⟨rfl, hb1⟩
    go_wp2
    go_ret2
    exact ⟨ret_si HF.out.symm, below_of hb1⟩
  subst h0
  clear hE'
  have HF := Lib.hid (show formatR l.li = (str (fmtL l.li), 0) by unfold formatR; rw [HC.out]; rfl)
  have hper := per_ok HC.out
  obtain ⟨hp1, hp9⟩ := hper
  have hpl : l.li.per = l.per := rfl
  rw [hpl] at hp1 hp9
  clear hpl
  have hn200 := signs_le HC.out
  rw [show l.li.signs = l.signs from rfl, Lm.length_signs] at hn200
  have HSG := Lib.hid (fun k (m : Sm) (hk : l.ms[k]? = some m) => sg_ok HC.out (show l.li.signs[k]? = some m.s from Lm.getElem_signs hk))
  obtain ⟨P0, hP0⟩ : ∃ P, P = [112, 101, 114, 105, 111, 100, 115, 32] ++ bytes (dB l.per) ++ [10] := ⟨_, rfl⟩
  have hds := dB_size (n := l.per) (by omega)
  have hP0s : P0.length ≤ 12 := by rw [hP0]; rw [← bytes_length] at hds; simp; omega
  have HP0 := Lib.hid (show (⟨#[112, 101, 114, 105, 111, 100, 115, 32]⟩ : ByteArray) ++ dB l.per ++ ⟨#[10]⟩ = str P0 from bytes_inj (by
    rw [bytes_str, hP0]; simp only [bytes_app]; simp [bytes]))
  have HFL := Lib.hid (show fmtL l.li = P0 ++ (l.ms.map (·.s)).flatMap (fun s => fmtS s ++ [10]) by rw [hP0]; rfl)
  have HPS := Lib.hid hP0s
  clear hP0
  have hsg := hl.signs
  obtain ⟨n, hn⟩ : ∃ n, n = l.ms.length := ⟨_, rfl⟩
  have HN := Lib.hid hn
  have hlc := hl.len
  have hcap := hl.cap
  unfold maxLen at hcap
  rw [← hn] at hn200 hlc
  have HCK := Lib.hid (fun w (h : LmOk w l) => show Calls Tryd.prog 17 #[.agg #[.int .i64 l.per, .slice l.A n l.cap]] w (fun e w' => e = .returned (.int .i64 0) ∧ Below w.heap.size w w') by rw [hn]; exact check_is l w h 0 HC.out)
  rw [← hn] at C0 H0 ⊢
  obtain ⟨A, hAA⟩ : ∃ A, A = l.A := ⟨_, rfl⟩
  rw [← hAA] at C0 H0 HCK hsg ⊢
  clear hn hl hAA
  have hbA := Lib.hid (below_alloc w (.cells #[.int .i64 l.per, .slice A n l.cap] 24))
  go_enter Tryd.func32, Tryd.ntmps32
  go_wp2_with fail
  refine (HCK.out _ H0.out).mono ?_; rintro e w1 ⟨rfl, hb1⟩
  have b1 := Lib.hid (below_more hbA.out hb1)
  have C1 := Lib.hid (blk_keep hb1 C0.out)
  have E1 := Lib.hid (hE.below b1.out)
  have hww : w.heap.size < w1.heap.size := (Array.getElem?_eq_some_iff.1 C1.out).1
  clear hb1 hbA hE
  have x0 := cell_of_blk C1.out 0
  simp at x0
  go_wp2_with fail
  have FB := Lib.hid (Lib.fresh_isBuilder 88 5 w1)
  have BA := Lib.hid (below_alloc w1 (.cells #[.pointer none, .slice none 0 0] 88))
  generalize w1.alloc (.cells #[.pointer none, .slice none 0 0] 88) = w2 at FB BA ⊢
  refine (itoaD_any l.per (by omega) (by omega) _ (E1.out.below BA.out)).mono ?_; rintro e w3 ⟨rfl, hb3⟩
  have B3 := Lib.hid (below_more BA.out hb3)
  have IS3 := Lib.hid (isb_keep FB.out hb3)
  have hs3 : w1.heap.size ≤ w3.heap.size := B3.out.size
  clear hb3 FB BA x0
  go_wp2_with fail
  rw [HP0.out]
  have hps : (str P0).size ≤ 12 := by rw [← bytes_length, bytes_str]; exact HPS.out
  refine (bwrite_any w1.heap.size w1.heap.size [] (str P0) w3 IS3.out (by simp; omega) hs3).mono ?_; rintro e w4 ⟨rfl, hba4, hb4⟩
  have BA4 := Lib.hid (show Lib.BuilderAt 88 5 w1.heap.size w1.heap.size (.pointer (some ⟨w1.heap.size, 0, none⟩)) (Lib.byteCells P0) w4 from by
    rw [strCells_str] at hba4; simpa using hba4)
  have B4 := Lib.hid (B3.out.trans hb4)
  have C4 := Lib.hid (blk_keep B4.out C1.out)
  clear hba4 hb4 IS3 B3 hs3
  have x1 := cell_of_blk C4.out 1
  simp at x1
  go_wp2
  go_loopw [22] (fun i wr => ∃ k : Nat, k ≤ n ∧ i = .int .i64 k ∧ ∃ T : List UInt8, T.length ≤ 12 + 301 * k ∧ Hid (T = P0 ++ ((l.ms.map (·.s)).take k).flatMap (fun s => fmtS s ++ [10])) ∧ Hid (Lib.BuilderAt 88 5 w1.heap.size w1.heap.size (.pointer (some ⟨w1.heap.size, 0, none⟩)) (Lib.byteCells T) wr) ∧ Hid (Below w1.heap.size w1 wr)) (fun i _ => n - (intOf i).toNat)
  case atStart => exact ⟨0, Nat.zero_le _, rfl, P0, by have := HPS.out; omega, Lib.hid (by simp), BA4, B4⟩
  case round =>
    obtain ⟨k, hk, rfl, T, hT, hTe, hba, hbr⟩ := hrel
    by_cases hlt : k < n
    · have hget : l.ms[k]? = some (l.ms[k]'(by have := HN.out; omega)) := List.getElem?_eq_getElem _
      obtain ⟨u, hu⟩ : ∃ u, u = l.ms[k]'(by have := HN.out; omega) := ⟨_, rfl⟩
      rw [← hu] at hget
      obtain ⟨b, o, hA, hb1, hva, hok⟩ := hsg k u hget
      subst hA
      have hw1r := Lib.hid (below_more b1.out hbr.out)
      obtain ⟨y0, y1, y2, y3, y4⟩ := hva.below hw1r.out hb1
      have hsb : b < wr.heap.size := by have := hw1r.out.size; omega
      have SO := HSG.out k u hget
      have hfl := fmtS_len u.s SO
      have OKU := Lib.hid (hok.below hw1r.out)
      have HSN := Lib.hid (flat_snoc (fun s => fmtS s ++ [10]) (l.ms.map (·.s)) k u.s (by rw [List.getElem?_map, hget]; rfl))
      obtain ⟨⟨code, wide, high, even, vs⟩, Au, cu⟩ := u
      obtain ⟨F, hF⟩ : ∃ F, F = str (fmtS ⟨code, wide, high, even, vs⟩) := ⟨_, rfl⟩
      have hFs : F.size ≤ 300 := by rw [hF, ← bytes_length, bytes_str]; exact hfl
      have HFV := Lib.hid (fun w (hE : Env w) (hm : SmOk w ⟨⟨code, wide, high, even, vs⟩, Au, cu⟩) => show Calls Tryd.prog 59 #[.agg #[.string code, .int .i64 wide, .int .i64 high, .bool even, .slice Au vs.length cu]] w (fun e w' => e = .returned (.string F) ∧ Below w.heap.size w w') by
        have := fsign_any ⟨⟨code, wide, high, even, vs⟩, Au, cu⟩ SO w hE hm; rw [← hF] at this; exact this)
      have HFE := Lib.hid hF
      dsimp only at y0 y1 y2 y3 y4 HSN
      have BX := Lib.hid (below_alloc wr (.cells #[.string code, .int .i64 wide, .int .i64 high, .bool even, .slice Au vs.length cu] 63))
      have hszr := (bat_size hba.out).2
      have BX1 := Lib.hid (hbr.out.trans (BX.out.mono (Nat.le_of_lt hszr)))
      clear hu hget hva hok SO hfl hF hsg
      go_wp2_with fail
      refine (HFV.out _ (E1.out.below BX1.out) (OKU.out.below BX.out)).mono ?_; rintro e w5 ⟨rfl, hb5⟩
      have B5 := Lib.hid (below_more BX.out hb5)
      have BA5 := Lib.hid (bat_keep hba.out B5.out)
      have B15 := Lib.hid (hbr.out.trans (B5.out.mono (Nat.le_of_lt hszr)))
      have hs5 : w1.heap.size ≤ w5.heap.size := B15.out.size
      have HFN := Lib.hid (show F ++ ⟨#[10]⟩ = str (fmtS ⟨code, wide, high, even, vs⟩ ++ [10]) from by
        rw [HFE.out]; apply bytes_inj; simp only [bytes_app, bytes_str]; simp [bytes])
      have HFS := Lib.hid (show (fmtS ⟨code, wide, high, even, vs⟩ ++ [10]).length = F.size + 1 by rw [HFE.out, ← bytes_length, bytes_str]; simp)
      clear hb5 y0 y1 y2 y3 y4
      go_wp2_with fail
      rw [HFN.out]
      obtain ⟨Q, hQ⟩ : ∃ Q, Q = fmtS ⟨code, wide, high, even, vs⟩ ++ [10] := ⟨_, rfl⟩
      rw [← hQ] at HFS HSN ⊢
      have HQS := Lib.hid HFS.out
      have hql : Q.length ≤ 301 := by have := HFS.out; omega
      clear hQ HFN HFE
      refine (bwrite_any w1.heap.size w1.heap.size (Lib.byteCells T) (str Q) w5 (.inr BA5.out) (by rw [byteCells_len, ← bytes_length, bytes_str]; omega) hs5).mono ?_; rintro e w6 ⟨rfl, hba6, hb6⟩
      have BA6 := Lib.hid (show Lib.BuilderAt 88 5 w1.heap.size w1.heap.size (.pointer (some ⟨w1.heap.size, 0, none⟩)) (Lib.byteCells (T ++ Q)) w6 from by
        rw [strCells_str] at hba6; rw [byteCells_app]; exact hba6)
      have B6 := Lib.hid (B15.out.trans hb6)
      have HTN := Lib.hid (show T ++ Q = P0 ++ ((l.ms.map (·.s)).take (k + 1)).flatMap (fun s => fmtS s ++ [10]) by rw [HSN.out, hTe.out, List.append_assoc])
      clear hba6 hb6
      go_wp2
      go_roundw
      case rel => exact ⟨k + 1, by omega, by go_num, T ++ Q, by rw [List.length_append]; omega, HTN, BA6, B6⟩
      case measure => simp [intOf]; omega
    · obtain rfl : k = n := by omega
      have HR := Lib.hid (show str T = (formatR l.li).1 by
        rw [HF.out]
        show str T = str (fmtL l.li)
        have h5 := hTe.out
        rw [HN.out, show l.ms.length = (l.ms.map (·.s)).length by simp, List.take_length] at h5
        rw [h5, HFL.out])
      have HR2 := Lib.hid (show (formatR l.li).2 = 0 by rw [HF.out])
      have hszr := (bat_size hba.out).2
      go_wp2_with fail
      refine (Tryd.Builder_String_any w1.heap.size w1.heap.size T wr (.inr hba.out) (Nat.le_of_lt hszr)).mono ?_; rintro e w5 ⟨rfl, hb5⟩
      have B5 := Lib.hid (hbr.out.trans hb5)
      clear hb5
      go_wp2
      go_ret2
      refine ⟨?_, below_more b1.out B5.out⟩
      rw [HR2.out, ← HR.out]
      rfl

end Go.Proofs.YthnhpgmohhaeaaaDoor

/- Contract of the reference's Format. -/
namespace Go.Proofs.YthnhpgmohhaeaaaDoor
open Go.RowKit

theorem ex1 : (⟨#[32, 115, 119, 99]⟩ : ByteArray).extract 1 2 = ⟨#[115]⟩ := by rfl
theorem ex2 : (⟨#[32, 115, 119, 99]⟩ : ByteArray).extract 2 3 = ⟨#[119]⟩ := by rfl
theorem ex3 : (⟨#[32, 115, 119, 99]⟩ : ByteArray).extract 3 4 = ⟨#[99]⟩ := by rfl
theorem sz1 (c : UInt8) : (⟨#[c]⟩ : ByteArray).size = 1 := rfl

set_option maxHeartbeats 16000000 in
set_option maxRecDepth 100000 in
theorem rformat_any (l : Lm) (w : World) (hl : LmOk w l) :
    Calls Tryd.prog 33 #[l.val] w fun e w' => e = .returned (.tuple #[.string (formatR l.li).1, .int .i64 (formatR l.li).2]) ∧ Below w.heap.size w w' := by
  have H0 := Lib.hid (show LmOk (w.alloc (.cells #[.int .i64 l.per, .slice l.A l.ms.length l.cap] 24)) l from hl.below (below_alloc _ _))
  have C0 := Lib.hid (heap_alloc_new w (.cells #[.int .i64 l.per, .slice l.A l.ms.length l.cap] 24))
  show Calls _ _ #[.agg #[.int .i64 l.per, .slice l.A l.ms.length l.cap]] w _
  obtain ⟨E, hE'⟩ : ∃ E, E = checkErr l.li := ⟨_, rfl⟩
  have HC := Lib.hid hE'.symm
  have HCK := Lib.hid (fun w (h : LmOk w l) => show Calls Tryd.prog 18 #[.agg #[.int .i64 l.per, .slice l.A l.ms.length l.cap]] w (fun e w' => e = .returned (.int .i64 E) ∧ Below w.heap.size w w') by rw [hE']; exact rcheck_any l w h)
  by_cases h0 : E = 0
  case neg =>
    have hb : (E != 0) = true := by simpa using h0
    have HF := Lib.hid (show formatR l.li = (⟨#[]⟩, E) by unfold formatR; rw [HC.out, if_pos h0])
    clear hE' h0 hl
    go_enter Tryd.func33, Tryd.ntmps33
    go_wp2_with fail
    refine (HCK.out _ H0.out).mono ?_; rintro e w1 ⟨rfl, hb1⟩
    go_wp2
    go_ret2
    exact ⟨ret_si HF.out.symm, below_of hb1⟩
  subst h0
  clear hE'
  have HF := Lib.hid (show formatR l.li = (str (fmtL l.li), 0) by unfold formatR; rw [HC.out]; rfl)
  have hper := per_ok HC.out
  obtain ⟨hp1, hp9⟩ := hper
  have hpl : l.li.per = l.per := rfl
  rw [hpl] at hp1 hp9
  clear hpl
  have hn200 := signs_le HC.out
  rw [show l.li.signs = l.signs from rfl, Lm.length_signs] at hn200
  have HSG := Lib.hid (fun k (m : Sm) (hk : l.ms[k]? = some m) => sg_ok HC.out (show l.li.signs[k]? = some m.s from Lm.getElem_signs hk))
  obtain ⟨P0, hP0⟩ : ∃ P, P = [112, 101, 114, 105, 111, 100, 115, 32] ++ bytes (dB l.per) ++ [10] := ⟨_, rfl⟩
  have hds := dB_size (n := l.per) (by omega)
  have hP0s : P0.length ≤ 12 := by rw [hP0]; rw [← bytes_length] at hds; simp; omega
  have HP0 := Lib.hid (show (⟨#[112, 101, 114, 105, 111, 100, 115, 32]⟩ : ByteArray) ++ dB l.per ++ ⟨#[10]⟩ = str P0 from bytes_inj (by
    rw [bytes_str, hP0]; simp only [bytes_app]; simp [bytes]))
  have HFL := Lib.hid (show fmtL l.li = P0 ++ (l.ms.map (·.s)).flatMap (fun s => fmtS s ++ [10]) by rw [hP0]; rfl)
  have HPS := Lib.hid hP0s
  clear hP0
  have hsg := hl.signs
  obtain ⟨n, hn⟩ : ∃ n, n = l.ms.length := ⟨_, rfl⟩
  have HN := Lib.hid hn
  have hlc := hl.len
  have hcap := hl.cap
  unfold maxLen at hcap
  rw [← hn] at hn200 hlc
  rw [← hn] at C0 H0 HCK ⊢
  obtain ⟨A, hAA⟩ : ∃ A, A = l.A := ⟨_, rfl⟩
  rw [← hAA] at C0 H0 HCK hsg ⊢
  clear hn hl hAA
  have hbA := Lib.hid (below_alloc w (.cells #[.int .i64 l.per, .slice A n l.cap] 24))
  go_enter Tryd.func33, Tryd.ntmps33
  go_wp2_with fail
  refine (HCK.out _ H0.out).mono ?_; rintro e w1 ⟨rfl, hb1⟩
  have b1 := Lib.hid (below_more hbA.out hb1)
  have C1a := Lib.hid (blk_keep hb1 C0.out)
  clear hb1 hbA HCK
  have hww := (Array.getElem?_eq_some_iff.1 C1a.out).1
  have x0 := cell_of_blk C1a.out 0
  simp at x0
  go_wp2_with fail
  refine (rdecD_any l.per (by omega) (by omega) _).mono ?_; rintro e w2 ⟨rfl, hb2⟩
  have b2 := Lib.hid (below_more b1.out hb2)
  have C1 := Lib.hid (blk_keep hb2 C1a.out)
  clear hb2 C1a x0 hww b1 C0 H0
  have hww : w.heap.size < w2.heap.size := (Array.getElem?_eq_some_iff.1 C1.out).1
  go_wp2_with fail
  rw [HP0.out]
  obtain ⟨S1, hS1⟩ : ∃ S, S = str P0 := ⟨_, rfl⟩
  have HS1 := Lib.hid hS1
  have hps : S1.size ≤ 12 := by rw [hS1, ← bytes_length, bytes_str]; exact HPS.out
  rw [← hS1]
  clear hS1
  go_loopw [5, 6] (fun t i wr => ∃ k : Nat, k ≤ n ∧ i = .int .i64 k ∧ ∃ X : ByteArray, t = .string X ∧ X.size ≤ 12 + 301 * k ∧ Hid (X = str (P0 ++ ((l.ms.map (·.s)).take k).flatMap (fun s => fmtS s ++ [10]))) ∧ Hid (Below w2.heap.size w2 wr)) (fun _ i _ => n - (intOf i).toNat)
  case atStart => exact ⟨0, Nat.zero_le _, rfl, S1, rfl, by omega, Lib.hid (by rw [HS1.out]; simp), Lib.hid (Below.refl _ _)⟩
  case round =>
  obtain ⟨k, hk, rfl, X, rfl, hX, hXe, hbr⟩ := hrel
  have CL := Lib.hid (blk_keep hbr.out C1.out)
  have xx1 := cell_of_blk CL.out 1
  simp at xx1
  have hbrs := hbr.out.size
  by_cases hlt : k < n
  · have hget : l.ms[k]? = some (l.ms[k]'(by have := HN.out; omega)) := List.getElem?_eq_getElem _
    obtain ⟨u, hu⟩ : ∃ u, u = l.ms[k]'(by have := HN.out; omega) := ⟨_, rfl⟩
    rw [← hu] at hget
    obtain ⟨b, o, hA, hb1, hva, hok⟩ := hsg k u hget
    subst hA
    have hw1r := Lib.hid (below_more b2.out hbr.out)
    obtain ⟨y0, y1, y2, y3, y4⟩ := hva.below hw1r.out hb1
    have hsb : b < wr.heap.size := by have := hw1r.out.size; omega
    have SO := HSG.out k u hget
    have HSO := Lib.hid (flat_snoc (fun s => fmtS s ++ [10]) (l.ms.map (·.s)) k u.s (by rw [List.getElem?_map, hget]; rfl))
    obtain ⟨⟨code, wide, high, even, vs⟩, Au, cu⟩ := u
    obtain ⟨hvs, hvl, hvc, hcode⟩ := hok
    have hh := fmtH_len _ SO
    obtain ⟨hcd, ⟨hw0, hw9⟩, ⟨hh0, hh9⟩, hln, hvo⟩ := SO
    dsimp only at y0 y1 y2 y3 y4 hvs hvl hvc hcode hcd hw0 hw9 hh0 hh9 hln hvo hh HSO
    unfold maxLen at hvc
    clear hcode
    have HVO := Lib.hid hvo
    have hvv := Lib.hid hvs
    have d3 := dB_size (n := wide) (by omega)
    have d4 := dB_size (n := high) (by omega)
    obtain ⟨m, hm⟩ : ∃ m, m = vs.length := ⟨_, rfl⟩
    have HM := Lib.hid hm
    rw [← hm] at hvl hln y4
    obtain ⟨H, hH⟩ : ∃ H, H = fmtH ⟨code, wide, high, even, vs⟩ := ⟨_, rfl⟩
    have HFS := Lib.hid (show fmtS ⟨code, wide, high, even, vs⟩ = H ++ vs.flatMap (fun v => 32 :: fmtV v) by rw [hH]; rfl)
    rw [← hH] at hh
    obtain ⟨Q0, hQ0⟩ : ∃ Q, Q = P0 ++ ((l.ms.map (·.s)).take k).flatMap (fun s => fmtS s ++ [10]) := ⟨_, rfl⟩
    have HQ0 := Lib.hid hQ0
    rw [← hQ0] at hXe
    have hQs : Q0.length ≤ 12 + 301 * k := by rw [← bytes_str Q0, ← hXe.out, bytes_length]; exact hX
    have HF1 := Lib.hid (show even = true → X ++ code ++ ⟨#[32]⟩ ++ dB wide ++ ⟨#[120]⟩ ++ dB high ++ ⟨#[32, 61]⟩ = str (Q0 ++ H) from fun e => bytes_inj (by
      rw [bytes_str, hH, e, hXe.out]; simp only [bytes_app, bytes_str]; simp [fmtH, bytes]))
    have HF2 := Lib.hid (show even = false → X ++ code ++ ⟨#[32]⟩ ++ dB wide ++ ⟨#[120]⟩ ++ dB high = str (Q0 ++ H) from fun e => bytes_inj (by
      rw [bytes_str, hH, e, hXe.out]; simp only [bytes_app, bytes_str]; simp [fmtH, bytes]))
    have HHS := Lib.hid (show (str (Q0 ++ H)).size ≤ 12 + 301 * k + 30 by rw [← bytes_length, bytes_str, List.length_append]; omega)
    have HB := Lib.hid (heap_alloc_new wr (.cells #[.string code, .int .i64 wide, .int .i64 high, .bool even, .slice Au m cu] 63))
    have hbW := Lib.hid (below_alloc wr (.cells #[.string code, .int .i64 wide, .int .i64 high, .bool even, .slice Au m cu] 63))
    have hbV := Lib.hid (hbr.out.trans (hbW.out.mono hbr.out.size))
    have hww2 := Lib.hid (below_more hw1r.out hbW.out)
    clear hu hget hva hvs hvo hsg hm hH hQ0
    go_wp2
    generalize wr.alloc (.cells #[.string code, .int .i64 wide, .int .i64 high, .bool even, .slice Au m cu] 63) = V at HB hbW hbV hww2 ⊢
    have hVs : wr.heap.size < V.heap.size := (Array.getElem?_eq_some_iff.1 HB.out).1
    have x0 := cell_of_blk HB.out 0
    have x1 := cell_of_blk HB.out 1
    have x2 := cell_of_blk HB.out 2
    have x3 := cell_of_blk HB.out 3
    have x4 := cell_of_blk HB.out 4
    simp at x0 x1 x2 x3 x4
    clear y0 y1 y2 y3 y4 xx1
    refine wp_region_later (by kernel_rfl) (by kernel_rfl) ?_; (repeat (first | go_big_quiet_step ((first | ((go_at_call 54; exact Calls.later _ (rdecD_any _ (by omega) (by omega) _))))) | quiet_step ((first | ((go_at_call 54; exact Calls.later _ (rdecD_any _ (by omega) (by omega) _))))))); refine wpQuiet_nil ?_; rintro _ ⟨s, rfl⟩
    have bs := Lib.hid s.below
    clear x0 x1 x2 x4
    cases even
    all_goals go_wp2
    · rw [HF2.out trivial]
      obtain ⟨S0, hS0⟩ : ∃ S, S = str (Q0 ++ H) := ⟨_, rfl⟩
      have HS0 := Lib.hid hS0
      rw [← hS0] at HHS ⊢
      have hs0 := HHS.out
      clear HF1 HF2 hS0
      go_loopw [5, 8] (fun q j wr => ∃ c : Nat, c ≤ m ∧ j = .int .i64 c ∧ ∃ Y : ByteArray, q = .string Y ∧ Y.size ≤ 12 + 301 * k + 30 + 21 * c ∧ Hid (Y = str (Q0 ++ (H ++ (vs.take c).flatMap (fun v => 32 :: fmtV v)))) ∧ Hid (Below V.heap.size V wr)) (fun _ j _ => m - (intOf j).toNat)
      case atStart => exact ⟨0, Nat.zero_le _, rfl, S0, rfl, by omega, Lib.hid (by rw [HS0.out]; simp), bs⟩
      case round =>
        obtain ⟨c, hc, rfl, Y, rfl, hY, hYe, hq⟩ := hrel
        obtain ⟨wq, hwq⟩ : ∃ x, x = wr := ⟨_, rfl⟩
        rw [← hwq] at hq ⊢
        clear hwq
        have hqs := hq.out.size
        have HBq := Lib.hid (blk_keep hq.out HB.out)
        have x4 := cell_of_blk HBq.out 4
        simp at x4
        have hwV := Lib.hid (below_more hww2.out hq.out)
        have B1q := Lib.hid (hbV.out.trans (hq.out.mono hbV.out.size))
        have CLq := Lib.hid (blk_keep B1q.out C1.out)
        have xx1 := cell_of_blk CLq.out 1
        simp at xx1
        by_cases hcm : c < m
        · have hget : vs[c]? = some (vs[c]'(by have := HM.out; omega)) := List.getElem?_eq_getElem _
          obtain ⟨u, hu⟩ : ∃ u, u = vs[c]'(by have := HM.out; omega) := ⟨_, rfl⟩
          rw [← hu] at hget
          obtain ⟨b', o', hA', hb1', hva'⟩ := hvv.out c u hget
          subst hA'
          obtain ⟨y0, y1, y2, y3, ysz⟩ := hva'.below hwV.out hb1'
          have hsb' : b' < wq.heap.size := by have := hwV.out.size; omega
          have VO := HVO.out u (List.mem_of_getElem? hget)
          have HSN := Lib.hid (flat_snoc (fun v => 32 :: fmtV v) vs c u hget)
          obtain ⟨kd, tx, fr, tt⟩ := u
          obtain ⟨hkd, htx, ⟨hf0, hf9⟩, ht0, ht9⟩ := VO
          dsimp only at y0 y1 y2 y3 ysz hkd htx hf0 hf9 ht0 ht9
          have d1 := dB_size (n := fr) (by omega)
          have d2 := dB_size (n := tt) (by omega)
          have HB2 := Lib.hid (heap_alloc_new wq (.cells #[.int .i64 kd, .string tx, .int .i64 fr, .int .i64 tt] 60))
          have hbV2 := Lib.hid (below_alloc wq (.cells #[.int .i64 kd, .string tx, .int .i64 fr, .int .i64 tt] 60))
          clear hu hget hva' hb1' hvv
          rcases hkd with rfl | rfl | rfl
          · clear hqs
            have HXN := Lib.hid (show Y ++ ⟨#[32]⟩ ++ ⟨#[115]⟩ ++ ⟨#[58]⟩ ++ tx ++ ⟨#[64]⟩ ++ dB fr ++ ⟨#[45]⟩ ++ dB tt = str (Q0 ++ (H ++ (vs.take (c + 1)).flatMap (fun v => 32 :: fmtV v))) from by
              rw [HSN.out, hYe.out]
              apply bytes_inj
              simp only [bytes_app, bytes_str]
              simp [bytes, fmtV, kindL])
            go_wp2
            generalize wq.alloc (.cells #[.int .i64 1, .string tx, .int .i64 fr, .int .i64 tt] 60) = V2 at HB2 hbV2 ⊢
            have z0 := cell_of_blk HB2.out 0
            have z1 := cell_of_blk HB2.out 1
            have z2 := cell_of_blk HB2.out 2
            have z3 := cell_of_blk HB2.out 3
            simp at z0 z1 z2 z3
            have hV2s : wq.heap.size < V2.heap.size := (Array.getElem?_eq_some_iff.1 HB2.out).1
            refine wp_region_later (by kernel_rfl) (by kernel_rfl) ?_; (repeat (first | go_big_quiet_step ((first | ((go_at_call 54; exact Calls.later _ (rdecD_any _ (by omega) (by omega) _))))) | quiet_step ((first | ((go_at_call 54; exact Calls.later _ (rdecD_any _ (by omega) (by omega) _))))))); refine wpQuiet_nil ?_; rintro _ ⟨s, rfl⟩
            go_wp2
            go_roundw
            case rel => rw [ex1]; exact ⟨c + 1, by omega, by go_num, _, rfl, by simp only [ByteArray.size_append, sz1]; omega, HXN, Lib.hid (hq.out.trans ((below_more hbV2.out s.below).mono hq.out.size))⟩
            case measure => simp [intOf]; omega
          · clear hqs
            have HXN := Lib.hid (show Y ++ ⟨#[32]⟩ ++ ⟨#[119]⟩ ++ ⟨#[58]⟩ ++ tx ++ ⟨#[64]⟩ ++ dB fr ++ ⟨#[45]⟩ ++ dB tt = str (Q0 ++ (H ++ (vs.take (c + 1)).flatMap (fun v => 32 :: fmtV v))) from by
              rw [HSN.out, hYe.out]
              apply bytes_inj
              simp only [bytes_app, bytes_str]
              simp [bytes, fmtV, kindL])
            go_wp2
            generalize wq.alloc (.cells #[.int .i64 2, .string tx, .int .i64 fr, .int .i64 tt] 60) = V2 at HB2 hbV2 ⊢
            have z0 := cell_of_blk HB2.out 0
            have z1 := cell_of_blk HB2.out 1
            have z2 := cell_of_blk HB2.out 2
            have z3 := cell_of_blk HB2.out 3
            simp at z0 z1 z2 z3
            have hV2s : wq.heap.size < V2.heap.size := (Array.getElem?_eq_some_iff.1 HB2.out).1
            refine wp_region_later (by kernel_rfl) (by kernel_rfl) ?_; (repeat (first | go_big_quiet_step ((first | ((go_at_call 54; exact Calls.later _ (rdecD_any _ (by omega) (by omega) _))))) | quiet_step ((first | ((go_at_call 54; exact Calls.later _ (rdecD_any _ (by omega) (by omega) _))))))); refine wpQuiet_nil ?_; rintro _ ⟨s, rfl⟩
            go_wp2
            go_roundw
            case rel => rw [ex2]; exact ⟨c + 1, by omega, by go_num, _, rfl, by simp only [ByteArray.size_append, sz1]; omega, HXN, Lib.hid (hq.out.trans ((below_more hbV2.out s.below).mono hq.out.size))⟩
            case measure => simp [intOf]; omega
          · clear hqs
            have HXN := Lib.hid (show Y ++ ⟨#[32]⟩ ++ ⟨#[99]⟩ ++ ⟨#[58]⟩ ++ tx ++ ⟨#[64]⟩ ++ dB fr ++ ⟨#[45]⟩ ++ dB tt = str (Q0 ++ (H ++ (vs.take (c + 1)).flatMap (fun v => 32 :: fmtV v))) from by
              rw [HSN.out, hYe.out]
              apply bytes_inj
              simp only [bytes_app, bytes_str]
              simp [bytes, fmtV, kindL])
            go_wp2
            generalize wq.alloc (.cells #[.int .i64 3, .string tx, .int .i64 fr, .int .i64 tt] 60) = V2 at HB2 hbV2 ⊢
            have z0 := cell_of_blk HB2.out 0
            have z1 := cell_of_blk HB2.out 1
            have z2 := cell_of_blk HB2.out 2
            have z3 := cell_of_blk HB2.out 3
            simp at z0 z1 z2 z3
            have hV2s : wq.heap.size < V2.heap.size := (Array.getElem?_eq_some_iff.1 HB2.out).1
            refine wp_region_later (by kernel_rfl) (by kernel_rfl) ?_; (repeat (first | go_big_quiet_step ((first | ((go_at_call 54; exact Calls.later _ (rdecD_any _ (by omega) (by omega) _))))) | quiet_step ((first | ((go_at_call 54; exact Calls.later _ (rdecD_any _ (by omega) (by omega) _))))))); refine wpQuiet_nil ?_; rintro _ ⟨s, rfl⟩
            go_wp2
            go_roundw
            case rel => rw [ex3]; exact ⟨c + 1, by omega, by go_num, _, rfl, by simp only [ByteArray.size_append, sz1]; omega, HXN, Lib.hid (hq.out.trans ((below_more hbV2.out s.below).mono hq.out.size))⟩
            case measure => simp [intOf]; omega
        · obtain rfl : c = m := by omega
          have HEND := Lib.hid (show Y ++ ⟨#[10]⟩ = str (P0 ++ ((l.ms.map (·.s)).take (k + 1)).flatMap (fun s => fmtS s ++ [10])) from by
            rw [HSO.out, hYe.out, HM.out, List.take_length, HFS.out]
            apply bytes_inj
            simp only [bytes_app, bytes_str, HQ0.out]
            simp [bytes])
          go_wp2
          go_roundw
          case rel => exact ⟨k + 1, by omega, by go_num, Y ++ ⟨#[10]⟩, rfl, by simp only [ByteArray.size_append, sz1]; omega, HEND, B1q⟩
          case measure => simp [intOf]; omega
    · rw [HF1.out trivial]
      obtain ⟨S0, hS0⟩ : ∃ S, S = str (Q0 ++ H) := ⟨_, rfl⟩
      have HS0 := Lib.hid hS0
      rw [← hS0] at HHS ⊢
      have hs0 := HHS.out
      clear HF1 HF2 hS0
      go_loopw [5, 8] (fun q j wr => ∃ c : Nat, c ≤ m ∧ j = .int .i64 c ∧ ∃ Y : ByteArray, q = .string Y ∧ Y.size ≤ 12 + 301 * k + 30 + 21 * c ∧ Hid (Y = str (Q0 ++ (H ++ (vs.take c).flatMap (fun v => 32 :: fmtV v)))) ∧ Hid (Below V.heap.size V wr)) (fun _ j _ => m - (intOf j).toNat)
      case atStart => exact ⟨0, Nat.zero_le _, rfl, S0, rfl, by omega, Lib.hid (by rw [HS0.out]; simp), bs⟩
      case round =>
        obtain ⟨c, hc, rfl, Y, rfl, hY, hYe, hq⟩ := hrel
        obtain ⟨wq, hwq⟩ : ∃ x, x = wr := ⟨_, rfl⟩
        rw [← hwq] at hq ⊢
        clear hwq
        have hqs := hq.out.size
        have HBq := Lib.hid (blk_keep hq.out HB.out)
        have x4 := cell_of_blk HBq.out 4
        simp at x4
        have hwV := Lib.hid (below_more hww2.out hq.out)
        have B1q := Lib.hid (hbV.out.trans (hq.out.mono hbV.out.size))
        have CLq := Lib.hid (blk_keep B1q.out C1.out)
        have xx1 := cell_of_blk CLq.out 1
        simp at xx1
        by_cases hcm : c < m
        · have hget : vs[c]? = some (vs[c]'(by have := HM.out; omega)) := List.getElem?_eq_getElem _
          obtain ⟨u, hu⟩ : ∃ u, u = vs[c]'(by have := HM.out; omega) := ⟨_, rfl⟩
          rw [← hu] at hget
          obtain ⟨b', o', hA', hb1', hva'⟩ := hvv.out c u hget
          subst hA'
          obtain ⟨y0, y1, y2, y3, ysz⟩ := hva'.below hwV.out hb1'
          have hsb' : b' < wq.heap.size := by have := hwV.out.size; omega
          have VO := HVO.out u (List.mem_of_getElem? hget)
          have HSN := Lib.hid (flat_snoc (fun v => 32 :: fmtV v) vs c u hget)
          obtain ⟨kd, tx, fr, tt⟩ := u
          obtain ⟨hkd, htx, ⟨hf0, hf9⟩, ht0, ht9⟩ := VO
          dsimp only at y0 y1 y2 y3 ysz hkd htx hf0 hf9 ht0 ht9
          have d1 := dB_size (n := fr) (by omega)
          have d2 := dB_size (n := tt) (by omega)
          have HB2 := Lib.hid (heap_alloc_new wq (.cells #[.int .i64 kd, .string tx, .int .i64 fr, .int .i64 tt] 60))
          have hbV2 := Lib.hid (below_alloc wq (.cells #[.int .i64 kd, .string tx, .int .i64 fr, .int .i64 tt] 60))
          clear hu hget hva' hb1' hvv
          rcases hkd with rfl | rfl | rfl
          · clear hqs
            have HXN := Lib.hid (show Y ++ ⟨#[32]⟩ ++ ⟨#[115]⟩ ++ ⟨#[58]⟩ ++ tx ++ ⟨#[64]⟩ ++ dB fr ++ ⟨#[45]⟩ ++ dB tt = str (Q0 ++ (H ++ (vs.take (c + 1)).flatMap (fun v => 32 :: fmtV v))) from by
              rw [HSN.out, hYe.out]
              apply bytes_inj
              simp only [bytes_app, bytes_str]
              simp [bytes, fmtV, kindL])
            go_wp2
            generalize wq.alloc (.cells #[.int .i64 1, .string tx, .int .i64 fr, .int .i64 tt] 60) = V2 at HB2 hbV2 ⊢
            have z0 := cell_of_blk HB2.out 0
            have z1 := cell_of_blk HB2.out 1
            have z2 := cell_of_blk HB2.out 2
            have z3 := cell_of_blk HB2.out 3
            simp at z0 z1 z2 z3
            have hV2s : wq.heap.size < V2.heap.size := (Array.getElem?_eq_some_iff.1 HB2.out).1
            refine wp_region_later (by kernel_rfl) (by kernel_rfl) ?_; (repeat (first | go_big_quiet_step ((first | ((go_at_call 54; exact Calls.later _ (rdecD_any _ (by omega) (by omega) _))))) | quiet_step ((first | ((go_at_call 54; exact Calls.later _ (rdecD_any _ (by omega) (by omega) _))))))); refine wpQuiet_nil ?_; rintro _ ⟨s, rfl⟩
            go_wp2
            go_roundw
            case rel => rw [ex1]; exact ⟨c + 1, by omega, by go_num, _, rfl, by simp only [ByteArray.size_append, sz1]; omega, HXN, Lib.hid (hq.out.trans ((below_more hbV2.out s.below).mono hq.out.size))⟩
            case measure => simp [intOf]; omega
          · clear hqs
            have HXN := Lib.hid (show Y ++ ⟨#[32]⟩ ++ ⟨#[119]⟩ ++ ⟨#[58]⟩ ++ tx ++ ⟨#[64]⟩ ++ dB fr ++ ⟨#[45]⟩ ++ dB tt = str (Q0 ++ (H ++ (vs.take (c + 1)).flatMap (fun v => 32 :: fmtV v))) from by
              rw [HSN.out, hYe.out]
              apply bytes_inj
              simp only [bytes_app, bytes_str]
              simp [bytes, fmtV, kindL])
            go_wp2
            generalize wq.alloc (.cells #[.int .i64 2, .string tx, .int .i64 fr, .int .i64 tt] 60) = V2 at HB2 hbV2 ⊢
            have z0 := cell_of_blk HB2.out 0
            have z1 := cell_of_blk HB2.out 1
            have z2 := cell_of_blk HB2.out 2
            have z3 := cell_of_blk HB2.out 3
            simp at z0 z1 z2 z3
            have hV2s : wq.heap.size < V2.heap.size := (Array.getElem?_eq_some_iff.1 HB2.out).1
            refine wp_region_later (by kernel_rfl) (by kernel_rfl) ?_; (repeat (first | go_big_quiet_step ((first | ((go_at_call 54; exact Calls.later _ (rdecD_any _ (by omega) (by omega) _))))) | quiet_step ((first | ((go_at_call 54; exact Calls.later _ (rdecD_any _ (by omega) (by omega) _))))))); refine wpQuiet_nil ?_; rintro _ ⟨s, rfl⟩
            go_wp2
            go_roundw
            case rel => rw [ex2]; exact ⟨c + 1, by omega, by go_num, _, rfl, by simp only [ByteArray.size_append, sz1]; omega, HXN, Lib.hid (hq.out.trans ((below_more hbV2.out s.below).mono hq.out.size))⟩
            case measure => simp [intOf]; omega
          · clear hqs
            have HXN := Lib.hid (show Y ++ ⟨#[32]⟩ ++ ⟨#[99]⟩ ++ ⟨#[58]⟩ ++ tx ++ ⟨#[64]⟩ ++ dB fr ++ ⟨#[45]⟩ ++ dB tt = str (Q0 ++ (H ++ (vs.take (c + 1)).flatMap (fun v => 32 :: fmtV v))) from by
              rw [HSN.out, hYe.out]
              apply bytes_inj
              simp only [bytes_app, bytes_str]
              simp [bytes, fmtV, kindL])
            go_wp2
            generalize wq.alloc (.cells #[.int .i64 3, .string tx, .int .i64 fr, .int .i64 tt] 60) = V2 at HB2 hbV2 ⊢
            have z0 := cell_of_blk HB2.out 0
            have z1 := cell_of_blk HB2.out 1
            have z2 := cell_of_blk HB2.out 2
            have z3 := cell_of_blk HB2.out 3
            simp at z0 z1 z2 z3
            have hV2s : wq.heap.size < V2.heap.size := (Array.getElem?_eq_some_iff.1 HB2.out).1
            refine wp_region_later (by kernel_rfl) (by kernel_rfl) ?_; (repeat (first | go_big_quiet_step ((first | ((go_at_call 54; exact Calls.later _ (rdecD_any _ (by omega) (by omega) _))))) | quiet_step ((first | ((go_at_call 54; exact Calls.later _ (rdecD_any _ (by omega) (by omega) _))))))); refine wpQuiet_nil ?_; rintro _ ⟨s, rfl⟩
            go_wp2
            go_roundw
            case rel => rw [ex3]; exact ⟨c + 1, by omega, by go_num, _, rfl, by simp only [ByteArray.size_append, sz1]; omega, HXN, Lib.hid (hq.out.trans ((below_more hbV2.out s.below).mono hq.out.size))⟩
            case measure => simp [intOf]; omega
        · obtain rfl : c = m := by omega
          have HEND := Lib.hid (show Y ++ ⟨#[10]⟩ = str (P0 ++ ((l.ms.map (·.s)).take (k + 1)).flatMap (fun s => fmtS s ++ [10])) from by
            rw [HSO.out, hYe.out, HM.out, List.take_length, HFS.out]
            apply bytes_inj
            simp only [bytes_app, bytes_str, HQ0.out]
            simp [bytes])
          go_wp2
          go_roundw
          case rel => exact ⟨k + 1, by omega, by go_num, Y ++ ⟨#[10]⟩, rfl, by simp only [ByteArray.size_append, sz1]; omega, HEND, B1q⟩
          case measure => simp [intOf]; omega
  · obtain rfl : k = n := by omega
    have HR := Lib.hid (show X = str (fmtL l.li) by
      have h5 := hXe.out
      rw [HN.out, show l.ms.length = (l.ms.map (·.s)).length from (List.length_map _).symm, List.take_length] at h5
      rw [h5, HFL.out])
    go_wp2
    go_ret2
    exact ⟨by rw [HF.out]; exact ret_fs HR.out, below_more b2.out hbr.out⟩

end Go.Proofs.YthnhpgmohhaeaaaDoor

/- The text of a valid list is read as the same list. -/
namespace Go.Proofs.YthnhpgmohhaeaaaDoor
open Go.RowKit

theorem strEq_bytes (a b : ByteArray) : strEq a b = (bytes a == bytes b) := strEq_iff a b
theorem dec13 (n : Int) (h0 : 0 ≤ n) (h : n ≤ 12) : bytes (dB n) ∈ ([[48], [49], [50], [51], [52], [53], [54], [55], [56], [57], [49, 48], [49, 49], [49, 50]] : List (List UInt8)) ∧ numV (bytes (dB n)) = n := by
  refine ⟨?_, by rw [dB_bytes, dec_num]; omega⟩
  rw [dB_bytes]
  have : n.toNat = 0 ∨ n.toNat = 1 ∨ n.toNat = 2 ∨ n.toNat = 3 ∨ n.toNat = 4 ∨ n.toNat = 5 ∨ n.toNat = 6 ∨ n.toNat = 7 ∨ n.toNat = 8 ∨ n.toNat = 9 ∨ n.toNat = 10 ∨ n.toNat = 11 ∨ n.toNat = 12 := by omega
  rcases this with h | h | h | h | h | h | h | h | h | h | h | h | h <;> rw [h]
  iterate 10 (rw [dec_small _ (by decide)]; decide)
  all_goals rw [dec_big _ (by decide), dec_small _ (by decide)]; decide
theorem num13 (n : Int) (h0 : 0 ≤ n) (h : n ≤ 12) : numP (dB n) = (n, true) := by
  obtain ⟨hm, hv⟩ := dec13 n h0 h
  unfold numP
  rw [if_pos, hv]
  rw [strEq_bytes, ← bytes_length]
  generalize bytes (dB n) = l at hm
  clear hv
  revert l
  decide
theorem pair13 (a b : Int) (c : UInt8) (hc : digB c = false) (h0 : 0 ≤ a) (h : a ≤ 12) (g0 : 0 ≤ b) (g : b ≤ 12) : pairP (str (bytes (dB a) ++ c :: bytes (dB b))) ⟨#[c]⟩ = (a, b, true) := by
  have h1 := num13 a h0 h
  have h2 := num13 b g0 g
  have hf : c ∉ bytes (dB a) := num_free (by rw [h1]) hc
  unfold pairP
  rw [cutB_hit hf (bytes_str _), str_bytes, str_bytes]
  dsimp only
  rw [h1, h2]; rfl
theorem kind_fm (k : Int) (h : k = 1 ∨ k = 2 ∨ k = 3) : kindP (str (kindL k)) = (k, true) := by
  rcases h with rfl | rfl | rfl <;> (unfold kindP; simp only [strEq_bytes, bytes_str]; decide)
/-- a valid value or sign, wholly -/
structure ValFull (v : Va) : Prop where
  ok : ValOk v
  text : textB v.kind v.text = true
theorem text_loose {k : Int} {s : ByteArray} (h : textB k s = true) : (∀ c ∈ bytes s, letB c = true) ∧ bytes s ≠ [] := by
  unfold textB at h
  simp only [Bool.and_eq_true] at h
  refine ⟨fun c hc => ?_, fun e => ?_⟩
  · have := List.all_eq_true.1 h.2 c hc
    simp only [Bool.and_eq_true] at this
    exact this.1
  · have h1 := h.1
    rw [← bytes_length, e] at h1
    simp [withinB] at h1
theorem let_loose {c : UInt8} (h : letdigB c = true) : looseB c = true := by
  simp [letdigB, letB, capB, smallB, digB] at h
  simp [looseB]
  omega
theorem nameP_of {s : ByteArray} (h : ∀ c ∈ bytes s, letdigB c = true) (hne : bytes s ≠ []) : nameP s = true := by
  unfold nameP
  rw [List.all_eq_true.2 (fun c hc => let_loose (h c hc))]
  cases hb : bytes s with
  | nil => exact absurd hb hne
  | cons => rfl
theorem good_fmt {v : Va} (h : ValFull v) : GoodV (kindL v.kind) (bytes v.text) (bytes (dB v.fr) ++ 45 :: bytes (dB v.to)) := by
  have ht := text_loose h.text
  have h1 := h.ok.fr
  have h2 := h.ok.till
  refine ⟨by rw [kind_fm _ h.ok.kind], ?_, ?_⟩
  · rw [str_bytes]
    exact nameP_of (fun c hc => by rw [letdigB, ht.1 c hc]; rfl) ht.2
  · rw [pair13 _ _ 45 (by decide) h1.1 (by omega) h2.1 (by omega)]
theorem value_fmt {v : Va} (h : ValFull v) : valueP (str (fmtV v)) = (v, true) := by
  have h1 := h.ok.fr
  have h2 := h.ok.till
  unfold fmtV
  rw [valueP_of (good_fmt h) (bytes_str _), kind_fm _ h.ok.kind, str_bytes, pair13 _ _ 45 (by decide) h1.1 (by omega) h2.1 (by omega)]
theorem fmtV_free {v : Va} (h : ValFull v) {c : UInt8} (hc : c = 32 ∨ c = 10) : c ∉ fmtV v := by
  have hg := good_fmt h
  have hd : digB c = false := by rcases hc with rfl | rfl <;> decide
  have hl : looseB c = false := by rcases hc with rfl | rfl <;> decide
  have n1 : c ∉ kindL v.kind := by
    rcases kind_one hg.kind with e | e | e <;> rw [e] <;> rcases hc with rfl | rfl <;> decide
  have n2 := name_free hg.name hl
  have n3 := pair_free hg.pair hd (by rcases hc with rfl | rfl <;> decide)
  rw [bytes_str] at n2 n3
  have n4 : c ≠ 58 := by rcases hc with rfl | rfl <;> decide
  have n5 : c ≠ 64 := by rcases hc with rfl | rfl <;> decide
  unfold fmtV
  intro hm
  rcases List.mem_append.1 hm with hm | hm
  · exact n1 hm
  rcases List.mem_cons.1 hm with hm | hm
  · exact n4 hm
  rcases List.mem_append.1 hm with hm | hm
  · exact n2 hm
  rcases List.mem_cons.1 hm with hm | hm
  · exact n5 hm
  exact n3 hm
structure SgFull (s : Sg) : Prop where
  ok : SgOk s
  code : codeB s.code = true
  vals : ∀ v ∈ s.vals, ValFull v
theorem sg_full {l : Li} (h : checkErr l = 0) : ∀ s ∈ l.signs, SgFull s := fun s hs => by
  obtain ⟨k, hk⟩ := List.getElem?_of_mem hs
  have ho := sg_ok h hk
  refine ⟨ho, signsErr_code0 l.per l.signs [] (signs_ok2 h) k s hk, fun v hv => ?_⟩
  obtain ⟨j, hj⟩ := List.getElem?_of_mem hv
  exact ⟨ho.vals v hv, (valErr_ok (vals_ok h hk hj)).2.1⟩
theorem spl_flat (c : UInt8) : ∀ (xs : List (List UInt8)) (a : List UInt8), c ∉ a → (∀ x ∈ xs, c ∉ x) → spl c (a ++ xs.flatMap (fun x => c :: x)) = a :: xs
  | [], a, ha, _ => by simp [spl_none c a ha]
  | x :: xs, a, ha, h => by
    rw [List.flatMap_cons, List.cons_append, spl_hit c a _ ha, spl_flat c xs x (h x (by simp)) (fun y hy => h y (by simp [hy]))]
theorem spl_lines (c : UInt8) : ∀ (xs : List (List UInt8)), (∀ x ∈ xs, c ∉ x) → spl c (xs.flatMap (fun x => x ++ [c])) = xs ++ [[]]
  | [], _ => rfl
  | x :: xs, h => by
    rw [List.flatMap_cons, List.append_assoc, List.singleton_append, spl_hit c x _ (h x (by simp)), spl_lines c xs (fun y hy => h y (by simp [hy]))]; rfl
def szL (s : Sg) : List UInt8 := bytes (dB s.wide) ++ 120 :: bytes (dB s.high)
theorem fmtS_flat (s : Sg) : fmtS s = bytes s.code ++ ((szL s :: (if s.even then [[61]] else [])) ++ s.vals.map fmtV).flatMap (fun x => 32 :: x) := by
  unfold fmtS szL
  cases s.even <;> simp [List.flatMap_map]
theorem code_let {s : ByteArray} (h : codeB s = true) : (∀ c ∈ bytes s, letdigB c = true) ∧ bytes s ≠ [] := by
  unfold codeB at h
  simp only [Bool.and_eq_true] at h
  refine ⟨fun c hc => List.all_eq_true.1 h.2.2 c hc, fun e => ?_⟩
  have h1 := h.1
  rw [← bytes_length, e] at h1
  simp [withinB] at h1
theorem code_free {s : ByteArray} (h : codeB s = true) {c : UInt8} (hc : c = 32 ∨ c = 10) : c ∉ bytes s := fun hm => by
  have := (code_let h).1 c hm
  rcases hc with rfl | rfl <;> exact absurd this (by decide)
theorem sz_free {s : Sg} (h : SgOk s) {c : UInt8} (hc : c = 32 ∨ c = 10) : c ∉ szL s := by
  have h1 := h.wide
  have h2 := h.high
  have hd : digB c = false := by rcases hc with rfl | rfl <;> decide
  have n1 : c ∉ bytes (dB s.wide) := num_free (by rw [num13 _ h1.1 (by omega)]) hd
  have n2 : c ∉ bytes (dB s.high) := num_free (by rw [num13 _ h2.1 (by omega)]) hd
  unfold szL
  intro hm
  rcases List.mem_append.1 hm with hm | hm
  · exact n1 hm
  rcases List.mem_cons.1 hm with hm | hm
  · rcases hc with rfl | rfl <;> exact absurd hm (by decide)
  exact n2 hm
theorem parts_free {s : Sg} (h : SgFull s) {c : UInt8} (hc : c = 32 ∨ c = 10) : ∀ x ∈ (szL s :: (if s.even then [[61]] else [])) ++ s.vals.map fmtV, c ∉ x := fun x hx => by
  rcases List.mem_append.1 hx with hx | hx
  · rcases List.mem_cons.1 hx with rfl | hx
    · exact sz_free h.ok hc
    · split at hx
      · rw [List.mem_singleton] at hx
        subst hx
        rcases hc with rfl | rfl <;> decide
      · cases hx
  · obtain ⟨v, hv, rfl⟩ := List.mem_map.1 hx
    exact fmtV_free (h.vals v hv) hc
theorem fmtS_free {s : Sg} (h : SgFull s) : (10 : UInt8) ∉ fmtS s := by
  rw [fmtS_flat]
  intro hm
  rcases List.mem_append.1 hm with hm | hm
  · exact code_free h.code (.inr rfl) hm
  · obtain ⟨x, hx, hm⟩ := List.mem_flatMap.1 hm
    rcases List.mem_cons.1 hm with hm | hm
    · exact absurd hm (by decide)
    · exact parts_free h (.inr rfl) x hx hm
theorem vals_fmt : ∀ (vs : List Va), (∀ v ∈ vs, ValFull v) → valsP (vs.map (fun v => str (fmtV v))) = some vs
  | [], _ => rfl
  | v :: vs, h => by
    rw [List.map_cons, valsP, value_fmt (h v (by simp)), if_pos rfl, vals_fmt vs (fun u hu => h u (by simp [hu]))]; rfl
theorem fmtV_ne {v : Va} : strEq (str (fmtV v)) ⟨#[61]⟩ = false := by
  rw [strEq_bytes, bytes_str, show bytes ⟨#[61]⟩ = [61] from rfl]
  unfold fmtV kindL
  (repeat' split) <;> simp
theorem rest_fmt (s : Sg) : restP (((if s.even then [[61]] else []) ++ s.vals.map fmtV).map str) = (s.even, s.vals.map (fun v => str (fmtV v))) := by
  rw [List.map_append, List.map_map, show (str ∘ fmtV) = (fun v => str (fmtV v)) from rfl]
  cases s.even
  · cases hv : s.vals with
    | nil => rfl
    | cons v vs =>
      show restP (str (fmtV v) :: vs.map (fun v => str (fmtV v))) = _
      rw [restP_cons, fmtV_ne]; rfl
  · show restP (str [61] :: s.vals.map (fun v => str (fmtV v))) = _
    rw [restP_cons, show strEq (str [61]) ⟨#[61]⟩ = true from by rw [strEq_bytes]; decide]; rfl
theorem sign_fmt {s : Sg} (h : SgFull s) : signP (str (fmtS s)) = (s, true) := by
  have h1 := h.ok.wide
  have h2 := h.ok.high
  have hc := code_let h.code
  have hz := pair13 s.wide s.high 120 (by decide) h1.1 (by omega) h2.1 (by omega)
  have hp : splB (str (fmtS s)) 32 = s.code :: str (szL s) :: ((if s.even then [[61]] else []) ++ s.vals.map fmtV).map str := by
    unfold splB
    rw [bytes_str, fmtS_flat, spl_flat 32 _ _ (code_free h.code (.inl rfl)) (parts_free h (.inl rfl)), List.map_cons, str_bytes]; rfl
  unfold signP
  rw [splitS_spl, hp]
  rw [signF_some (nameP_of hc.1 hc.2) (by unfold szL; rw [hz]) (by rw [rest_fmt]; exact vals_fmt _ h.vals), rest_fmt]
  unfold szL
  rw [hz]
theorem lines_fmt : ∀ (ss : List Sg) (n : Int), (∀ s ∈ ss, SgFull s) → linesL (ss.map (fun s => str (fmtS s)) ++ [str []]) n = .inl ss
  | [], n, _ => rfl
  | s :: ss, n, h => by
    have ih := lines_fmt ss (n + 1) (fun u hu => h u (by simp [hu]))
    cases hq : ss.map (fun s => str (fmtS s)) ++ [str []] with
    | nil => simp at hq
    | cons y r =>
      rw [hq] at ih
      rw [List.map_cons, List.cons_append, hq, linesL, sign_fmt (h s (by simp)), if_pos rfl, ih]; rfl
theorem head_fmt (n : Int) (h0 : 0 ≤ n) (h : n ≤ 12) : headR (str ([112, 101, 114, 105, 111, 100, 115, 32] ++ bytes (dB n))) = (n, true) := by
  have h1 := num13 n h0 h
  have hf : (32 : UInt8) ∉ bytes (dB n) := num_free (by rw [h1]) (by decide)
  have e := splB_cons (t := str ([112, 101, 114, 105, 111, 100, 115, 32] ++ bytes (dB n))) (c := 32) (a := [112, 101, 114, 105, 111, 100, 115]) (r := bytes (dB n)) (by decide) (by rw [bytes_str]; rfl)
  unfold headR
  rw [e, str_bytes, splB_one hf]
  dsimp only
  rw [show strEq (str [112, 101, 114, 105, 111, 100, 115]) ⟨#[112, 101, 114, 105, 111, 100, 115]⟩ = true from by rw [strEq_bytes]; decide, if_pos rfl, h1]
theorem all_fmt {l : Li} (h : checkErr l = 0) : allP (str (fmtL l)) = (l, 0) := by
  have hp := per_ok h
  have hd := head_fmt l.per (by omega) (by omega)
  have hf : (10 : UInt8) ∉ ([112, 101, 114, 105, 111, 100, 115, 32] ++ bytes (dB l.per) : List UInt8) := by
    have := num_free (c := 10) (s := dB l.per) (by rw [num13 _ (by omega) (by omega)]) (by decide)
    intro hm
    rcases List.mem_append.1 hm with hm | hm
    · exact absurd hm (by decide)
    · exact this hm
  have hs : splB (str (fmtL l)) 10 = str ([112, 101, 114, 105, 111, 100, 115, 32] ++ bytes (dB l.per)) :: (l.signs.map (fun s => str (fmtS s)) ++ [str []]) := by
    have e : fmtL l = (([112, 101, 114, 105, 111, 100, 115, 32] ++ bytes (dB l.per)) :: l.signs.map fmtS).flatMap (fun x => x ++ [10]) := by
      rw [List.flatMap_cons, List.flatMap_map]; rfl
    unfold splB
    rw [bytes_str, e, spl_lines 10 _ (fun x hx => by
      rcases List.mem_cons.1 hx with rfl | hx
      · exact hf
      · obtain ⟨s, hs, rfl⟩ := List.mem_map.1 hx
        exact fmtS_free (sg_full h s hs))]
    simp
  have hl := lines_fmt l.signs 2 (sg_full h)
  rw [allP_L, hs]
  cases hq : l.signs.map (fun s => str (fmtS s)) ++ [str []] with
  | nil => simp at hq
  | cons y r =>
    rw [hq] at hl
    rw [allL_cons, hd, if_pos rfl, hl]; rfl
theorem parse_fmt {l : Li} (h : checkErr l = 0) : parseP (str (fmtL l)) = (l, 0, 0) ∧ (str (fmtL l)).size ≤ 65536 := by
  have hp := per_ok h
  have hsz : (str (fmtL l)).size ≤ 65536 := by
    rw [← bytes_length, bytes_str]
    have h1 := flat_le (fun s => fmtS s ++ [10]) 301 l.signs (fun s hs => by have := fmtS_len s (sg_full h s hs).ok; simp; omega)
    have h2 := signs_le h
    have h3 := dB_size (n := l.per) (by omega)
    rw [← bytes_length] at h3
    unfold fmtL
    simp only [List.length_append, List.length_cons, List.length_nil]
    omega
  refine ⟨?_, hsz⟩
  unfold parseP
  rw [if_neg (by omega), all_fmt h]
  dsimp only
  rw [if_neg (by omega), if_neg (by rw [h]; simp)]
end Go.Proofs.YthnhpgmohhaeaaaDoor

/- Contract of the law of Format: it returns true. -/
namespace Go.Proofs.YthnhpgmohhaeaaaDoor
open Go.RowKit

set_option maxHeartbeats 1600000 in
set_option maxRecDepth 100000 in
theorem law_formats (L : Lm) (w : World) (hE : Env w) (hl : LmOk w L) :
    Calls Tryd.prog 8 #[L.val] w fun e w' => e = .returned (.bool true) ∧ Below w.heap.size w w' := by
  obtain ⟨W, hW⟩ : ∃ W, W = (w.alloc (.cells #[.int .i64 L.per, .slice L.A L.ms.length L.cap] 24)) := ⟨_, rfl⟩
  have HB := Lib.hid (show Below w.heap.size w W from hW ▸ below_alloc _ _)
  have C1 := Lib.hid (show W.heap[w.heap.size]? = some (.cells #[.int .i64 L.per, .slice L.A L.ms.length L.cap] 24 (0, 0)) by
    rw [hW]; exact heap_alloc_new _ _)
  have HL := Lib.hid (hl.below HB.out)
  have HE := Lib.hid (hE.below HB.out)
  clear hl hE
  obtain ⟨B, hB⟩ : ∃ B, bigB L.signs = B := ⟨_, rfl⟩
  have HBB := Lib.hid hB
  clear hB
  show Calls _ _ #[.agg #[.int .i64 L.per, .slice L.A L.ms.length L.cap]] w _
  have HBG := Lib.hid (fun r (h : bigB L.signs = r) => show Calls Tryd.prog 12 #[.agg #[.int .i64 L.per, .slice L.A L.ms.length L.cap]] W _ from big_is L W HL.out r h)
  have HWK := Lib.hid (fun w1 (hb : Below W.heap.size W w1) => works_any w1 (HE.out.below hb))
  go_enter Tryd.func8, Tryd.ntmps8
  go_wp2_with fail
  rw [← hW]
  refine (HBG.out _ HBB.out).mono ?_; rintro e w1 ⟨rfl, hb1⟩
  have b1 := Lib.hid hb1
  have D1 := Lib.hid (blk_keep hb1 C1.out)
  have x0 := cell_of_blk D1.out 0
  have x1 := cell_of_blk D1.out 1
  simp at x0 x1
  clear hb1 HBG hW
  cases B with
  | true =>
    go_wp2_with fail
    refine (HWK.out _ b1.out).mono ?_; rintro e w2 ⟨rfl, hb2⟩
    go_wp2
    go_ret
    exact ⟨rfl, (HB.out.trans (b1.out.mono HB.out.size)).trans (hb2.mono (by have := HB.out.size; have := b1.out.size; omega))⟩
  | false =>
  have HNB := Lib.hid (not_big HBB.out)
  have HCP := Lib.hid (fun wx (hb : Below W.heap.size W wx) => show Calls Tryd.prog 14 #[.agg #[.int .i64 L.per, .slice L.A L.ms.length L.cap]] wx (GotList wx L.li) from
    copy_any L wx (HL.out.below hb) (by have := HNB.out.1; omega) (fun m hm => by have := (HNB.out.2 m hm).1; omega))
  have HFM := Lib.hid (fun wx (M : Lm) (h : LmOk wx M) (hli : M.li = L.li) (hE : Env wx) => show Calls Tryd.prog 32 #[M.val] wx (fun e w' => e = .returned (.tuple #[.string (formatR L.li).1, .int .i64 (formatR L.li).2]) ∧ Below wx.heap.size wx w') by
    rw [← hli]; exact format_any M wx hE h)
  have HRF := Lib.hid (fun wx (hb : Below W.heap.size W wx) => show Calls Tryd.prog 33 #[.agg #[.int .i64 L.per, .slice L.A L.ms.length L.cap]] wx (fun e w' => e = .returned (.tuple #[.string (formatR L.li).1, .int .i64 (formatR L.li).2]) ∧ Below wx.heap.size wx w') from
    rformat_any L wx (HL.out.below hb))
  have HBD := Lib.hid (fun (M : Lm) (h : M.li = L.li) => big_bds (L := L) (M := M) HBB.out h)
  have HPA := Lib.hid (fun (h : (formatR L.li).2 = 0) wx (hE : Env wx) => show Calls Tryd.prog 34 #[.string (formatR L.li).1] wx (GotParse wx (L.li, 0, 0)) by
    have hc : checkErr L.li = 0 := by
      unfold formatR at h
      split at h
      · exact h
      · rename_i hn; simpa using hn
    have hf : formatR L.li = (str (fmtL L.li), 0) := by unfold formatR; rw [if_neg (by rw [hc]; simp)]
    have hp := parse_fmt hc
    rw [hf, ← hp.1]
    exact parse_any _ wx hE (by have := hp.2; dsimp only; omega))
  obtain ⟨⟨F, E⟩, hq⟩ : ∃ q, q = formatR L.li := ⟨_, rfl⟩
  rw [← hq] at HFM HRF HPA
  clear hq HNB
  dsimp only at HFM HRF HPA
  go_wp2_with fail
  refine (HCP.out _ b1.out).mono ?_; rintro e w2 ⟨N1, rfl, hok1, hli1, hb2⟩
  have b2 := Lib.hid (below_more b1.out hb2)
  clear x0 x1 hb2 HCP D1
  go_wp2_with fail
  refine (HFM.out _ N1 hok1 hli1 (HE.out.below b2.out)).mono ?_; rintro e w3 ⟨rfl, hb3⟩
  have b3 := Lib.hid (below_more b2.out hb3)
  have D3 := Lib.hid (blk_keep b3.out C1.out)
  have x0 := cell_of_blk D3.out 0
  have x1 := cell_of_blk D3.out 1
  simp at x0 x1
  clear hb3 HFM hok1 hli1
  go_wp2_with fail
  refine (HRF.out _ b3.out).mono ?_; rintro e w4 ⟨rfl, hb4⟩
  have b4 := Lib.hid (below_more b3.out hb4)
  clear hb4 HRF x0 x1 D3
  by_cases h0 : E = 0
  case neg =>
    have hb : (E != 0) = true := by simpa using h0
    clear h0 HPA
    go_wp2_with fail
    refine (HWK.out _ b4.out).mono ?_; rintro e w5 ⟨rfl, hb5⟩
    go_wp2
    go_ret
    exact ⟨rfl, (HB.out.trans (b4.out.mono HB.out.size)).trans (hb5.mono (by have := HB.out.size; have := b4.out.size; omega))⟩
  subst h0
  go_wp2_with fail
  refine (HPA.out (by first | trivial | rfl) _ (HE.out.below b4.out)).mono ?_; rintro e w5 ⟨⟨mp, ms, mA, mc⟩, rfl, hok, hli, hb5⟩
  unfold Lm.val
  dsimp only at hli ⊢
  have b5 := Lib.hid (below_more b4.out (below_more hb5 (below_alloc w5 (.cells #[.int .i64 mp, .slice mA ms.length mc] 24))))
  have D1 := Lib.hid (blk_keep b5.out C1.out)
  have D2 := Lib.hid (heap_alloc_new w5 (.cells #[.int .i64 mp, .slice mA ms.length mc] 24))
  have OKM := Lib.hid (hok.below (below_alloc w5 (.cells #[.int .i64 mp, .slice mA ms.length mc] 24)))
  have LI := Lib.hid hli
  have hw45 := hb5.size
  clear hb5 hok hli HPA
  have x0 := cell_of_blk D1.out 0
  have x1 := cell_of_blk D1.out 1
  simp at x0 x1
  have hsz : w.heap.size < w5.heap.size := by have := b4.out.size; have := (Array.getElem?_eq_some_iff.1 C1.out).1; have := hw45; omega
  have HS := Lib.hid (fun wx (hb : Below W.heap.size W wx) (h2 : LmOk wx ⟨mp, ms, mA, mc⟩) => show Calls Tryd.prog 19 #[.agg #[.int .i64 L.per, .slice L.A L.ms.length L.cap], .agg #[.int .i64 mp, .slice mA ms.length mc]] wx (fun e w' => e = .returned (.bool true) ∧ Below wx.heap.size wx w') by
    have c1 := HBD.out L rfl
    have c2 := HBD.out _ LI.out
    have := rsame_any L ⟨mp, ms, mA, mc⟩ wx (HL.out.below hb) h2 c2.2 c1.2 c2.1 c1.1
    rw [LI.out, liEq_refl] at this
    exact this)
  clear HBD
  go_wp2_with fail
  refine (HS.out _ b5.out OKM.out).mono ?_; rintro e w6 ⟨rfl, hb6⟩
  have b6 := Lib.hid (below_more b5.out hb6)
  clear hb6 x0 x1
  go_wp2_with fail
  refine (HWK.out _ b6.out).mono ?_; rintro e w7 ⟨rfl, hb7⟩
  go_wp2
  go_ret
  exact ⟨rfl, (HB.out.trans (b6.out.mono HB.out.size)).trans (hb7.mono (by have := HB.out.size; have := b6.out.size; omega))⟩

end Go.Proofs.YthnhpgmohhaeaaaDoor
