/-
  Contracts of parseLines and of Parse.
-/
import Derived.Test.YtleihhkacmgofaaGreatDoorPar
namespace Go.Proofs.YtleihhkacmgofaaGreatDoor
open Go.RowKit

def strLen : Value → Nat
  | .string s => s.size
  | _ => 0
/-- all memory of a list lies in blocks from B on -/
def Fresh (B : Nat) (L : Lm) : Prop := (∀ b o, L.A = some ⟨b, o, none⟩ → B ≤ b) ∧ ∀ m ∈ L.ms, ∀ b o, m.A = some ⟨b, o, none⟩ → B ≤ b
/-- a list that was read, and a number -/
def GotLines (w : World) (r : Li × Int) (e : Ending) (w' : World) : Prop :=
  ∃ L : Lm, e = .returned (.tuple #[L.val, .int .i64 r.2]) ∧ LmOk w' L ∧ L.li = r.1 ∧ Below w.heap.size w w' ∧ Fresh w.heap.size L
def zeroLm : Lm := ⟨0, [], none, 0⟩
theorem fresh_zero (B : Nat) : Fresh B zeroLm := ⟨fun b o h => by simp [zeroLm] at h, fun m h => by simp [zeroLm] at h⟩
theorem LinesRel.fresh {w wr : World} {per : Int} {k c' : Nat} {A' : Option Addr} {cs : List Sm} (h : LinesRel w wr per k (.slice A' k c') cs) : Fresh w.heap.size ⟨per, cs, A', c'⟩ := by
  obtain ⟨A1, c1, e1, -, -, hA1, -⟩ := own_slice h.own
  injection e1 with e1 e2 e3
  subst e1 e3
  refine ⟨fun b o e => ?_, fun m hm b o e => ?_⟩
  · obtain ⟨g, eg, hg, _⟩ := hA1 _ e
    injection eg with eg _
    omega
  · have := (h.apart m hm b o e).1; omega
theorem lmok_zero (w : World) : LmOk w zeroLm := ⟨fun k m h => by simp [zeroLm] at h, Nat.le_refl _, Nat.zero_le _⟩
theorem ret_li {L : Lm} {n : Int} {p : Li × Int} {v : Value} (hv : v = L.val) (h : n = p.2) : Ending.returned (.tuple #[v, .int .i64 n]) = .returned (.tuple #[L.val, .int .i64 p.2]) := by
  rw [hv, h]
theorem below_set2 {w W : World} (h : Below w.heap.size w W) (a b : Value) : Below w.heap.size w ((W.setCell ⟨w.heap.size, 0, none⟩ a).setCell ⟨w.heap.size, 1, none⟩ b) :=
  (h.setCell (p := ⟨w.heap.size, 0, none⟩) (Nat.le_refl _) _).setCell (p := ⟨w.heap.size, 1, none⟩) (Nat.le_refl _) _
theorem below_set1 {w W : World} (h : Below w.heap.size w W) (j : Nat) (a : Value) : Below w.heap.size w (W.setCell ⟨w.heap.size, j, none⟩ a) :=
  h.setCell (p := ⟨w.heap.size, j, none⟩) (Nat.le_refl _) _
def goOn (cs : List Sg) : List Sg ⊕ Int → List Sg ⊕ Int
  | .inl ss => .inl (cs ++ ss)
  | .inr b => .inr b
theorem linesP_step (f : Nat) (t : ByteArray) (n : Int) (h0 : (bytes t).isEmpty = false) (h : ((cutB t ⟨#[10]⟩).2.2 && (signP (cutB t ⟨#[10]⟩).1).2) = true) (cs : List Sg) :
    goOn cs (linesP (f + 1) t n) = goOn (cs ++ [(signP (cutB t ⟨#[10]⟩).1).1]) (linesP f (cutB t ⟨#[10]⟩).2.1 (n + 1)) := by
  rw [linesP, if_neg (by rw [h0]; simp)]
  dsimp only
  rw [if_pos h]
  cases linesP f (cutB t ⟨#[10]⟩).2.1 (n + 1) <;> simp [goOn]
theorem linesP_bad (f : Nat) (t : ByteArray) (n : Int) (h0 : (bytes t).isEmpty = false) (h : ((cutB t ⟨#[10]⟩).2.2 && (signP (cutB t ⟨#[10]⟩).1).2) = false) (cs : List Sg) : goOn cs (linesP (f + 1) t n) = .inr n := by
  rw [linesP, if_neg (by rw [h0]; simp)]
  dsimp only
  rw [if_neg (by rw [h]; simp)]
  rfl
theorem linesP_end (f : Nat) (t : ByteArray) (n : Int) (h0 : (bytes t).isEmpty = true) (cs : List Sg) : goOn cs (linesP f t n) = .inl cs := by
  cases f with
  | zero => simp [linesP, goOn]
  | succ f => rw [linesP, if_pos h0]; simp [goOn]
theorem sum_inj (x : List Sg ⊕ Int) : goOn [] x = x := by cases x <;> simp [goOn]

set_option maxHeartbeats 3200000 in
set_option maxRecDepth 100000 in
theorem lines_any (t : ByteArray) (w : World) (hE : Env w) (hs : t.size ≤ 100000) : Calls Tryz.prog 35 #[.string t] w (GotLines w (allP t)) := by
  obtain ⟨⟨c0, c1, c2⟩, hc⟩ : ∃ c, c = cutB t ⟨#[10]⟩ := ⟨_, rfl⟩
  have hcs := cutB_size t ⟨#[10]⟩
  rw [← hc] at hcs
  dsimp only at hcs
  have hc0 := Lib.hid (Nat.le_trans hcs.1 hs)
  have hc1 := Lib.hid (Nat.le_trans hcs.2 hs)
  have hc1t := Lib.hid hcs.2
  obtain ⟨⟨per, pb⟩, hp⟩ : ∃ p, p = headP c0 := ⟨_, rfl⟩
  have HA := Lib.hid (show allP t = if c2 && pb then (match linesP (t.size + 1) c1 2 with
    | .inl ss => (⟨per, ss⟩, 0)
    | .inr b => (⟨0, []⟩, b)) else (⟨0, []⟩, 1) by unfold allP; rw [← hc]; dsimp only; rw [← hp]; rfl)
  have A1 := Lib.hid (fun (w : World) (hE : Env w) => show Calls Tryz.prog 52 #[.string t, .string ⟨#[10]⟩] w fun e w' => e = .returned (.tuple #[.string c0, .string c1, .bool c2]) ∧ Below w.heap.size w w' by
    have := cut_any t ⟨#[10]⟩ w hE hs; rw [← hc] at this; exact this)
  have A2 := Lib.hid (fun (w : World) => show Calls Tryz.prog 53 #[.string c0] w fun e w' => e = .returned (.tuple #[.int .i64 per, .bool pb]) ∧ w = w' by
    have := head_any c0 w hc0.out; rw [← hp] at this; exact this)
  have hE0 := Lib.hid (hE.below (below_alloc w (.cells #[.int .i64 0, .slice none 0 0] 24)))
  have hB0 := Lib.hid (heap_alloc_new w (.cells #[.int .i64 0, .slice none 0 0] 24))
  have hb0 := Lib.hid (below_alloc w (.cells #[.int .i64 0, .slice none 0 0] 24))
  clear hc hp hcs
  go_enter Tryz.func35, Tryz.ntmps35
  go_wp2_with fail
  refine (A1.out _ hE0.out).mono ?_; rintro e w1 ⟨rfl, hb1⟩
  have b1 := Lib.hid (below_more hb0.out hb1)
  have B1 := Lib.hid (blk_below hb1 hB0.out)
  clear hb1
  go_wp2_with fail
  refine (A2.out _).mono ?_; rintro e w' ⟨rfl, rfl⟩
  have q0 := cell_of_blk B1.out 0
  have q1 := cell_of_blk B1.out 1
  simp at q0 q1
  have f0 := free_of_blk B1.out 0
  have f1 := free_of_blk B1.out 1
  have bad : (c2 && pb) = false → Hid (allP t = (⟨0, []⟩, 1)) := fun h => Lib.hid (by rw [HA.out, if_neg (by rw [h]; simp)])
  have BAD := Lib.hid bad
  clear bad
  cases c2 with
  | false =>
    have HF := BAD.out rfl
    go_wp2_with fail
    refine bodyPost_ret (v := .tuple #[Lm.val zeroLm, .int .i64 1]) (by simp [results, Tryz.results35, go_sem, q0, q1, zeroLm, Lm.val]) rfl ⟨zeroLm, ret_li rfl (by rw [HF.out]), lmok_zero _, by rw [HF.out]; rfl, ?_⟩
    exact ⟨below_set2 b1.out _ _, fresh_zero _⟩
  | true =>
  cases pb with
  | false =>
    have HF := BAD.out rfl
    go_wp2_with fail
    refine bodyPost_ret (v := .tuple #[Lm.val zeroLm, .int .i64 1]) (by simp [results, Tryz.results35, go_sem, q0, q1, zeroLm, Lm.val]) rfl ⟨zeroLm, ret_li rfl (by rw [HF.out]), lmok_zero _, by rw [HF.out]; rfl, ?_⟩
    exact ⟨below_set2 b1.out _ _, fresh_zero _⟩
  | true =>
  clear BAD
  have HA2 := Lib.hid (show allP t = (match linesP (t.size + 1) c1 2 with
    | .inl ss => (⟨per, ss⟩, 0)
    | .inr b => (⟨0, []⟩, b)) by rw [HA.out]; rfl)
  have HR0 := Lib.hid (show LinesRel w (w1.setCell ⟨w.heap.size, 0, none⟩ (.int .i64 per)) per 0 (.slice none 0 0) [] from
    ⟨below_set1 b1.out 0 _, by rw [heap_setCell_same _ _ _ _ _ _ B1.out]; rfl, World.ownsRow_nil _ _ _ _, rfl, by simp, by simp⟩)
  obtain ⟨is, his, hzs, hss, hbs⟩ := info_hid infoSg
  go_wp2_with fail
  clear q0 q1 f0 f1
  go_loopw [5, 9] (fun x i wr => ∃ (k f : Nat) (tx : ByteArray), x = .string tx ∧ i = .int .i64 (2 + k) ∧ k + f ≤ 100001 ∧ tx.size < f ∧ Hid (∃ v cs, LinesRel w wr per k v cs ∧ linesP (t.size + 1) c1 2 = goOn (cs.map (·.s)) (linesP f tx (2 + k)))) (fun x _ _ => strLen x)
  case atStart =>
    exact ⟨0, t.size + 1, c1, rfl, rfl, by omega, by have := hc1t.out; omega, Lib.hid ⟨_, _, HR0.out, by simp [sum_inj]⟩⟩
  case round =>
    obtain ⟨k, f, tx, rfl, rfl, hkf, hf, hrl⟩ := hrel
    obtain ⟨v, cs, hr, hlp⟩ := hrl.out
    have HR := Lib.hid hr
    have HLP := Lib.hid hlp
    clear hr hlp hrl
    have hlt0 : w.heap.size < wr.heap.size := (Array.getElem?_eq_some_iff.1 HR.out.b0).1
    by_cases hz : tx.size = 0
    · have he0 : tx.toList = [] := by rw [ByteArray.toList_eq]; exact List.eq_nil_of_length_eq_zero (by rw [Array.length_toList]; exact hz)
      have he1 : tx.toList.isEmpty = true := by rw [he0]; rfl
      have HF := Lib.hid (show allP t = (⟨per, cs.map (·.s)⟩, 0) by rw [HA2.out, HLP.out, linesP_end _ _ _ (by unfold bytes; rw [← ByteArray.toList_eq]; exact he1)])
      have HB1 := Lib.hid HR.out.b0
      have q0 := cell_of_blk HB1.out 0
      have q1 := cell_of_blk HB1.out 1
      simp at q0 q1
      have f0 := free_of_blk HB1.out 0
      have f1 := free_of_blk HB1.out 1
      obtain ⟨Av, cv, hv, -, -, -, -⟩ := own_slice HR.out.own
      subst hv
      have HLEN := Lib.hid HR.out.len
      go_wp2_with fail
      refine bodyPost_ret (v := .tuple #[Lm.val ⟨per, cs, Av, cv⟩, .int .i64 0]) (by simp [results, Tryz.results35, go_sem, q0, q1, Lm.val, HLEN.out]) rfl ⟨⟨per, cs, Av, cv⟩, ret_li rfl (by rw [HF.out]), LinesRel.done HR.out (by simp) (fun g hg => by rw [heap_setCell_other _ _ _ _ hg, heap_setCell_other _ _ _ _ hg]), by rw [HF.out]; rfl, below_set2 HR.out.below _ _, LinesRel.fresh HR.out⟩
    · have he1 : tx.toList.isEmpty = false := by
        rw [ByteArray.toList_eq, List.isEmpty_eq_false_iff]; intro e
        have := congrArg List.length e; rw [Array.length_toList] at this; exact hz this
      obtain ⟨g, rfl⟩ : ∃ g, f = g + 1 := ⟨f - 1, by omega⟩
      have HE1 := Lib.hid (show (bytes tx).isEmpty = false by unfold bytes; rw [← ByteArray.toList_eq]; exact he1)
      have htx : tx.size ≤ 100000 := by omega
      obtain ⟨⟨d0, d1, d2⟩, hd⟩ : ∃ d, d = cutB tx ⟨#[10]⟩ := ⟨_, rfl⟩
      have hds := cutB_size tx ⟨#[10]⟩
      have hdl := cutB_less tx ⟨#[10]⟩ (by simp)
      rw [← hd] at hds hdl
      dsimp only at hds hdl
      have hd0 := Lib.hid (Nat.le_trans hds.1 htx)
      obtain ⟨⟨sg, sb⟩, hsg⟩ : ∃ p, p = signP d0 := ⟨_, rfl⟩
      have HD := Lib.hid hd.symm
      have HSG := Lib.hid hsg.symm
      have HDL := Lib.hid hdl
      have D1 := Lib.hid (fun (w : World) (hE : Env w) => show Calls Tryz.prog 52 #[.string tx, .string ⟨#[10]⟩] w fun e w' => e = .returned (.tuple #[.string d0, .string d1, .bool d2]) ∧ Below w.heap.size w w' by
        have := cut_any tx ⟨#[10]⟩ w hE htx; rw [← hd] at this; exact this)
      have D2 := Lib.hid (fun (w : World) (hE : Env w) => show Calls Tryz.prog 54 #[.string d0] w (GotSign w (sg, sb)) by
        have := sign_parse d0 w hE hd0.out; rw [← hsg] at this; exact this)
      have hEr := Lib.hid (hE.below HR.out.below)
      clear hd hds hdl hsg
      go_wp2_with fail
      refine (D1.out _ hEr.out).mono ?_; rintro e w2 ⟨rfl, hb2⟩
      have E2 := Lib.hid (hEr.out.below hb2)
      have HB2 := Lib.hid hb2
      clear hb2
      go_wp2_with fail
      refine (D2.out _ E2.out).mono ?_; rintro e w3 ⟨⟨⟨mc, mw, mh, me, mv⟩, mA, mcap⟩, rfl, hms, hmok, hmA, hb3⟩
      have HB3 := Lib.hid (below_more HB2.out hb3)
      have HM3 := Lib.hid hb3
      have HMS := Lib.hid hms
      have HMOK := Lib.hid hmok
      have HMA := Lib.hid hmA
      clear hb3 hms hmok hmA
      have hs3 : wr.heap.size ≤ w3.heap.size := HB3.out.size
      have hB3 := blk_below HB3.out HR.out.b0
      have q0 := cell_of_blk hB3 0
      have q1 := cell_of_blk hB3 1
      simp at q0 q1
      have f0 := free_of_blk hB3 0
      have f1 := free_of_blk hB3 1
      have hlt3 : w.heap.size < w3.heap.size := by omega
      have hne3 : w.heap.size ≠ w3.heap.size := by omega
      have HBB3 := Lib.hid hB3
      clear hB3
      unfold Sm.val
      dsimp only
      have hbx := Lib.hid (HR.out.below.trans (HB3.out.mono (Nat.le_of_lt hlt0)))
      have bad : (d2 && sb) = false → Hid (allP t = (⟨0, []⟩, 2 + (k : Int))) := fun h => Lib.hid (by
        rw [HA2.out, HLP.out, linesP_bad _ _ _ HE1.out (by rw [HD.out]; dsimp only; rw [HSG.out]; exact h)])
      have BAD := Lib.hid bad
      clear bad
      cases d2 with
      | false =>
        have HF := BAD.out rfl
        go_wp2_with fail
        refine bodyPost_ret (v := .tuple #[Lm.val zeroLm, .int .i64 (2 + k)]) (by simp [results, Tryz.results35, go_sem, q0, q1, zeroLm, Lm.val, hlt3]) rfl ⟨zeroLm, ret_li rfl (by rw [HF.out]), lmok_zero _, by rw [HF.out]; rfl, ?_⟩
        exact ⟨Below.alloc (below_set2 hbx.out _ _) (by simp; omega) _, fresh_zero _⟩
      | true =>
      cases sb with
      | false =>
        have HF := BAD.out rfl
        go_wp2_with fail
        refine bodyPost_ret (v := .tuple #[Lm.val zeroLm, .int .i64 (2 + k)]) (by simp [results, Tryz.results35, go_sem, q0, q1, zeroLm, Lm.val, hlt3]) rfl ⟨zeroLm, ret_li rfl (by rw [HF.out]), lmok_zero _, by rw [HF.out]; rfl, ?_⟩
        exact ⟨Below.alloc (below_set2 hbx.out _ _) (by simp; omega) _, fresh_zero _⟩
      | true =>
      clear BAD
      have hd1 := HDL.out rfl (by omega)
      go_wp2_with (first
        | (at_builtin; refine wpList_append_src _ rfl (.tmp 59) (.tmp 61) 22 rfl (w.heap.size + 1) 39 is (.agg #[.string ⟨#[]⟩, .int .i64 0, .int .i64 0, .bool false, .slice none 0 0]) 5 64 Tryz.underlying22 his.out hzs.out hss.out hbs.out rfl (by decide) v k (cs.flatMap Sm.cells) rfl ?own2 (some ⟨w3.heap.size + 1, 0, none⟩) 1 1 (Sm.cells ⟨⟨mc, mw, mh, me, mv⟩, mA, mcap⟩) rfl ?l2 ?n2 ?c2 sm_one ?m2 ?b2 ?s2 (k + 1) rfl ?_))
      case own2 => exact (((ownsRow_of_block HR.out.own (fun g hg => HB3.out.block g (HR.out.own.lt g hg).2)).alloc _).alloc _)
      case l2 => rfl
      case c2 =>
        first
          | (intro j u' hj; exact hj)
          | (intro ad had j u' hj
             injection had with had
             subst had
             have := new_cells (w3.alloc (.cells #[.string mc, .int .i64 mw, .int .i64 mh, .bool me, .slice mA mv.length mcap] 39)) (Sm.cells ⟨⟨mc, mw, mh, me, mv⟩, mA, mcap⟩) 39 j u' hj
             simpa [Sm.cells] using this)
      case m2 => unfold maxLen; omega
      case b2 => omega
      case s2 => first | omega | (simp; omega)
      · intro A2 c2 w4 own2 hg2 hat
        have k3 : w4.heap[w.heap.size]? = some (.cells #[.int .i64 per, v] 24 (0, 0)) := by
          rw [hg2.block _ (by simp; omega) (fun e => by have := (HR.out.own.lt _ e.symm).1; omega), heap_alloc_other _ _ _ (by simp; omega), heap_alloc_other _ _ _ (by omega)]; exact HBB3.out
        have p1 := cell_of_blk k3 1
        have pf := free_of_blk k3 1
        simp at p1
        have STEP := Lib.hid (LinesRel.step HR.out HB3.out HMOK.out (fun b o e => ⟨Nat.le_trans HB2.out.size (HMA.out b o e).1, (HMA.out b o e).2⟩) own2 hg2 (by simpa using hat))
        have HNX := Lib.hid (linesP_step g tx (2 + (k : Int)) HE1.out (by rw [HD.out]; dsimp only; rw [HSG.out]; rfl) (cs.map (·.s)))
        have HNY := Lib.hid (show (signP (cutB tx ⟨#[10]⟩).1).1 = (⟨mc, mw, mh, me, mv⟩ : Sg) by rw [HD.out]; dsimp only; rw [HSG.out]; exact HMS.out.symm)
        clear own2 hg2 hat k3 q0 q1 f0 f1
        go_wp2
        go_roundw
        case rel => exact ⟨k + 1, g, d1, rfl, by go_num, by omega, by omega, Lib.hid ⟨_, _, STEP.out, by rw [HLP.out, HNX.out, HNY.out, HD.out, show (2 : Int) + (k : Int) + 1 = 2 + ((k + 1 : Nat) : Int) by omega, List.map_append]; rfl⟩⟩
        case measure => simp [strLen]; omega

end Go.Proofs.YtleihhkacmgofaaGreatDoor
