/-
  Contracts of parseHead and parseValue. And what builds on it.
-/
import Derived.Test.YtleihhkacmgofabGreatDoorPk5
import Derived.Deep.DeepCutAuto
import Derived.Lib.SplitLaws

/- Contracts of parseHead and parseValue. -/
namespace Go.Proofs.YtleihhkacmgofabGreatDoor
open Go.RowKit

theorem blk_below {W w' : World} (hb : Below W.heap.size W w') {g : Nat} {cs : Array Value} {t : TypeId} (h : W.heap[g]? = some (.cells cs t (0, 0))) : w'.heap[g]? = some (.cells cs t (0, 0)) :=
  (hb.block g (Array.getElem?_eq_some_iff.1 h).1).trans h
theorem trim_len (l p : List UInt8) : (Lib.trimPrefix l p).length ≤ l.length := by unfold Lib.trimPrefix; split <;> simp

theorem prefix_any (s p : ByteArray) (w : World) : Calls Tryz.prog 62 #[.string s, .string p] w fun e w' => e = .returned (.tuple #[.string ⟨(Lib.trimPrefix s.data.toList p.data.toList).toArray⟩, .bool (Lib.hasPrefix s.data.toList p.data.toList)]) ∧ w = w' :=
  (Tryz.strings_CutPrefix s p w).mono fun _ _ ⟨h1, h2⟩ => ⟨h1, h2.symm⟩

set_option maxHeartbeats 800000 in
theorem head_any (s : ByteArray) (w : World) (hs : s.size ≤ 100000) :
    Calls Tryz.prog 47 #[.string s] w fun e w' => e = .returned (.tuple #[.int .i64 (headP s).1, .bool (headP s).2]) ∧ w = w' := by
  obtain ⟨t, ht⟩ : ∃ t : ByteArray, t = ⟨(Lib.trimPrefix s.data.toList [112, 101, 114, 105, 111, 100, 115, 32]).toArray⟩ := ⟨_, rfl⟩
  obtain ⟨b, hb⟩ : ∃ b, b = Lib.hasPrefix s.data.toList [112, 101, 114, 105, 111, 100, 115, 32] := ⟨_, rfl⟩
  have htl : t.size ≤ maxLen := by
    have h1 := trim_len s.data.toList [112, 101, 114, 105, 111, 100, 115, 32]
    have e : s.data.toList.length = s.size := Array.length_toList
    rw [e] at h1
    have e2 : t.size = (Lib.trimPrefix s.data.toList [112, 101, 114, 105, 111, 100, 115, 32]).length := by rw [ht]; show (Lib.trimPrefix _ _).toArray.size = _; rw [List.size_toArray]
    unfold maxLen; omega
  have hcp (w : World) : Calls Tryz.prog 62 #[.string s, .string ⟨#[112, 101, 114, 105, 111, 100, 115, 32]⟩] w fun e w' => e = .returned (.tuple #[.string t, .bool b]) ∧ w = w' := by
    rw [ht, hb]; exact prefix_any s _ w
  have hh : headP s = if b then numP t else (0, false) := by unfold headP; rw [← hb, ← ht]
  have HCP := Lib.hid hcp
  have HH := Lib.hid hh
  clear hcp hh ht hb
  cases b with
  | false =>
    go_enter Tryz.func47, Tryz.ntmps47
    go_wp2_with (first | (go_at_call 62; refine (HCP.out _).mono ?_; rintro e w' ⟨rfl, rfl⟩))
    go_ret2
    exact ⟨ret_ib (by rw [HH.out]; rfl), rfl⟩
  | true =>
    go_enter Tryz.func47, Tryz.ntmps47
    go_wp2_with (first | (go_at_call 62; refine (HCP.out _).mono ?_; rintro e w' ⟨rfl, rfl⟩) | (go_at_call 63; refine (num_any t _ htl).mono ?_; rintro e w' ⟨rfl, rfl⟩))
    go_ret2
    exact ⟨ret_ib (by rw [HH.out]; rfl), rfl⟩

theorem ret_vb {v : Va} {b : Bool} {p : Va × Bool} (h : (v, b) = p) : Ending.returned (.tuple #[v.val, .bool b]) = .returned (.tuple #[p.1.val, .bool p.2]) := by
  rw [← h]

set_option maxHeartbeats 1600000 in
theorem value_any (s : ByteArray) (w : World) (hE : Env w) (hs : s.size ≤ 100000) :
    Calls Tryz.prog 67 #[.string s] w fun e w' => e = .returned (.tuple #[(valueP s).1.val, .bool (valueP s).2]) ∧ Below w.heap.size w w' := by
  obtain ⟨⟨c0, c1, c2⟩, hc⟩ : ∃ c, c = cutB s ⟨#[58]⟩ := ⟨_, rfl⟩
  obtain ⟨⟨d0, d1, d2⟩, hd⟩ : ∃ d, d = cutB c1 ⟨#[64]⟩ := ⟨_, rfl⟩
  have hcs := cutB_size s ⟨#[58]⟩
  rw [← hc] at hcs
  have hds := cutB_size c1 ⟨#[64]⟩
  rw [← hd] at hds
  dsimp only at hcs hds
  have hc0 := Lib.hid (le_max (Nat.le_trans hcs.1 hs))
  have hc1 := Lib.hid (Nat.le_trans hcs.2 hs)
  have hd0 := Lib.hid (le_max (Nat.le_trans hds.1 hc1.out))
  have hd1 := Lib.hid (Nat.le_trans hds.2 hc1.out)
  obtain ⟨⟨k, kb⟩, hk⟩ : ∃ k, k = kindP c0 := ⟨_, rfl⟩
  obtain ⟨nb, hn⟩ : ∃ n, n = nameP d0 := ⟨_, rfl⟩
  obtain ⟨⟨p0, p1, pb⟩, hp⟩ : ∃ p, p = pairP d1 ⟨#[45]⟩ := ⟨_, rfl⟩
  have HV := Lib.hid (show valueP s = if kb && nb && pb then (⟨k, d0, p0, p1⟩, true) else (zeroVa, false) by
    unfold valueP; rw [← hc]; dsimp only; rw [← hd]; dsimp only; rw [← hk, ← hn, ← hp])
  have A1 := Lib.hid (fun (w : World) (hE : Env w) => show Calls Tryz.prog 46 #[.string s, .string ⟨#[58]⟩] w fun e w' => e = .returned (.tuple #[.string c0, .string c1, .bool c2]) ∧ Below w.heap.size w w' by
    have := cut_any s ⟨#[58]⟩ w hE hs; rw [← hc] at this; exact this)
  have A2 := Lib.hid (fun (w : World) (hE : Env w) => show Calls Tryz.prog 46 #[.string c1, .string ⟨#[64]⟩] w fun e w' => e = .returned (.tuple #[.string d0, .string d1, .bool d2]) ∧ Below w.heap.size w w' by
    have := cut_any c1 ⟨#[64]⟩ w hE hc1.out; rw [← hd] at this; exact this)
  have A3 := Lib.hid (fun (w : World) (hE : Env w) => show Calls Tryz.prog 88 #[.string c0] w fun e w' => e = .returned (.tuple #[.int .i64 k, .bool kb]) ∧ w = w' by
    have := kindP_any c0 w hE; rw [← hk] at this; exact this)
  have A4 := Lib.hid (fun (w : World) => show Calls Tryz.prog 65 #[.string d0] w fun e w' => e = .returned (.bool nb) ∧ w = w' by
    have := name_any d0 w hd0.out; rw [← hn] at this; exact this)
  have A5 := Lib.hid (fun (w : World) (hE : Env w) => show Calls Tryz.prog 66 #[.string d1, .string ⟨#[45]⟩] w fun e w' => e = .returned (.tuple #[.int .i64 p0, .int .i64 p1, .bool pb]) ∧ Below w.heap.size w w' by
    have := pair_any d1 ⟨#[45]⟩ w hE hd1.out; rw [← hp] at this; exact this)
  clear hc hd hk hn hp hcs hds
  have hE0 := Lib.hid (hE.below (below_alloc w (.cells #[.int .i64 0, .string ⟨#[]⟩, .int .i64 0, .int .i64 0] 43)))
  have hB0 := Lib.hid (heap_alloc_new w (.cells #[.int .i64 0, .string ⟨#[]⟩, .int .i64 0, .int .i64 0] 43))
  have hb0 := Lib.hid (below_alloc w (.cells #[.int .i64 0, .string ⟨#[]⟩, .int .i64 0, .int .i64 0] 43))
  go_enter Tryz.func67, Tryz.ntmps67
  go_wp2_with fail
  refine (A1.out _ hE0.out).mono ?_; rintro e w1 ⟨rfl, hb1⟩
  have E1 := Lib.hid (hE0.out.below hb1)
  have b1 := Lib.hid (below_more hb0.out hb1)
  have B1 := Lib.hid (blk_below hb1 hB0.out)
  clear hb1
  go_wp2_with fail
  refine (A2.out _ E1.out).mono ?_; rintro e w2 ⟨rfl, hb2⟩
  have E2 := Lib.hid (E1.out.below hb2)
  have b2 := Lib.hid (below_more b1.out hb2)
  have B2 := Lib.hid (blk_below hb2 B1.out)
  clear hb2
  go_wp2_with fail
  refine (A3.out _ E2.out).mono ?_; rintro e w' ⟨rfl, rfl⟩
  have q0 := cell_of_blk B2.out 0
  have q1 := cell_of_blk B2.out 1
  have q2 := cell_of_blk B2.out 2
  have q3 := cell_of_blk B2.out 3
  simp at q0 q1 q2 q3
  have f0 := free_of_blk B2.out 0
  have f1 := free_of_blk B2.out 1
  have f2 := free_of_blk B2.out 2
  have f3 := free_of_blk B2.out 3
  cases kb with
  | false =>
    go_wp2_with fail
    refine bodyPost_ret (v := .tuple #[zeroVa.val, .bool false]) (by simp [results, Tryz.results67, go_sem, q0, q1, q2, q3, zeroVa, Va.val]) rfl ⟨ret_vb (by rw [HV.out]; rfl), ?_⟩
    exact (((b2.out.setCell (Nat.le_refl _) _).setCell (Nat.le_refl _) _).setCell (Nat.le_refl _) _).setCell (Nat.le_refl _) _
  | true =>
    cases nb with
    | false =>
      go_wp2_with fail
      refine (A4.out _).mono ?_; rintro e w' ⟨rfl, rfl⟩
      go_wp2_with fail
      refine bodyPost_ret (v := .tuple #[zeroVa.val, .bool false]) (by simp [results, Tryz.results67, go_sem, q0, q1, q2, q3, zeroVa, Va.val]) rfl ⟨ret_vb (by rw [HV.out]; rfl), ?_⟩
      exact (((b2.out.setCell (Nat.le_refl _) _).setCell (Nat.le_refl _) _).setCell (Nat.le_refl _) _).setCell (Nat.le_refl _) _
    | true =>
      clear q0 q1 q2 q3 f0 f1 f2 f3
      go_wp2_with fail
      refine (A4.out _).mono ?_; rintro e w' ⟨rfl, rfl⟩
      go_wp2_with fail
      refine (A5.out _ E2.out).mono ?_; rintro e w3 ⟨rfl, hb3⟩
      have b3 := Lib.hid (below_more b2.out hb3)
      have B3 := Lib.hid (blk_below hb3 B2.out)
      clear hb3
      have q0 := cell_of_blk B3.out 0
      have q1 := cell_of_blk B3.out 1
      have q2 := cell_of_blk B3.out 2
      have q3 := cell_of_blk B3.out 3
      simp at q0 q1 q2 q3
      have f0 := free_of_blk B3.out 0
      have f1 := free_of_blk B3.out 1
      have f2 := free_of_blk B3.out 2
      have f3 := free_of_blk B3.out 3
      cases pb with
      | false =>
        go_wp2_with fail
        refine bodyPost_ret (v := .tuple #[zeroVa.val, .bool false]) (by simp [results, Tryz.results67, go_sem, q0, q1, q2, q3, zeroVa, Va.val]) rfl ⟨ret_vb (by rw [HV.out]; rfl), ?_⟩
        exact (((b3.out.setCell (Nat.le_refl _) _).setCell (Nat.le_refl _) _).setCell (Nat.le_refl _) _).setCell (Nat.le_refl _) _
      | true =>
        go_wp2_with fail
        refine bodyPost_ret (v := .tuple #[Va.val ⟨k, d0, p0, p1⟩, .bool true]) (by simp [results, Tryz.results67, go_sem, q0, q1, q2, q3, Va.val]) rfl ⟨ret_vb (by rw [HV.out]; rfl), ?_⟩
        exact (((b3.out.setCell (Nat.le_refl _) _).setCell (Nat.le_refl _) _).setCell (Nat.le_refl _) _).setCell (Nat.le_refl _) _

end Go.Proofs.YtleihhkacmgofabGreatDoor

/- What holds in parseSign: fields, and the values that have been read. -/
namespace Go.Proofs.YtleihhkacmgofabGreatDoor
open Go.RowKit

theorem extract_size (s : ByteArray) (a b : Nat) : (s.extract a b).size ≤ s.size := by simp; omega
theorem splitB_size (sep : ByteArray) (save : Nat) : ∀ (k : Nat) (s x : ByteArray), x ∈ Lib.splitB sep save k s → x.size ≤ s.size := by
  intro k
  induction k with
  | zero => intro s x h; rw [Lib.splitB_zero] at h; simp at h; subst h; exact Nat.le_refl _
  | succ k ih =>
    intro s x h
    unfold Lib.splitB at h
    split at h
    · simp at h; subst h; exact Nat.le_refl _
    · rcases List.mem_cons.1 h with h | h
      · subst h; exact extract_size _ _ _
      · exact Nat.le_trans (ih _ _ h) (extract_size _ _ _)
theorem value_text (s : ByteArray) : (valueP s).1.text.size ≤ s.size := by
  unfold valueP
  dsimp only
  split
  · exact Nat.le_trans (cutB_size _ _).1 (cutB_size _ _).2
  · exact Nat.zero_le _

theorem restP_cons (e : ByteArray) (r : List ByteArray) : restP (e :: r) = if strEq e ⟨#[61]⟩ then (true, r) else (false, e :: r) := rfl
theorem restP_fst (e : ByteArray) (r : List ByteArray) : (restP (e :: r)).1 = strEq e ⟨#[61]⟩ := by rw [restP_cons]; split <;> simp_all
theorem restP_no (r : List ByteArray) (h : false = (restP r).1) : (restP r).2 = r := by
  cases r with
  | nil => rfl
  | cons e r' => rw [restP_cons] at h ⊢; split <;> simp_all
theorem restP_yes (e : ByteArray) (r : List ByteArray) (h : true = (restP (e :: r)).1) : (restP (e :: r)).2 = r := by
  rw [restP_cons] at h ⊢; split <;> simp_all
theorem restP_nil (h : true = (restP []).1) : False := by simp [restP] at h

/-- a slice of strings -/
def StrsAt (w : World) (A : Option Addr) (R : List ByteArray) : Prop := ∀ k s, R[k]? = some s → ∃ b o, A = some ⟨b, o, none⟩ ∧ b < w.heap.size ∧ w.cell? ⟨b, o + k, none⟩ = some (.string s)
theorem StrsAt.below {w w' : World} {A : Option Addr} {R : List ByteArray} (h : StrsAt w A R) (hb : Below w.heap.size w w') : StrsAt w' A R := fun k s hk => by
  obtain ⟨b, o, e, hlt, hc⟩ := h k s hk
  exact ⟨b, o, e, Nat.lt_of_lt_of_le hlt hb.size, (hb.cell (p := ⟨b, _, none⟩) hlt).trans hc⟩

/-- what holds at the head of a round of parseSign -/
structure SignRel (w wr : World) (code : ByteArray) (wide high : Int) (even : Bool) (A : Option Addr) (R : List ByteArray) (k : Nat) (v : Value) (done : List Va) : Prop where
  below : Below w.heap.size w wr
  b0 : wr.heap[w.heap.size]? = some (.cells #[.string code, .int .i64 wide, .int .i64 high, .bool even, v] 38 (0, 0))
  strs : StrsAt wr A R
  own : wr.ownsRow (w.heap.size + 1) 43 4 v k (done.flatMap Va.cells)
  len : done.length = k
  vals : valsP R = (valsP (R.drop k)).map (done ++ ·)
  apart : ∀ b o, A = some ⟨b, o, none⟩ → w.heap.size + 1 ≤ b ∧ v.ownBlock ≠ some b ∧ b < wr.heap.size
  text : ∀ d ∈ done, d.text.size ≤ maxLen

theorem SignRel.step {w wr w1 w3 : World} {code : ByteArray} {wide high : Int} {even : Bool} {A A2 : Option Addr} {R : List ByteArray} {k c2 : Nat} {v : Value} {done : List Va} {s : ByteArray} {box blk : Obj}
    (h : SignRel w wr code wide high even A R k v done) (hget : R[k]? = some s) (hs : s.size ≤ maxLen) (hok : (valueP s).2 = true)
    (hb1 : Below wr.heap.size wr w1)
    (own2 : w3.ownsRow (w.heap.size + 1) 43 4 (.slice A2 (k + 1) c2) (k + 1) (done.flatMap Va.cells ++ Va.cells (valueP s).1))
    (hg2 : ((w1.alloc box).alloc blk).grownBy w3 v.ownBlock)
    (hat : (Value.slice A2 (k + 1) c2).ownBlock = v.ownBlock ∨ (Value.slice A2 (k + 1) c2).ownBlock = some ((w1.alloc box).alloc blk).heap.size) :
    SignRel w (w3.setCell ⟨w.heap.size, 4, none⟩ (.slice A2 (k + 1) c2)) code wide high even A R (k + 1) (.slice A2 (k + 1) c2) (done ++ [(valueP s).1]) := by
  have hlt0 : w.heap.size < wr.heap.size := (Array.getElem?_eq_some_iff.1 h.b0).1
  have s1 : wr.heap.size ≤ w1.heap.size := hb1.size
  have s2 : w1.heap.size + 1 + 1 ≤ w3.heap.size := by have := hg2.size; simpa using this
  have s3 : (w3.setCell ⟨w.heap.size, 4, none⟩ (.slice A2 (k + 1) c2)).heap.size = w3.heap.size := by simp
  have hvb : ∀ g, v.ownBlock = some g → w.heap.size + 1 ≤ g ∧ g < wr.heap.size := fun g hg => h.own.lt g hg
  have keep : ∀ g, g < wr.heap.size → v.ownBlock ≠ some g → w3.heap[g]? = wr.heap[g]? := fun g h1 h3 => by
    rw [hg2.block g (by simp; omega) (fun e => h3 e.symm), heap_alloc_other _ _ _ (by simp; omega), heap_alloc_other _ _ _ (by omega), hb1.block g h1]
  refine ⟨?_, ?_, ?_, ?_, ?_, ?_, ?_, ?_⟩
  · have b1 := ((h.below.trans (hb1.mono (by omega))).alloc (by omega) box).alloc (by simp; omega) blk
    exact (b1.grown hg2 (by simp; omega) (fun g hg => by have := hvb g hg; omega)).setCell (by dsimp only; omega) _
  · have hb : w3.heap[w.heap.size]? = some (.cells #[.string code, .int .i64 wide, .int .i64 high, .bool even, v] 38 (0, 0)) := by
      rw [keep _ hlt0 (fun e => by have := hvb _ e; omega)]; exact h.b0
    rw [heap_setCell_same _ _ _ _ _ _ hb]; rfl
  · intro j x hj
    obtain ⟨b, o, e, hlt, hc⟩ := h.strs j x hj
    have ha := h.apart b o e
    refine ⟨b, o, e, by rw [s3]; omega, ?_⟩
    rw [← hc]
    exact World.cell?_of_block (a := ⟨b, o + j, none⟩) (by rw [heap_setCell_other _ _ _ _ (by dsimp only; omega)]; exact keep b hlt ha.2.1)
  · have := ownsRow_of_block (w' := w3.setCell ⟨w.heap.size, 4, none⟩ (.slice A2 (k + 1) c2)) own2 (fun g hg => heap_setCell_other _ _ _ _ (by
      have := (own2.lt g hg).1; dsimp only; omega))
    simpa using this
  · simp [h.len]
  · obtain ⟨hk, e⟩ := List.getElem?_eq_some_iff.1 hget
    rw [h.vals, List.drop_eq_getElem_cons hk, e, valsP, if_pos hok, Option.map_map]
    congr 1
    funext l
    simp
  · intro b o e
    have ha := h.apart b o e
    refine ⟨ha.1, ?_, by rw [s3]; omega⟩
    rcases hat with h1 | h1
    · rw [h1]; exact ha.2.1
    · rw [h1]; intro e'; injection e' with e'; simp at e'; omega
  · intro d hd
    rcases List.mem_append.1 hd with hd | hd
    · exact h.text d hd
    · simp at hd; subst hd; exact Nat.le_trans (value_text s) hs

theorem below_set5 {w W : World} (h : Below w.heap.size w W) (a b c d e : Value) : Below w.heap.size w (((((W.setCell ⟨w.heap.size, 0, none⟩ a).setCell ⟨w.heap.size, 1, none⟩ b).setCell ⟨w.heap.size, 2, none⟩ c).setCell ⟨w.heap.size, 3, none⟩ d).setCell ⟨w.heap.size, 4, none⟩ e) :=
  ((((h.setCell (p := ⟨w.heap.size, 0, none⟩) (Nat.le_refl _) _).setCell (p := ⟨w.heap.size, 1, none⟩) (Nat.le_refl _) _).setCell (p := ⟨w.heap.size, 2, none⟩) (Nat.le_refl _) _).setCell (p := ⟨w.heap.size, 3, none⟩) (Nat.le_refl _) _).setCell (p := ⟨w.heap.size, 4, none⟩) (Nat.le_refl _) _

/-- a sign that was made -/
def GotSign (w : World) (sp : Sg × Bool) (e : Ending) (w' : World) : Prop :=
  ∃ m : Sm, e = .returned (.tuple #[m.val, .bool sp.2]) ∧ m.s = sp.1 ∧ SmOk w' m ∧ (∀ b o, m.A = some ⟨b, o, none⟩ → w.heap.size ≤ b ∧ b < w'.heap.size) ∧ Below w.heap.size w w'

theorem smok_zero (w : World) : SmOk w ⟨zeroSg, none, 0⟩ := ⟨fun k v h => by simp [zeroSg] at h, Nat.le_refl _, Nat.zero_le _, Nat.zero_le _⟩

theorem SignRel.ok {w wr : World} {code : ByteArray} {wide high : Int} {even : Bool} {A A' : Option Addr} {R : List ByteArray} {k c' : Nat} {done : List Va}
    (h : SignRel w wr code wide high even A R k (.slice A' k c') done) (hc : code.size ≤ maxLen) : SmOk wr ⟨⟨code, wide, high, even, done⟩, A', c'⟩ ∧ (∀ b o, A' = some ⟨b, o, none⟩ → w.heap.size + 1 ≤ b ∧ b < wr.heap.size) := by
  obtain ⟨A1, c1, e1, h1, h2, hA, hAn⟩ := own_slice h.own
  injection e1 with e1 e2 e3
  subst e1 e3
  refine ⟨⟨fun j x hj => ?_, by dsimp only; rw [h.len]; exact h1, h2, hc⟩, fun b o e => ?_⟩
  · dsimp only at hj ⊢
    have hj' : j < done.length := (List.getElem?_eq_some_iff.1 hj).1
    cases hA' : A' with
    | none => have := hAn hA'; have := h.len; omega
    | some ad =>
      obtain ⟨g, rfl, hg0, hg1, hcell⟩ := hA ad hA'
      have ha : ∀ i, i < 4 → wr.cell? ⟨g, j * 4 + i, none⟩ = (Va.cells x)[i]? := fun i hi => by
        have hi' : i < (Va.cells x).length := hi
        rw [hcell (j * 4 + i) ((Va.cells x)[i]) (by rw [flat_at (c := 4) (fun _ => rfl) _ _ _ hj i hi]; exact List.getElem?_eq_getElem hi'), List.getElem?_eq_getElem hi']
      refine ⟨g, 0, rfl, hg1, ⟨?_, ?_, ?_, ?_, h.text x (List.mem_of_getElem? hj)⟩⟩
      · rw [Nat.zero_add]; exact ha 0 (by omega)
      · rw [Nat.zero_add]; exact ha 1 (by omega)
      · rw [Nat.zero_add]; exact ha 2 (by omega)
      · rw [Nat.zero_add]; exact ha 3 (by omega)
  · obtain ⟨g, eg, hg0, hg1, _⟩ := hA _ e
    injection eg with eg _
    omega
theorem smok_self {w w' : World} {m : Sm} (h : SmOk w m) (hs : w'.heap.size = w.heap.size) (g : Nat) (hb : ∀ b o, m.A = some ⟨b, o, none⟩ → b ≠ g) (hk : ∀ b, b ≠ g → w'.heap[b]? = w.heap[b]?) : SmOk w' m :=
  smok_of_blocks h (by omega) (fun b o e _ => hk b (hb b o e))
end Go.Proofs.YtleihhkacmgofabGreatDoor

/- Contract of parseSign. -/
namespace Go.Proofs.YtleihhkacmgofabGreatDoor
open Go.RowKit

theorem split_any (s : ByteArray) (w : World) (hE : Env w) (hs : s.size ≤ 100000) :
    Calls Tryz.prog 64 #[.string s, .string ⟨#[32]⟩] w fun e w' => e = .returned (.slice (some ⟨w.heap.size, 0, none⟩) (splitS s ⟨#[32]⟩).length (splitS s ⟨#[32]⟩).length) ∧
      (Below w.heap.size w w' ∧ w'.heap[w.heap.size]? = some (.cells ((splitS s ⟨#[32]⟩).map Value.string).toArray 9 (0, 0)) ∧ w'.heap.size = w.heap.size + 1) := by
  have hl : (splitS s ⟨#[32]⟩).length = Lib.countB s ⟨#[32]⟩ + 1 := Lib.splitB_all _ (by decide) _ _ _ rfl
  refine (Tryz.strings_Split_shaped s ⟨#[32]⟩ w hE.shaped (by omega) (by decide)).mono ?_
  rintro e w' ⟨rfl, rfl⟩
  exact ⟨by rw [hl], below_alloc _ _, heap_alloc_new _ _, by simp⟩
theorem str_cell {w : World} {g : Nat} {l : List ByteArray} {t : TypeId} (h : w.heap[g]? = some (.cells (l.map Value.string).toArray t (0, 0))) (k : Nat) (s : ByteArray) (hk : l[k]? = some s) : w.cell? ⟨g, k, none⟩ = some (.string s) := by
  rw [cell_of_blk h k]; simp [hk]
theorem ret_sb {m : Sm} {b : Bool} {p : Sg × Bool} {v : Value} (hv : v = m.val) (h : b = p.2) : Ending.returned (.tuple #[v, .bool b]) = .returned (.tuple #[m.val, .bool p.2]) := by
  rw [hv, h]

set_option maxHeartbeats 3200000 in
set_option maxRecDepth 100000 in
theorem sign_parse (s : ByteArray) (w : World) (hE : Env w) (hs : s.size ≤ 100000) : Calls Tryz.prog 48 #[.string s] w (GotSign w (signP s)) := by
  have hsz := Lib.hid (fun x (h : x ∈ splitS s ⟨#[32]⟩) => Nat.le_trans (splitB_size _ _ _ _ x h) hs)
  have HSP := Lib.hid (fun (w : World) (hE : Env w) => split_any s w hE hs)
  have hl : (splitS s ⟨#[32]⟩).length = Lib.countB s ⟨#[32]⟩ + 1 := Lib.splitB_all _ (by decide) _ _ _ rfl
  have hsp : signP s = signF (splitS s ⟨#[32]⟩) := rfl
  obtain ⟨F, hF⟩ : ∃ F, F = splitS s ⟨#[32]⟩ := ⟨_, rfl⟩
  rw [← hF] at hsz HSP hl hsp
  have hE0 := Lib.hid (hE.below (below_alloc w (.cells #[.string ⟨#[]⟩, .int .i64 0, .int .i64 0, .bool false, .slice none 0 0] 38)))
  have hB0 := Lib.hid (heap_alloc_new w (.cells #[.string ⟨#[]⟩, .int .i64 0, .int .i64 0, .bool false, .slice none 0 0] 38))
  have hb0 := Lib.hid (below_alloc w (.cells #[.string ⟨#[]⟩, .int .i64 0, .int .i64 0, .bool false, .slice none 0 0] 38))
  clear hF
  match F, hl, hsp, hsz, HSP with
  | [], hl, _, _, _ => simp at hl
  | [c], hl, hsp, hsz, HSP =>
    have HSP1 := Lib.hid (show signP s = (zeroSg, false) from hsp)
    clear hl hsp
    go_enter Tryz.func48, Tryz.ntmps48
    go_wp2_with fail
    refine (HSP.out _ hE0.out).mono ?_; rintro e w1 ⟨rfl, hbb⟩
    have hb1 := below_more hb0.out hbb.1
    have hB1 := blk_below hbb.1 hB0.out
    have q0 := cell_of_blk hB1 0
    have q1 := cell_of_blk hB1 1
    have q2 := cell_of_blk hB1 2
    have q3 := cell_of_blk hB1 3
    have q4 := cell_of_blk hB1 4
    simp at q0 q1 q2 q3 q4
    have f0 := free_of_blk hB1 0
    have f1 := free_of_blk hB1 1
    have f2 := free_of_blk hB1 2
    have f3 := free_of_blk hB1 3
    have f4 := free_of_blk hB1 4
    have hb1 := Lib.hid hb1
    clear hbb hB1
    go_wp2_with fail
    refine bodyPost_ret (v := .tuple #[Sm.val ⟨zeroSg, none, 0⟩, .bool false]) (by simp [results, Tryz.results48, go_sem, q0, q1, q2, q3, q4, zeroSg, Sm.val]) rfl ⟨⟨zeroSg, none, 0⟩, ret_sb rfl (by rw [HSP1.out]), by rw [HSP1.out], smok_zero _, fun _ _ h => (by cases h), ?_⟩
    exact ((((hb1.out.setCell (Nat.le_refl _) _).setCell (Nat.le_refl _) _).setCell (Nat.le_refl _) _).setCell (Nat.le_refl _) _).setCell (Nat.le_refl _) _
  | c :: z :: r, hl, hsp, hsz, HSP =>
    obtain ⟨⟨p0, p1, pb⟩, hp⟩ : ∃ p, p = pairP z ⟨#[120]⟩ := ⟨_, rfl⟩
    obtain ⟨nb, hnb⟩ : ∃ n, n = nameP c := ⟨_, rfl⟩
    have hcs := hsz.out c (by simp)
    have hzs := hsz.out z (by simp)
    have HSF := Lib.hid (show signP s = if nb && pb then (match valsP (restP r).2 with
      | some vs => (⟨c, p0, p1, (restP r).1, vs⟩, true)
      | none => (zeroSg, false)) else (zeroSg, false) by rw [hsp, signF, ← hnb, ← hp]; rfl)
    have A4 := Lib.hid (fun (w : World) => show Calls Tryz.prog 65 #[.string c] w fun e w' => e = .returned (.bool nb) ∧ w = w' by
      have := name_any c w (le_max hcs); rw [← hnb] at this; exact this)
    have A5 := Lib.hid (fun (w : World) (hE : Env w) => show Calls Tryz.prog 66 #[.string z, .string ⟨#[120]⟩] w fun e w' => e = .returned (.tuple #[.int .i64 p0, .int .i64 p1, .bool pb]) ∧ Below w.heap.size w w' by
      have := pair_any z ⟨#[120]⟩ w hE hzs; rw [← hp] at this; exact this)
    obtain ⟨N, hN⟩ : ∃ N, N = (c :: z :: r).length := ⟨_, rfl⟩
    have HN := Lib.hid (show N = r.length + 2 by rw [hN]; simp)
    rw [← hN] at HSP
    have HCS := Lib.hid (le_max hcs)
    have HNl := Lib.hid (show N ≤ 100001 by
      have h1 := Lib.countB_le ⟨#[32]⟩ (by decide) s.size s (Nat.le_refl _)
      rw [hN, hl]; omega)
    have hN2 : 2 ≤ N := by have := HN.out; omega
    clear hl hsp hp hnb hN hcs hzs
    go_enter Tryz.func48, Tryz.ntmps48
    go_wp2_with fail
    refine (HSP.out _ hE0.out).mono ?_; rintro e w1 ⟨rfl, hbb⟩
    have hb1 := Lib.hid (below_more hb0.out hbb.1)
    have hE1 := Lib.hid (hE0.out.below hbb.1)
    have hB1 := Lib.hid (blk_below hbb.1 hB0.out)
    have hG1 := Lib.hid (show w1.heap[w.heap.size + 1]? = some (.cells ((c :: z :: r).map Value.string).toArray 9 (0, 0)) by simpa using hbb.2.1)
    have hS1 := Lib.hid (show w1.heap.size = w.heap.size + 1 + 1 by simpa using hbb.2.2)
    clear hbb
    have q0 := cell_of_blk hB1.out 0
    have q1 := cell_of_blk hB1.out 1
    have q2 := cell_of_blk hB1.out 2
    have q3 := cell_of_blk hB1.out 3
    have q4 := cell_of_blk hB1.out 4
    simp at q0 q1 q2 q3 q4
    have f0 := free_of_blk hB1.out 0
    have f1 := free_of_blk hB1.out 1
    have f2 := free_of_blk hB1.out 2
    have f3 := free_of_blk hB1.out 3
    have f4 := free_of_blk hB1.out 4
    have y0 : w1.cell? ⟨w.heap.size + 1, 0, none⟩ = some (.string c) := str_cell hG1.out 0 c rfl
    have y1 : w1.cell? ⟨w.heap.size + 1, 1, none⟩ = some (.string z) := str_cell hG1.out 1 z rfl
    cases nb with
    | false =>
      go_wp2_with (first | (go_at_call 65; refine (A4.out _).mono ?_; rintro e w' ⟨rfl, rfl⟩))
      refine bodyPost_ret (v := .tuple #[Sm.val ⟨zeroSg, none, 0⟩, .bool false]) (by simp [results, Tryz.results48, go_sem, q0, q1, q2, q3, q4, zeroSg, Sm.val]) rfl ⟨⟨zeroSg, none, 0⟩, ret_sb rfl (by rw [HSF.out]; rfl), by rw [HSF.out]; rfl, smok_zero _, fun _ _ h => (by cases h), ?_⟩
      exact ((((hb1.out.setCell (Nat.le_refl _) _).setCell (Nat.le_refl _) _).setCell (Nat.le_refl _) _).setCell (Nat.le_refl _) _).setCell (Nat.le_refl _) _
    | true =>
    have hE2 := Lib.hid (show Env (w1.setCell ⟨w.heap.size, 0, none⟩ (.string c)) from hE.below (hb1.out.setCell (Nat.le_refl _) _))
    have hB2 := Lib.hid (heap_setCell_same w1 w.heap.size 0 (.string c) _ _ hB1.out)
    have hG2 := Lib.hid ((heap_setCell_other w1 ⟨w.heap.size, 0, none⟩ (.string c) (w.heap.size + 1) (by dsimp only; omega)).trans hG1.out)
    go_wp2_with fail
    refine (A4.out _).mono ?_; rintro e w' ⟨rfl, rfl⟩
    go_wp2_with fail
    refine (A5.out _ hE2.out).mono ?_; rintro e w2 ⟨rfl, hb2⟩
    have hb3 := Lib.hid (below_more (hb1.out.setCell (Nat.le_refl _) _) hb2)
    have hE3 := Lib.hid (hE.below hb3.out)
    have hB3 := Lib.hid (blk_below hb2 hB2.out)
    have hG3 := Lib.hid (blk_below hb2 hG2.out)
    have hS3 := Lib.hid (show w.heap.size + 1 + 1 ≤ w2.heap.size by have := hb2.size; have := hS1.out; simp at *; omega)
    clear q0 q1 q2 q3 q4 f0 f1 f2 f3 f4 y0 y1 hb2
    have q0 := cell_of_blk hB3.out 0
    have q1 := cell_of_blk hB3.out 1
    have q2 := cell_of_blk hB3.out 2
    have q3 := cell_of_blk hB3.out 3
    have q4 := cell_of_blk hB3.out 4
    simp at q0 q1 q2 q3 q4
    have f0 := free_of_blk hB3.out 0
    have f1 := free_of_blk hB3.out 1
    have f2 := free_of_blk hB3.out 2
    have f3 := free_of_blk hB3.out 3
    have f4 := free_of_blk hB3.out 4
    go_upto_region 6 with fail
    have hb4 := Lib.hid ((hb3.out.setCell (Nat.le_refl w.heap.size) (p := ⟨w.heap.size, 1, none⟩) (.int .i64 p0)).setCell (Nat.le_refl w.heap.size) (p := ⟨w.heap.size, 2, none⟩) (.int .i64 p1))
    have hB4 := Lib.hid (heap_setCell_same _ w.heap.size 2 (.int .i64 p1) _ _ (heap_setCell_same w2 w.heap.size 1 (.int .i64 p0) _ _ hB3.out))
    have hG4 := Lib.hid (((heap_setCell_other _ ⟨w.heap.size, 2, none⟩ (.int .i64 p1) (w.heap.size + 1) (by dsimp only; omega)).trans (heap_setCell_other w2 ⟨w.heap.size, 1, none⟩ (.int .i64 p0) (w.heap.size + 1) (by dsimp only; omega))).trans hG3.out)
    have hS4 := Lib.hid (show w.heap.size + 1 + 1 ≤ ((w2.setCell ⟨w.heap.size, 1, none⟩ (.int .i64 p0)).setCell ⟨w.heap.size, 2, none⟩ (.int .i64 p1)).heap.size by have := hS3.out; simp; omega)
    generalize hw3 : (w2.setCell ⟨w.heap.size, 1, none⟩ (.int .i64 p0)).setCell ⟨w.heap.size, 2, none⟩ (.int .i64 p1) = w3 at hb4 hB4 hG4 hS4 ⊢
    clear hw3 q0 q1 q2 q3 q4 f0 f1 f2 f3 f4 HSP A4 A5 hG1 hG2 hG3 hB1 hB2 hB3 hE0 hE1 hE2 hE3 hb0 hb1 hb3 hB0 hS1 hS3
    have hB4 := Lib.hid (show w3.heap[w.heap.size]? = some (.cells #[.string c, .int .i64 p0, .int .i64 p1, .bool false, .slice none 0 0] 38 (0, 0)) from hB4.out)
    have q0 := cell_of_blk hB4.out 0
    have q1 := cell_of_blk hB4.out 1
    have q2 := cell_of_blk hB4.out 2
    have q3 := cell_of_blk hB4.out 3
    have q4 := cell_of_blk hB4.out 4
    simp at q0 q1 q2 q3 q4
    have f0 := free_of_blk hB4.out 0
    have f1 := free_of_blk hB4.out 1
    have f2 := free_of_blk hB4.out 2
    have f3 := free_of_blk hB4.out 3
    have f4 := free_of_blk hB4.out 4
    cases pb with
    | false =>
      go_wp2_with fail
      refine bodyPost_ret (v := .tuple #[Sm.val ⟨zeroSg, none, 0⟩, .bool false]) (by simp [results, Tryz.results48, go_sem, q0, q1, q2, q3, q4, zeroSg, Sm.val]) rfl ⟨⟨zeroSg, none, 0⟩, ret_sb rfl (by rw [HSF.out]; rfl), by rw [HSF.out]; rfl, smok_zero _, fun _ _ h => (by cases h), ?_⟩
      exact ((((hb4.out.setCell (Nat.le_refl _) _).setCell (Nat.le_refl _) _).setCell (Nat.le_refl _) _).setCell (Nat.le_refl _) _).setCell (Nat.le_refl _) _
    | true =>
    have HSF2 := Lib.hid (show signP s = (match valsP (restP r).2 with
      | some vs => (⟨c, p0, p1, (restP r).1, vs⟩, true)
      | none => (zeroSg, false)) by rw [HSF.out]; rfl)
    have HY := Lib.hid (show ∀ k x, r[k]? = some x → w3.cell? ⟨w.heap.size + 1, k + 2, none⟩ = some (.string x) from fun k x hk => str_cell hG4.out _ x (by simpa using hk))
    clear HSF hG4
    go_upto_region 8 with fail
    obtain ⟨n, hn⟩ : ∃ n, n = r.length := ⟨_, rfl⟩
    have hNn : N = n + 2 := by rw [hn]; exact HN.out
    have HNn := Lib.hid hn
    have hst : ∀ A, (0 < n → A = some ⟨w.heap.size + 1, 2, none⟩) → StrsAt w3 A r := fun A hA k x hk => by
      have := (List.getElem?_eq_some_iff.1 hk).1
      refine ⟨w.heap.size + 1, 2, hA (by omega), by have := hS4.out; omega, ?_⟩
      rw [show 2 + k = k + 2 by omega]; exact HY.out k x hk
    have HST := Lib.hid hst
    clear hst hn HN hN2
    subst hNn
    go_cut [4] (fun f wx => ∃ A, f = .slice A n n ∧ wx = w3 ∧ Hid (StrsAt w3 A r) ∧ Hid (∀ b o, A = some ⟨b, o, none⟩ → b = w.heap.size + 1))
    case first =>
      by_cases hn0 : n = 0
      · subst hn0
        go_wp2_with fail
        go_meet
        exact ⟨_, rfl, rfl, Lib.hid (HST.out _ (fun h => by omega)), Lib.hid (fun b o e => by injection e with e; injection e with e _; exact e.symm)⟩
      · have hnn : ¬ n + 2 = 2 := by omega
        go_wp2_with fail
        go_meet
        exact ⟨_, rfl, rfl, Lib.hid (HST.out _ (fun h => rfl)), Lib.hid (fun b o e => by injection e with e; injection e with e _; exact e.symm)⟩
    case rest =>
    obtain ⟨A, rfl, rfl, hA, hAb⟩ := hcut
    obtain ⟨w3, rfl⟩ : ∃ w3, w3 = wc := ⟨_, rfl⟩
    obtain ⟨ev, hev⟩ : ∃ ev, ev = (restP r).1 := ⟨_, rfl⟩
    have HEV := Lib.hid hev
    clear hev
    go_upto_region 9 with fail
    go_cut [49] (fun f wx => f = .bool ev ∧ wx = w3)
    case first =>
      match r, HNn, hA, HEV with
      | [], HNn, hA, HEV =>
        obtain rfl : n = 0 := HNn.out
        obtain rfl : ev = false := HEV.out
        go_wp2_with fail
        go_meet
        exact ⟨rfl, rfl⟩
      | e :: r', HNn, hA, HEV =>
        obtain ⟨b, o, hAe, hlt, hc0⟩ := hA.out 0 e rfl
        subst hAe
        have hn0 : 0 < n := by have := HNn.out; simp at this; omega
        have HE2 := Lib.hid (show ev = strEq e ⟨#[61]⟩ by rw [HEV.out, restP_fst])
        simp only [Nat.add_zero] at hc0
        by_cases he : (e.toList == [61]) = true
        · obtain rfl : ev = true := by rw [HE2.out]; simpa [strEq, ByteArray.toList_eq] using he
          go_wp2_with fail
          go_meet
          exact ⟨rfl, rfl⟩
        · have he : (e.toList == [61]) = false := by simpa using he
          obtain rfl : ev = false := by rw [HE2.out]; simpa [strEq, ByteArray.toList_eq] using he
          go_wp2_with fail
          go_meet
          exact ⟨rfl, rfl⟩
    case rest =>
    obtain ⟨rfl, rfl⟩ := hcut
    obtain ⟨w3, rfl⟩ : ∃ w3, w3 = wc := ⟨_, rfl⟩
    go_upto_if 49 with fail
    go_cut [4] (fun f wx => ∃ A' n' c', f = .slice A' n' c' ∧ n' ≤ n ∧ Hid (n' = (restP r).2.length) ∧ Hid (StrsAt wx A' (restP r).2) ∧ Hid (∀ b o, A' = some ⟨b, o, none⟩ → b = w.heap.size + 1) ∧ Hid (Below w.heap.size w wx) ∧ Hid (wx.heap[w.heap.size]? = some (.cells #[.string c, .int .i64 p0, .int .i64 p1, .bool ev, .slice none 0 0] 38 (0, 0))) ∧ Hid (w.heap.size + 1 + 1 ≤ wx.heap.size))
    case first =>
      cases ev with
      | false =>
        have HR2 := Lib.hid (restP_no r HEV.out)
        go_wp2_with fail
        go_meet
        exact ⟨_, _, _, rfl, Nat.le_refl _, Lib.hid (by rw [HR2.out]; exact HNn.out), Lib.hid (by rw [HR2.out]; exact hA.out), hAb, hb4, hB4, hS4⟩
      | true =>
        match r, HNn, hA, HEV with
        | [], HNn, hA, HEV => exact (restP_nil HEV.out).elim
        | e :: r', HNn, hA, HEV =>
        have HR2 := Lib.hid (restP_yes e r' HEV.out)
        obtain ⟨b, o, hAe, hlt, hc0⟩ := hA.out 0 e rfl
        subst hAe
        obtain ⟨m, hm⟩ : ∃ m, m = r'.length := ⟨_, rfl⟩
        have hnm : n = m + 1 := by rw [hm]; exact HNn.out
        have HM := Lib.hid hm
        clear hm hc0 hlt
        subst hnm
        have hbw := Lib.hid (hAb.out b o rfl)
        have hb6 := Lib.hid (hb4.out.setCell (Nat.le_refl w.heap.size) (p := ⟨w.heap.size, 3, none⟩) (.bool true))
        have hB6 := Lib.hid (heap_setCell_same w3 w.heap.size 3 (.bool true) _ _ hB4.out)
        have hS6 := Lib.hid (show w.heap.size + 1 + 1 ≤ (w3.setCell ⟨w.heap.size, 3, none⟩ (.bool true)).heap.size by have := hS4.out; simp; omega)
        have hA6 : ∀ A', (0 < m → A' = some ⟨b, o + 1, none⟩) → StrsAt (w3.setCell ⟨w.heap.size, 3, none⟩ (.bool true)) A' r' := fun A' hA' k x hk => by
          have hkm : 0 < m := by rw [HM.out]; exact Nat.lt_of_le_of_lt (Nat.zero_le _) (List.getElem?_eq_some_iff.1 hk).1
          obtain ⟨b2, o2, e2, hlt2, hc2⟩ := hA.out (k + 1) x hk
          injection e2 with e2; injection e2 with e2 e3; subst e2 e3
          refine ⟨b, o + 1, hA' hkm, by simp; exact hlt2, ?_⟩
          rw [World.cell?_setCell_other _ _ _ _ (by intro e; injection e with e; have := hbw.out; omega), show o + 1 + k = o + (k + 1) by omega]
          exact hc2
        have HA6 := Lib.hid hA6
        clear hA6 hA
        by_cases hm0 : m = 0
        · subst hm0
          go_wp2_with fail
          go_meet
          exact ⟨_, _, _, rfl, by omega, Lib.hid (by rw [HR2.out]; exact HM.out), Lib.hid (by rw [HR2.out]; exact HA6.out _ (fun h => by omega)), Lib.hid (fun b' o' e' => by injection e' with e'; injection e' with e' _; rw [← e']; exact hbw.out), hb6, hB6, hS6⟩
        · have hmm : ¬ m + 1 = 1 := by omega
          go_wp2_with fail
          go_meet
          exact ⟨_, _, _, rfl, by omega, Lib.hid (by rw [HR2.out]; exact HM.out), Lib.hid (by rw [HR2.out]; exact HA6.out _ (fun h => rfl)), Lib.hid (fun b' o' e' => by injection e' with e'; injection e' with e' _; rw [← e']; exact hbw.out), hb6, hB6, hS6⟩
    case rest =>
    obtain ⟨A', n', c', rfl, hnn', hn', hA', hAb', hb5, hB5, hS5⟩ := hcut
    obtain ⟨w5, rfl⟩ : ∃ w5, w5 = wc := ⟨_, rfl⟩
    obtain ⟨R, hR⟩ : ∃ R, R = (restP r).2 := ⟨_, rfl⟩
    have HSF3 := Lib.hid (show signP s = (match valsP R with
      | some vs => (⟨c, p0, p1, ev, vs⟩, true)
      | none => (zeroSg, false)) by rw [HSF2.out, hR, HEV.out])
    have HRs := Lib.hid (show ∀ x ∈ R, x.size ≤ 100000 from fun x hx => hsz.out x (by
      rw [hR] at hx
      cases r with
      | nil => simp [restP] at hx
      | cons e r' =>
        rw [restP_cons] at hx
        split at hx
        · exact List.mem_cons_of_mem _ (List.mem_cons_of_mem _ (List.mem_cons_of_mem _ hx))
        · exact List.mem_cons_of_mem _ (List.mem_cons_of_mem _ hx)))
    rw [← hR] at hn' hA'
    clear hR HSF2 HEV HST hsz hA hAb hb4 hB4 hS4 HY q0 q1 q2 q3 q4 f0 f1 f2 f3 f4
    have hn0 : n' ≤ 100001 := by have := HNl.out; omega
    clear HNl
    obtain ⟨iv, hiv, hzv, hsv, hbv⟩ := info_hid infoVa
    go_wp2_with fail
    go_loopw [55] (fun i wr => ∃ k : Nat, k ≤ n' ∧ i = .int .i64 k ∧ Hid (∃ v done, SignRel w wr c p0 p1 ev A' R k v done)) (fun i _ => n' - (intOf i).toNat)
    case atStart =>
      refine ⟨0, Nat.zero_le _, rfl, Lib.hid ⟨.slice none 0 0, [], ⟨hb5.out, hB5.out, hA'.out, World.ownsRow_nil _ _ _ _, rfl, by simp, fun b o e => ?_, by simp⟩⟩⟩
      have := hAb'.out b o e
      exact ⟨by omega, by simp [Value.ownBlock], by have := hS5.out; omega⟩
    case round =>
      obtain ⟨k, hk, rfl, hrl⟩ := hrel
      obtain ⟨v, done, hr⟩ := hrl.out
      have HR := Lib.hid hr
      clear hr hrl
      have hlt0 : w.heap.size < wr.heap.size := (Array.getElem?_eq_some_iff.1 HR.out.b0).1
      by_cases hlt : k < n'
      · have hget : R[k]? = some (R[k]'(by have := hn'.out; omega)) := List.getElem?_eq_getElem _
        obtain ⟨x, hx⟩ : ∃ x, x = R[k]'(by have := hn'.out; omega) := ⟨_, rfl⟩
        rw [← hx] at hget
        obtain ⟨b, o, hAe, hlb, hc0⟩ := HR.out.strs k x hget
        subst hAe
        have hxs := Lib.hid (HRs.out x (List.mem_of_getElem? hget))
        have GET := Lib.hid hget
        clear hx hget
        have hEr := Lib.hid (hE.below HR.out.below)
        obtain ⟨⟨⟨uk, ut, uf, uto⟩, ub⟩, hu⟩ : ∃ u, u = valueP x := ⟨_, rfl⟩
        have HU := Lib.hid hu.symm
        have AV := Lib.hid (fun (w : World) (hE : Env w) => show Calls Tryz.prog 67 #[.string x] w fun e w' => e = .returned (.tuple #[.agg #[.int .i64 uk, .string ut, .int .i64 uf, .int .i64 uto], .bool ub]) ∧ Below w.heap.size w w' by
          have := value_any x w hE hxs.out; rw [← hu] at this; exact this)
        clear hu
        go_wp2_with fail
        refine (AV.out _ hEr.out).mono ?_; rintro e w1 ⟨rfl, hb1⟩
        have hs1 : wr.heap.size ≤ w1.heap.size := hb1.size
        have hB1 := blk_below hb1 HR.out.b0
        have q0 := cell_of_blk hB1 0
        have q1 := cell_of_blk hB1 1
        have q2 := cell_of_blk hB1 2
        have q3 := cell_of_blk hB1 3
        have q4 := cell_of_blk hB1 4
        simp at q0 q1 q2 q3 q4
        have f0 := free_of_blk hB1 0
        have f1 := free_of_blk hB1 1
        have f2 := free_of_blk hB1 2
        have f3 := free_of_blk hB1 3
        have f4 := free_of_blk hB1 4
        have hlt1 : w.heap.size < w1.heap.size := by omega
        have hne1 : w.heap.size ≠ w1.heap.size := by omega
        have HB1 := Lib.hid hb1
        have HBB1 := Lib.hid hB1
        clear hb1 hB1 hc0 AV
        cases ub with
        | false =>
          have HF := Lib.hid (show signP s = (zeroSg, false) by
            obtain ⟨hk', e⟩ := List.getElem?_eq_some_iff.1 GET.out
            rw [HSF3.out, HR.out.vals, List.drop_eq_getElem_cons hk', e, valsP, HU.out]; rfl)
          have hbw1 := Lib.hid (HR.out.below.trans (HB1.out.mono (Nat.le_of_lt hlt0)))
          have hbx := Lib.hid ((HR.out.below.trans (HB1.out.mono (Nat.le_of_lt hlt0))).alloc (Nat.le_of_lt hlt1) (.cells #[.int .i64 uk, .string ut, .int .i64 uf, .int .i64 uto] 43))
          go_wp2_with fail
          refine bodyPost_ret (v := .tuple #[Sm.val ⟨zeroSg, none, 0⟩, .bool false]) (by simp [results, Tryz.results48, go_sem, q0, q1, q2, q3, q4, zeroSg, Sm.val, hlt1]) rfl ⟨⟨zeroSg, none, 0⟩, ret_sb rfl (by rw [HF.out]), by rw [HF.out], smok_zero _, fun _ _ h => (by cases h), ?_⟩
          first | exact below_set5 hbw1.out _ _ _ _ _ | exact below_set5 hbx.out _ _ _ _ _ | exact Below.alloc (below_set5 hbw1.out _ _ _ _ _) (by simp; omega) _
        | true =>
          have HOK := Lib.hid (show (valueP x).2 = true by rw [HU.out])
          have HUC := Lib.hid (show (valueP x).1 = ⟨uk, ut, uf, uto⟩ by rw [HU.out])
          go_wp2_with (first
            | (at_builtin; refine wpList_append_src _ rfl (.tmp 68) (.tmp 70) 34 rfl (w.heap.size + 1) 43 iv (.agg #[.int .i64 0, .string ⟨#[]⟩, .int .i64 0, .int .i64 0]) 4 40 Tryz.underlying34 hiv.out hzv.out hsv.out hbv.out rfl (by decide) v k (done.flatMap Va.cells) rfl ?own2 (some ⟨w1.heap.size + 1, 0, none⟩) 1 1 (Va.cells ⟨uk, ut, uf, uto⟩) rfl ?l2 ?n2 ?c2 ?o2 ?m2 ?b2 ?s2 (k + 1) rfl ?_))
          case own2 => exact ((ownsRow_of_block HR.out.own (fun g hg => HB1.out.block g (HR.out.own.lt g hg).2)).alloc _).alloc _
          case l2 => rfl
          case n2 => intro h; cases h
          case o2 => intro u hu; simp [Va.cells] at hu; rcases hu with rfl | rfl | rfl | rfl <;> rfl
          case c2 =>
            intro ad had j u' hj
            injection had with had
            subst had
            have := new_cells (w1.alloc (.cells #[.int .i64 uk, .string ut, .int .i64 uf, .int .i64 uto] 43)) (Va.cells ⟨uk, ut, uf, uto⟩) 43 j u' hj
            simpa [Va.cells] using this
          case m2 => unfold maxLen; omega
          case b2 => omega
          case s2 => simp; omega
          · intro A2 c2 w3 own2 hg2 hat
            have k3 : w3.heap[w.heap.size]? = some (.cells #[.string c, .int .i64 p0, .int .i64 p1, .bool ev, v] 38 (0, 0)) := by
              rw [hg2.block _ (by simp; omega) (fun e => by have := (HR.out.own.lt _ e.symm).1; omega), heap_alloc_other _ _ _ (by simp; omega), heap_alloc_other _ _ _ (by omega)]; exact HBB1.out
            have p4 := cell_of_blk k3 4
            have pf := free_of_blk k3 4
            simp at p4
            have STEP := Lib.hid (SignRel.step HR.out GET.out (le_max hxs.out) HOK.out HB1.out (by rw [HUC.out]; exact own2) hg2 (by simpa using hat))
            clear own2 hg2 hat k3 q0 q1 q2 q3 q4 f0 f1 f2 f3 f4
            go_wp2
            go_roundw
            case rel => exact ⟨k + 1, by omega, by go_num, Lib.hid ⟨_, _, STEP.out⟩⟩
            case measure => simp [intOf]; omega
      · obtain rfl : k = n' := by omega
        have HB1 := Lib.hid HR.out.b0
        have q0 := cell_of_blk HB1.out 0
        have q1 := cell_of_blk HB1.out 1
        have q2 := cell_of_blk HB1.out 2
        have q3 := cell_of_blk HB1.out 3
        have q4 := cell_of_blk HB1.out 4
        simp at q0 q1 q2 q3 q4
        have f0 := free_of_blk HB1.out 0
        have f1 := free_of_blk HB1.out 1
        have f2 := free_of_blk HB1.out 2
        have f3 := free_of_blk HB1.out 3
        have f4 := free_of_blk HB1.out 4
        obtain ⟨Av, cv, hv, -, -, -, -⟩ := own_slice HR.out.own
        subst hv
        have HF := Lib.hid (show signP s = (⟨c, p0, p1, ev, done⟩, true) by
          have h1 := HR.out.vals
          rw [hn'.out, List.drop_length] at h1
          rw [HSF3.out, h1]; simp [valsP])
        have HOKS := Lib.hid (SignRel.ok HR.out HCS.out)
        have HLEN := Lib.hid HR.out.len
        go_wp2_with fail
        refine bodyPost_ret (v := .tuple #[Sm.val ⟨⟨c, p0, p1, ev, done⟩, Av, cv⟩, .bool true]) (by simp [results, Tryz.results48, go_sem, q0, q1, q2, q3, q4, Sm.val, HLEN.out]) rfl ⟨⟨⟨c, p0, p1, ev, done⟩, Av, cv⟩, ret_sb rfl (by rw [HF.out]), by rw [HF.out], ?_, fun b o e => ⟨Nat.le_of_succ_le (HOKS.out.2 b o e).1, by simp; exact (HOKS.out.2 b o e).2⟩, ?_⟩
        · exact smok_of_blocks HOKS.out.1 (by simp) (fun b o e _ => by
            have := (HOKS.out.2 b o e).1
            rw [heap_setCell_other _ _ _ _ (by dsimp only; omega), heap_setCell_other _ _ _ _ (by dsimp only; omega), heap_setCell_other _ _ _ _ (by dsimp only; omega), heap_setCell_other _ _ _ _ (by dsimp only; omega), heap_setCell_other _ _ _ _ (by dsimp only; omega)])
        · exact ((((HR.out.below.setCell (Nat.le_refl _) _).setCell (Nat.le_refl _) _).setCell (Nat.le_refl _) _).setCell (Nat.le_refl _) _).setCell (Nat.le_refl _) _
end Go.Proofs.YtleihhkacmgofabGreatDoor

/- What holds in parseLines: the signs that have been read. -/
namespace Go.Proofs.YtleihhkacmgofabGreatDoor
open Go.RowKit

/-- what holds at the head of a round of parseLines -/
structure LinesRel (w wr : World) (per : Int) (k : Nat) (v : Value) (cs : List Sm) : Prop where
  below : Below w.heap.size w wr
  b0 : wr.heap[w.heap.size]? = some (.cells #[.int .i64 per, v] 24 (0, 0))
  own : wr.ownsRow (w.heap.size + 1) 38 5 v k (cs.flatMap Sm.cells)
  len : cs.length = k
  ok : ∀ m ∈ cs, SmOk wr m
  apart : ∀ m ∈ cs, ∀ b o, m.A = some ⟨b, o, none⟩ → w.heap.size + 1 ≤ b ∧ v.ownBlock ≠ some b ∧ b < wr.heap.size

theorem LinesRel.step {w wr w1 w3 : World} {per : Int} {k c2 : Nat} {v : Value} {cs : List Sm} {u : Sm} {box blk : Obj} {A2 : Option Addr}
    (h : LinesRel w wr per k v cs) (hb1 : Below wr.heap.size wr w1) (hu : SmOk w1 u) (hua : ∀ b o, u.A = some ⟨b, o, none⟩ → wr.heap.size ≤ b ∧ b < w1.heap.size)
    (own2 : w3.ownsRow (w.heap.size + 1) 38 5 (.slice A2 (k + 1) c2) (k + 1) (cs.flatMap Sm.cells ++ Sm.cells u))
    (hg2 : ((w1.alloc box).alloc blk).grownBy w3 v.ownBlock)
    (hat : (Value.slice A2 (k + 1) c2).ownBlock = v.ownBlock ∨ (Value.slice A2 (k + 1) c2).ownBlock = some ((w1.alloc box).alloc blk).heap.size) :
    LinesRel w (w3.setCell ⟨w.heap.size, 1, none⟩ (.slice A2 (k + 1) c2)) per (k + 1) (.slice A2 (k + 1) c2) (cs ++ [u]) := by
  have hlt0 : w.heap.size < wr.heap.size := (Array.getElem?_eq_some_iff.1 h.b0).1
  have s1 : wr.heap.size ≤ w1.heap.size := hb1.size
  have s2 : w1.heap.size + 1 + 1 ≤ w3.heap.size := by have := hg2.size; simpa using this
  have s3 : (w3.setCell ⟨w.heap.size, 1, none⟩ (.slice A2 (k + 1) c2)).heap.size = w3.heap.size := by simp
  have hvb : ∀ g, v.ownBlock = some g → w.heap.size + 1 ≤ g ∧ g < wr.heap.size := fun g hg => h.own.lt g hg
  have keep1 : ∀ g, g < w1.heap.size → v.ownBlock ≠ some g → w3.heap[g]? = w1.heap[g]? := fun g h1 h3 => by
    rw [hg2.block g (by simp; omega) (fun e => h3 e.symm), heap_alloc_other _ _ _ (by simp; omega), heap_alloc_other _ _ _ (by omega)]
  have keep : ∀ g, g < wr.heap.size → v.ownBlock ≠ some g → w3.heap[g]? = wr.heap[g]? := fun g h1 h3 => by
    rw [keep1 g (by omega) h3, hb1.block g h1]
  have set_ : ∀ g, g ≠ w.heap.size → (w3.setCell ⟨w.heap.size, 1, none⟩ (.slice A2 (k + 1) c2)).heap[g]? = w3.heap[g]? := fun g hg => heap_setCell_other _ _ _ _ hg
  refine ⟨?_, ?_, ?_, ?_, ?_, ?_⟩
  · have b1 := ((h.below.trans (hb1.mono (by omega))).alloc (by omega) box).alloc (by simp; omega) blk
    exact (b1.grown hg2 (by simp; omega) (fun g hg => by have := hvb g hg; omega)).setCell (by dsimp only; omega) _
  · have hb : w3.heap[w.heap.size]? = some (.cells #[.int .i64 per, v] 24 (0, 0)) := by
      rw [keep _ hlt0 (fun e => by have := hvb _ e; omega)]; exact h.b0
    rw [heap_setCell_same _ _ _ _ _ _ hb]; rfl
  · have := ownsRow_of_block (w' := w3.setCell ⟨w.heap.size, 1, none⟩ (.slice A2 (k + 1) c2)) own2 (fun g hg => set_ g (by
      have := (own2.lt g hg).1; omega))
    simpa using this
  · simp [h.len]
  · intro m hm
    rcases List.mem_append.1 hm with hm | hm
    · exact smok_of_blocks (h.ok m hm) (by rw [s3]; omega) (fun b o e hb => by
        have := h.apart m hm b o e
        rw [set_ b (by omega)]; exact keep b hb this.2.1)
    · simp at hm; subst hm
      exact smok_of_blocks hu (by rw [s3]; omega) (fun b o e hb => by
        have := hua b o e
        rw [set_ b (by omega)]; exact keep1 b hb (fun e => by have := hvb b e; omega))
  · intro m hm b o e
    rcases List.mem_append.1 hm with hm | hm
    · have ha := h.apart m hm b o e
      refine ⟨ha.1, ?_, by rw [s3]; omega⟩
      rcases hat with h1 | h1
      · rw [h1]; exact ha.2.1
      · rw [h1]; intro e'; injection e' with e'; simp at e'; omega
    · simp at hm; subst hm
      have ha := hua b o e
      refine ⟨by omega, ?_, by rw [s3]; omega⟩
      rcases hat with h1 | h1
      · rw [h1]; intro e'; have := hvb b e'; omega
      · rw [h1]; intro e'; injection e' with e'; simp at e'; omega

theorem LinesRel.done {w wr w' : World} {per : Int} {k c' : Nat} {A' : Option Addr} {cs : List Sm} (h : LinesRel w wr per k (.slice A' k c') cs) (hs : w'.heap.size = wr.heap.size) (hk : ∀ g, g ≠ w.heap.size → w'.heap[g]? = wr.heap[g]?) :
    LmOk w' ⟨per, cs, A', c'⟩ := by
  obtain ⟨A1, c1, e1, hc1, hc1m, hA1, hA1n⟩ := own_slice h.own
  injection e1 with e1 e2 e3
  subst e1 e3
  refine ⟨fun k m hk' => ?_, by dsimp only; rw [h.len]; exact hc1, hc1m⟩
  dsimp only at hk' ⊢
  have hlt : k < cs.length := (List.getElem?_eq_some_iff.1 hk').1
  cases hA : A' with
  | none => have := hA1n hA; have := h.len; omega
  | some ad =>
    obtain ⟨g, rfl, hg0, hg1, hcell⟩ := hA1 ad hA
    have hc : ∀ p, w'.cell? ⟨g, p, none⟩ = wr.cell? ⟨g, p, none⟩ := fun p => World.cell?_of_block (a := ⟨g, p, none⟩) (hk g (by omega))
    have hm := List.mem_of_getElem? hk'
    exact ⟨g, 0, rfl, by omega, sm_cells_at (fun j u hj => (hc j).trans (hcell j u hj)) hk', smok_of_blocks (h.ok m hm) (by omega) (fun b o e _ => hk b (by have := (h.apart m hm b o e).1; omega))⟩

end Go.Proofs.YtleihhkacmgofabGreatDoor

/- Contracts of parseLines and of Parse. -/
namespace Go.Proofs.YtleihhkacmgofabGreatDoor
open Go.RowKit

def strLen : Value → Nat
  | .string s => s.size
  | _ => 0
/-- all memory of a list lies in blocks from B on -/
def Fresh (B : Nat) (L : Lm) : Prop := (∀ b o, L.A = some ⟨b, o, none⟩ → B ≤ b) ∧ ∀ m ∈ L.ms, ∀ b o, m.A = some ⟨b, o, none⟩ → B ≤ b
/-- a list that was read, and a number -/
def GotLines (w : World) (r : Li × Int) (e : Ending) (w' : World) : Prop :=
  ∃ L : Lm, e = .returned (.tuple #[L.val, .int .i64 r.2]) ∧ LmOk w' L ∧ L.li = r.1 ∧ Below w.heap.size w w' ∧ Fresh w.heap.size L
def zeroLm : Lm := ⟨0, [], none, 0⟩
theorem fresh_zero (B : Nat) : Fresh B zeroLm := ⟨fun b o h => by simp [zeroLm] at h, fun m h => by simp [zeroLm] at h⟩
theorem LinesRel.fresh {w wr : World} {per : Int} {k c' : Nat} {A' : Option Addr} {cs : List Sm} (h : LinesRel w wr per k (.slice A' k c') cs) : Fresh w.heap.size ⟨per, cs, A', c'⟩ := by
  obtain ⟨A1, c1, e1, -, -, hA1, -⟩ := own_slice h.own
  injection e1 with e1 e2 e3
  subst e1 e3
  refine ⟨fun b o e => ?_, fun m hm b o e => ?_⟩
  · obtain ⟨g, eg, hg, _⟩ := hA1 _ e
    injection eg with eg _
    omega
  · have := (h.apart m hm b o e).1; omega
theorem lmok_zero (w : World) : LmOk w zeroLm := ⟨fun k m h => by simp [zeroLm] at h, Nat.le_refl _, Nat.zero_le _⟩
theorem ret_li {L : Lm} {n : Int} {p : Li × Int} {v : Value} (hv : v = L.val) (h : n = p.2) : Ending.returned (.tuple #[v, .int .i64 n]) = .returned (.tuple #[L.val, .int .i64 p.2]) := by
  rw [hv, h]
theorem below_set2 {w W : World} (h : Below w.heap.size w W) (a b : Value) : Below w.heap.size w ((W.setCell ⟨w.heap.size, 0, none⟩ a).setCell ⟨w.heap.size, 1, none⟩ b) :=
  (h.setCell (p := ⟨w.heap.size, 0, none⟩) (Nat.le_refl _) _).setCell (p := ⟨w.heap.size, 1, none⟩) (Nat.le_refl _) _
theorem below_set1 {w W : World} (h : Below w.heap.size w W) (j : Nat) (a : Value) : Below w.heap.size w (W.setCell ⟨w.heap.size, j, none⟩ a) :=
  h.setCell (p := ⟨w.heap.size, j, none⟩) (Nat.le_refl _) _
def goOn (cs : List Sg) : List Sg ⊕ Int → List Sg ⊕ Int
  | .inl ss => .inl (cs ++ ss)
  | .inr b => .inr b
theorem linesP_step (f : Nat) (t : ByteArray) (n : Int) (h0 : (bytes t).isEmpty = false) (h : ((cutB t ⟨#[10]⟩).2.2 && (signP (cutB t ⟨#[10]⟩).1).2) = true) (cs : List Sg) :
    goOn cs (linesP (f + 1) t n) = goOn (cs ++ [(signP (cutB t ⟨#[10]⟩).1).1]) (linesP f (cutB t ⟨#[10]⟩).2.1 (n + 1)) := by
  rw [linesP, if_neg (by rw [h0]; simp)]
  dsimp only
  rw [if_pos h]
  cases linesP f (cutB t ⟨#[10]⟩).2.1 (n + 1) <;> simp [goOn]
theorem linesP_bad (f : Nat) (t : ByteArray) (n : Int) (h0 : (bytes t).isEmpty = false) (h : ((cutB t ⟨#[10]⟩).2.2 && (signP (cutB t ⟨#[10]⟩).1).2) = false) (cs : List Sg) : goOn cs (linesP (f + 1) t n) = .inr n := by
  rw [linesP, if_neg (by rw [h0]; simp)]
  dsimp only
  rw [if_neg (by rw [h]; simp)]
  rfl
theorem linesP_end (f : Nat) (t : ByteArray) (n : Int) (h0 : (bytes t).isEmpty = true) (cs : List Sg) : goOn cs (linesP f t n) = .inl cs := by
  cases f with
  | zero => simp [linesP, goOn]
  | succ f => rw [linesP, if_pos h0]; simp [goOn]
theorem sum_inj (x : List Sg ⊕ Int) : goOn [] x = x := by cases x <;> simp [goOn]

set_option maxHeartbeats 3200000 in
set_option maxRecDepth 100000 in
theorem lines_any (t : ByteArray) (w : World) (hE : Env w) (hs : t.size ≤ 100000) : Calls Tryz.prog 31 #[.string t] w (GotLines w (allP t)) := by
  obtain ⟨⟨c0, c1, c2⟩, hc⟩ : ∃ c, c = cutB t ⟨#[10]⟩ := ⟨_, rfl⟩
  have hcs := cutB_size t ⟨#[10]⟩
  rw [← hc] at hcs
  dsimp only at hcs
  have hc0 := Lib.hid (Nat.le_trans hcs.1 hs)
  have hc1 := Lib.hid (Nat.le_trans hcs.2 hs)
  have hc1t := Lib.hid hcs.2
  obtain ⟨⟨per, pb⟩, hp⟩ : ∃ p, p = headP c0 := ⟨_, rfl⟩
  have HA := Lib.hid (show allP t = if c2 && pb then (match linesP (t.size + 1) c1 2 with
    | .inl ss => (⟨per, ss⟩, 0)
    | .inr b => (⟨0, []⟩, b)) else (⟨0, []⟩, 1) by unfold allP; rw [← hc]; dsimp only; rw [← hp]; rfl)
  have A1 := Lib.hid (fun (w : World) (hE : Env w) => show Calls Tryz.prog 46 #[.string t, .string ⟨#[10]⟩] w fun e w' => e = .returned (.tuple #[.string c0, .string c1, .bool c2]) ∧ Below w.heap.size w w' by
    have := cut_any t ⟨#[10]⟩ w hE hs; rw [← hc] at this; exact this)
  have A2 := Lib.hid (fun (w : World) => show Calls Tryz.prog 47 #[.string c0] w fun e w' => e = .returned (.tuple #[.int .i64 per, .bool pb]) ∧ w = w' by
    have := head_any c0 w hc0.out; rw [← hp] at this; exact this)
  have hE0 := Lib.hid (hE.below (below_alloc w (.cells #[.int .i64 0, .slice none 0 0] 24)))
  have hB0 := Lib.hid (heap_alloc_new w (.cells #[.int .i64 0, .slice none 0 0] 24))
  have hb0 := Lib.hid (below_alloc w (.cells #[.int .i64 0, .slice none 0 0] 24))
  clear hc hp hcs
  go_enter Tryz.func31, Tryz.ntmps31
  go_wp2_with fail
  refine (A1.out _ hE0.out).mono ?_; rintro e w1 ⟨rfl, hb1⟩
  have b1 := Lib.hid (below_more hb0.out hb1)
  have B1 := Lib.hid (blk_below hb1 hB0.out)
  clear hb1
  go_wp2_with fail
  refine (A2.out _).mono ?_; rintro e w' ⟨rfl, rfl⟩
  have q0 := cell_of_blk B1.out 0
  have q1 := cell_of_blk B1.out 1
  simp at q0 q1
  have f0 := free_of_blk B1.out 0
  have f1 := free_of_blk B1.out 1
  have bad : (c2 && pb) = false → Hid (allP t = (⟨0, []⟩, 1)) := fun h => Lib.hid (by rw [HA.out, if_neg (by rw [h]; simp)])
  have BAD := Lib.hid bad
  clear bad
  cases c2 with
  | false =>
    have HF := BAD.out rfl
    go_wp2_with fail
    refine bodyPost_ret (v := .tuple #[Lm.val zeroLm, .int .i64 1]) (by simp [results, Tryz.results31, go_sem, q0, q1, zeroLm, Lm.val]) rfl ⟨zeroLm, ret_li rfl (by rw [HF.out]), lmok_zero _, by rw [HF.out]; rfl, ?_⟩
    exact ⟨below_set2 b1.out _ _, fresh_zero _⟩
  | true =>
  cases pb with
  | false =>
    have HF := BAD.out rfl
    go_wp2_with fail
    refine bodyPost_ret (v := .tuple #[Lm.val zeroLm, .int .i64 1]) (by simp [results, Tryz.results31, go_sem, q0, q1, zeroLm, Lm.val]) rfl ⟨zeroLm, ret_li rfl (by rw [HF.out]), lmok_zero _, by rw [HF.out]; rfl, ?_⟩
    exact ⟨below_set2 b1.out _ _, fresh_zero _⟩
  | true =>
  clear BAD
  have HA2 := Lib.hid (show allP t = (match linesP (t.size + 1) c1 2 with
    | .inl ss => (⟨per, ss⟩, 0)
    | .inr b => (⟨0, []⟩, b)) by rw [HA.out]; rfl)
  have HR0 := Lib.hid (show LinesRel w (w1.setCell ⟨w.heap.size, 0, none⟩ (.int .i64 per)) per 0 (.slice none 0 0) [] from
    ⟨below_set1 b1.out 0 _, by rw [heap_setCell_same _ _ _ _ _ _ B1.out]; rfl, World.ownsRow_nil _ _ _ _, rfl, by simp, by simp⟩)
  obtain ⟨is, his, hzs, hss, hbs⟩ := info_hid infoSg
  go_wp2_with fail
  clear q0 q1 f0 f1
  go_loopw [5, 9] (fun x i wr => ∃ (k f : Nat) (tx : ByteArray), x = .string tx ∧ i = .int .i64 (2 + k) ∧ k + f ≤ 100001 ∧ tx.size < f ∧ Hid (∃ v cs, LinesRel w wr per k v cs ∧ linesP (t.size + 1) c1 2 = goOn (cs.map (·.s)) (linesP f tx (2 + k)))) (fun x _ _ => strLen x)
  case atStart =>
    exact ⟨0, t.size + 1, c1, rfl, rfl, by omega, by have := hc1t.out; omega, Lib.hid ⟨_, _, HR0.out, by simp [sum_inj]⟩⟩
  case round =>
    obtain ⟨k, f, tx, rfl, rfl, hkf, hf, hrl⟩ := hrel
    obtain ⟨v, cs, hr, hlp⟩ := hrl.out
    have HR := Lib.hid hr
    have HLP := Lib.hid hlp
    clear hr hlp hrl
    have hlt0 : w.heap.size < wr.heap.size := (Array.getElem?_eq_some_iff.1 HR.out.b0).1
    by_cases hz : tx.size = 0
    · have he0 : tx.toList = [] := by rw [ByteArray.toList_eq]; exact List.eq_nil_of_length_eq_zero (by rw [Array.length_toList]; exact hz)
      have he1 : tx.toList.isEmpty = true := by rw [he0]; rfl
      have HF := Lib.hid (show allP t = (⟨per, cs.map (·.s)⟩, 0) by rw [HA2.out, HLP.out, linesP_end _ _ _ (by unfold bytes; rw [← ByteArray.toList_eq]; exact he1)])
      have HB1 := Lib.hid HR.out.b0
      have q0 := cell_of_blk HB1.out 0
      have q1 := cell_of_blk HB1.out 1
      simp at q0 q1
      have f0 := free_of_blk HB1.out 0
      have f1 := free_of_blk HB1.out 1
      obtain ⟨Av, cv, hv, -, -, -, -⟩ := own_slice HR.out.own
      subst hv
      have HLEN := Lib.hid HR.out.len
      go_wp2_with fail
      refine bodyPost_ret (v := .tuple #[Lm.val ⟨per, cs, Av, cv⟩, .int .i64 0]) (by simp [results, Tryz.results31, go_sem, q0, q1, Lm.val, HLEN.out]) rfl ⟨⟨per, cs, Av, cv⟩, ret_li rfl (by rw [HF.out]), LinesRel.done HR.out (by simp) (fun g hg => by rw [heap_setCell_other _ _ _ _ hg, heap_setCell_other _ _ _ _ hg]), by rw [HF.out]; rfl, below_set2 HR.out.below _ _, LinesRel.fresh HR.out⟩
    · have he1 : tx.toList.isEmpty = false := by
        rw [ByteArray.toList_eq, List.isEmpty_eq_false_iff]; intro e
        have := congrArg List.length e; rw [Array.length_toList] at this; exact hz this
      obtain ⟨g, rfl⟩ : ∃ g, f = g + 1 := ⟨f - 1, by omega⟩
      have HE1 := Lib.hid (show (bytes tx).isEmpty = false by unfold bytes; rw [← ByteArray.toList_eq]; exact he1)
      have htx : tx.size ≤ 100000 := by omega
      obtain ⟨⟨d0, d1, d2⟩, hd⟩ : ∃ d, d = cutB tx ⟨#[10]⟩ := ⟨_, rfl⟩
      have hds := cutB_size tx ⟨#[10]⟩
      have hdl := cutB_less tx ⟨#[10]⟩ (by simp)
      rw [← hd] at hds hdl
      dsimp only at hds hdl
      have hd0 := Lib.hid (Nat.le_trans hds.1 htx)
      obtain ⟨⟨sg, sb⟩, hsg⟩ : ∃ p, p = signP d0 := ⟨_, rfl⟩
      have HD := Lib.hid hd.symm
      have HSG := Lib.hid hsg.symm
      have HDL := Lib.hid hdl
      have D1 := Lib.hid (fun (w : World) (hE : Env w) => show Calls Tryz.prog 46 #[.string tx, .string ⟨#[10]⟩] w fun e w' => e = .returned (.tuple #[.string d0, .string d1, .bool d2]) ∧ Below w.heap.size w w' by
        have := cut_any tx ⟨#[10]⟩ w hE htx; rw [← hd] at this; exact this)
      have D2 := Lib.hid (fun (w : World) (hE : Env w) => show Calls Tryz.prog 48 #[.string d0] w (GotSign w (sg, sb)) by
        have := sign_parse d0 w hE hd0.out; rw [← hsg] at this; exact this)
      have hEr := Lib.hid (hE.below HR.out.below)
      clear hd hds hdl hsg
      go_wp2_with fail
      refine (D1.out _ hEr.out).mono ?_; rintro e w2 ⟨rfl, hb2⟩
      have E2 := Lib.hid (hEr.out.below hb2)
      have HB2 := Lib.hid hb2
      clear hb2
      go_wp2_with fail
      refine (D2.out _ E2.out).mono ?_; rintro e w3 ⟨⟨⟨mc, mw, mh, me, mv⟩, mA, mcap⟩, rfl, hms, hmok, hmA, hb3⟩
      have HB3 := Lib.hid (below_more HB2.out hb3)
      have HM3 := Lib.hid hb3
      have HMS := Lib.hid hms
      have HMOK := Lib.hid hmok
      have HMA := Lib.hid hmA
      clear hb3 hms hmok hmA
      have hs3 : wr.heap.size ≤ w3.heap.size := HB3.out.size
      have hB3 := blk_below HB3.out HR.out.b0
      have q0 := cell_of_blk hB3 0
      have q1 := cell_of_blk hB3 1
      simp at q0 q1
      have f0 := free_of_blk hB3 0
      have f1 := free_of_blk hB3 1
      have hlt3 : w.heap.size < w3.heap.size := by omega
      have hne3 : w.heap.size ≠ w3.heap.size := by omega
      have HBB3 := Lib.hid hB3
      clear hB3
      unfold Sm.val
      dsimp only
      have hbx := Lib.hid (HR.out.below.trans (HB3.out.mono (Nat.le_of_lt hlt0)))
      have bad : (d2 && sb) = false → Hid (allP t = (⟨0, []⟩, 2 + (k : Int))) := fun h => Lib.hid (by
        rw [HA2.out, HLP.out, linesP_bad _ _ _ HE1.out (by rw [HD.out]; dsimp only; rw [HSG.out]; exact h)])
      have BAD := Lib.hid bad
      clear bad
      cases d2 with
      | false =>
        have HF := BAD.out rfl
        go_wp2_with fail
        refine bodyPost_ret (v := .tuple #[Lm.val zeroLm, .int .i64 (2 + k)]) (by simp [results, Tryz.results31, go_sem, q0, q1, zeroLm, Lm.val, hlt3]) rfl ⟨zeroLm, ret_li rfl (by rw [HF.out]), lmok_zero _, by rw [HF.out]; rfl, ?_⟩
        exact ⟨Below.alloc (below_set2 hbx.out _ _) (by simp; omega) _, fresh_zero _⟩
      | true =>
      cases sb with
      | false =>
        have HF := BAD.out rfl
        go_wp2_with fail
        refine bodyPost_ret (v := .tuple #[Lm.val zeroLm, .int .i64 (2 + k)]) (by simp [results, Tryz.results31, go_sem, q0, q1, zeroLm, Lm.val, hlt3]) rfl ⟨zeroLm, ret_li rfl (by rw [HF.out]), lmok_zero _, by rw [HF.out]; rfl, ?_⟩
        exact ⟨Below.alloc (below_set2 hbx.out _ _) (by simp; omega) _, fresh_zero _⟩
      | true =>
      clear BAD
      have hd1 := HDL.out rfl (by omega)
      go_wp2_with (first
        | (at_builtin; refine wpList_append_src _ rfl (.tmp 59) (.tmp 61) 22 rfl (w.heap.size + 1) 38 is (.agg #[.string ⟨#[]⟩, .int .i64 0, .int .i64 0, .bool false, .slice none 0 0]) 5 64 Tryz.underlying22 his.out hzs.out hss.out hbs.out rfl (by decide) v k (cs.flatMap Sm.cells) rfl ?own2 (some ⟨w3.heap.size + 1, 0, none⟩) 1 1 (Sm.cells ⟨⟨mc, mw, mh, me, mv⟩, mA, mcap⟩) rfl ?l2 ?n2 ?c2 sm_one ?m2 ?b2 ?s2 (k + 1) rfl ?_))
      case own2 => exact (((ownsRow_of_block HR.out.own (fun g hg => HB3.out.block g (HR.out.own.lt g hg).2)).alloc _).alloc _)
      case l2 => rfl
      case c2 =>
        first
          | (intro j u' hj; exact hj)
          | (intro ad had j u' hj
             injection had with had
             subst had
             have := new_cells (w3.alloc (.cells #[.string mc, .int .i64 mw, .int .i64 mh, .bool me, .slice mA mv.length mcap] 38)) (Sm.cells ⟨⟨mc, mw, mh, me, mv⟩, mA, mcap⟩) 38 j u' hj
             simpa [Sm.cells] using this)
      case m2 => unfold maxLen; omega
      case b2 => omega
      case s2 => first | omega | (simp; omega)
      · intro A2 c2 w4 own2 hg2 hat
        have k3 : w4.heap[w.heap.size]? = some (.cells #[.int .i64 per, v] 24 (0, 0)) := by
          rw [hg2.block _ (by simp; omega) (fun e => by have := (HR.out.own.lt _ e.symm).1; omega), heap_alloc_other _ _ _ (by simp; omega), heap_alloc_other _ _ _ (by omega)]; exact HBB3.out
        have p1 := cell_of_blk k3 1
        have pf := free_of_blk k3 1
        simp at p1
        have STEP := Lib.hid (LinesRel.step HR.out HB3.out HMOK.out (fun b o e => ⟨Nat.le_trans HB2.out.size (HMA.out b o e).1, (HMA.out b o e).2⟩) own2 hg2 (by simpa using hat))
        have HNX := Lib.hid (linesP_step g tx (2 + (k : Int)) HE1.out (by rw [HD.out]; dsimp only; rw [HSG.out]; rfl) (cs.map (·.s)))
        have HNY := Lib.hid (show (signP (cutB tx ⟨#[10]⟩).1).1 = (⟨mc, mw, mh, me, mv⟩ : Sg) by rw [HD.out]; dsimp only; rw [HSG.out]; exact HMS.out.symm)
        clear own2 hg2 hat k3 q0 q1 f0 f1
        go_wp2
        go_roundw
        case rel => exact ⟨k + 1, g, d1, rfl, by go_num, by omega, by omega, Lib.hid ⟨_, _, STEP.out, by rw [HLP.out, HNX.out, HNY.out, HD.out, show (2 : Int) + (k : Int) + 1 = 2 + ((k + 1 : Nat) : Int) by omega, List.map_append]; rfl⟩⟩
        case measure => simp [strLen]; omega

end Go.Proofs.YtleihhkacmgofabGreatDoor

/- Contract of Parse. -/
namespace Go.Proofs.YtleihhkacmgofabGreatDoor
open Go.RowKit

theorem ret_p {L : Lm} {a b : Int} {p : Li × Int × Int} {v : Value} (hv : v = L.val) (h1 : a = p.2.1) (h2 : b = p.2.2) : Ending.returned (.tuple #[v, .int .i64 a, .int .i64 b]) = .returned (.tuple #[L.val, .int .i64 p.2.1, .int .i64 p.2.2]) := by
  rw [hv, h1, h2]
/-- a list that was parsed, the line, the error -/
def GotParse (w : World) (r : Li × Int × Int) (e : Ending) (w' : World) : Prop :=
  ∃ L : Lm, e = .returned (.tuple #[L.val, .int .i64 r.2.1, .int .i64 r.2.2]) ∧ LmOk w' L ∧ L.li = r.1 ∧ Below w.heap.size w w'
theorem lmok_set {w w' : World} {L : Lm} {B g : Nat} (h : LmOk w L) (hf : Fresh B L) (hg : g < B) (hs : w'.heap.size = w.heap.size) (hk : ∀ b, b ≠ g → w'.heap[b]? = w.heap[b]?) : LmOk w' L := by
  refine ⟨fun k m hk' => ?_, h.len, h.cap⟩
  obtain ⟨b, o, e, hlt, hat, hok⟩ := h.signs k m hk'
  have hbg : b ≠ g := by have := hf.1 b o e; omega
  have hc : ∀ p, w'.cell? ⟨b, p, none⟩ = w.cell? ⟨b, p, none⟩ := fun p => World.cell?_of_block (a := ⟨b, p, none⟩) (hk b hbg)
  exact ⟨b, o, e, by omega, ⟨(hc _).trans hat.c0, (hc _).trans hat.c1, (hc _).trans hat.c2, (hc _).trans hat.c3, (hc _).trans hat.c4⟩, smok_of_blocks hok (by omega) (fun b o e _ => hk b (by have := hf.2 m (List.mem_of_getElem? hk') b o e; omega))⟩
theorem check_is' (l : Lm) (w : World) (hl : LmOk w l) (i : Int) (h : checkErr l.li = i) : Calls Tryz.prog 21 #[l.val] w fun e w' => e = .returned (.int .i64 i) ∧ Below w.heap.size w w' := by
  rw [← h]; exact check_any l w hl

set_option maxHeartbeats 1600000 in
theorem parse_any (t : ByteArray) (w : World) (hE : Env w) (hs : t.size ≤ 100000) : Calls Tryz.prog 19 #[.string t] w (GotParse w (parseP t)) := by
  have hE0 := Lib.hid (hE.below (below_alloc w (.cells #[.int .i64 0, .slice none 0 0] 24)))
  have hB0 := Lib.hid (heap_alloc_new w (.cells #[.int .i64 0, .slice none 0 0] 24))
  have hb0 := Lib.hid (below_alloc w (.cells #[.int .i64 0, .slice none 0 0] 24))
  by_cases h1 : t.size ≤ 65536
  case neg =>
    have HF := Lib.hid (show parseP t = (⟨0, []⟩, 0, 2) by unfold parseP; rw [if_pos (by omega)])
    go_enter Tryz.func19, Tryz.ntmps19
    go_wp2_with fail
    refine bodyPost_ret (v := .tuple #[Lm.val zeroLm, .int .i64 0, .int .i64 2]) (by simp [results, Tryz.results19, go_sem, zeroLm, Lm.val]) rfl ⟨zeroLm, ret_p rfl (by rw [HF.out]) (by rw [HF.out]), lmok_zero _, by rw [HF.out]; rfl, ?_⟩
    exact hb0.out
  obtain ⟨⟨li, ln⟩, hp⟩ : ∃ p, p = allP t := ⟨_, rfl⟩
  have HP := Lib.hid (show parseP t = if 0 < ln then (⟨0, []⟩, ln, 4) else if checkErr li ≠ 0 then (⟨0, []⟩, 0, checkErr li) else (li, 0, 0) by
    unfold parseP; rw [if_neg (by omega), ← hp])
  have HL := Lib.hid (fun (w : World) (hE : Env w) => show Calls Tryz.prog 31 #[.string t] w (GotLines w (li, ln)) by rw [hp]; exact lines_any t w hE hs)
  clear hp
  go_enter Tryz.func19, Tryz.ntmps19
  go_wp2_with fail
  refine (HL.out _ hE0.out).mono ?_; rintro e w1 ⟨⟨per, ms, A, cap⟩, rfl, hok, hli, hb, hfr⟩
  have hli : (⟨per, ms, A, cap⟩ : Lm).li = li := hli
  unfold Lm.val
  dsimp only
  have B1 := Lib.hid (blk_below hb hB0.out)
  have b1 := Lib.hid (below_more hb0.out hb)
  have HOK := Lib.hid hok
  have HLI := Lib.hid hli
  have HFR := Lib.hid (show Fresh (w.heap.size + 1) ⟨per, ms, A, cap⟩ by simpa using hfr)
  have q0 := cell_of_blk B1.out 0
  have q1 := cell_of_blk B1.out 1
  simp at q0 q1
  have f0 := free_of_blk B1.out 0
  have f1 := free_of_blk B1.out 1
  clear hok hli hb hfr hB0 hb0 HL
  go_upto_region 4 with fail
  have B2 := Lib.hid (heap_setCell_same _ w.heap.size 1 (.slice A ms.length cap) _ _ (heap_setCell_same w1 w.heap.size 0 (.int .i64 per) _ _ B1.out))
  have b2 := Lib.hid (below_set2 b1.out (.int .i64 per) (.slice A ms.length cap))
  have HOK2 := Lib.hid (lmok_set (w' := (w1.setCell ⟨w.heap.size, 0, none⟩ (.int .i64 per)).setCell ⟨w.heap.size, 1, none⟩ (.slice A ms.length cap)) HOK.out HFR.out (Nat.lt_succ_self _) (by simp) (fun b hb => by
    rw [heap_setCell_other _ _ _ _ hb, heap_setCell_other _ _ _ _ hb]))
  generalize hw2 : (w1.setCell ⟨w.heap.size, 0, none⟩ (.int .i64 per)).setCell ⟨w.heap.size, 1, none⟩ (.slice A ms.length cap) = w2 at B2 b2 HOK2 ⊢
  clear hw2 q0 q1 f0 f1 B1 b1 HOK
  have B2 := Lib.hid (show w2.heap[w.heap.size]? = some (.cells #[.int .i64 per, .slice A ms.length cap] 24 (0, 0)) from B2.out)
  have q0 := cell_of_blk B2.out 0
  have q1 := cell_of_blk B2.out 1
  simp at q0 q1
  have f0 := free_of_blk B2.out 0
  have f1 := free_of_blk B2.out 1
  by_cases hln : 0 < ln
  · have HF := Lib.hid (show parseP t = (⟨0, []⟩, ln, 4) by rw [HP.out, if_pos hln])
    go_wp2_with fail
    refine bodyPost_ret (v := .tuple #[Lm.val zeroLm, .int .i64 ln, .int .i64 4]) (by simp [results, Tryz.results19, go_sem, q0, q1, zeroLm, Lm.val]) rfl ⟨zeroLm, ret_p rfl (by rw [HF.out]) (by rw [HF.out]), lmok_zero _, by rw [HF.out]; rfl, below_set2 b2.out _ _⟩
  have HP2 := Lib.hid (show parseP t = if checkErr li ≠ 0 then (⟨0, []⟩, 0, checkErr li) else (li, 0, 0) by rw [HP.out, if_neg hln])
  obtain ⟨E, hE'⟩ : ∃ E, E = checkErr li := ⟨_, rfl⟩
  have HCK := Lib.hid (show checkErr (⟨per, ms, A, cap⟩ : Lm).li = E by rw [HLI.out]; exact hE'.symm)
  by_cases h0 : E = 0
  · subst h0
    have HF := Lib.hid (show parseP t = (li, 0, 0) by rw [HP2.out, ← hE']; rfl)
    clear hE'
    go_wp2_with fail
    refine (check_is' ⟨per, ms, A, cap⟩ _ HOK2.out 0 HCK.out).mono ?_; rintro e w3 ⟨rfl, hb3⟩
    have B3 := Lib.hid (blk_below hb3 B2.out)
    have b3 := Lib.hid (below_more b2.out hb3)
    have HOK3 := Lib.hid (HOK2.out.below hb3)
    clear q0 q1 f0 f1 hb3
    have q0 := cell_of_blk B3.out 0
    have q1 := cell_of_blk B3.out 1
    simp at q0 q1
    have f0 := free_of_blk B3.out 0
    have f1 := free_of_blk B3.out 1
    go_wp2_with fail
    refine bodyPost_ret (v := .tuple #[Lm.val ⟨per, ms, A, cap⟩, .int .i64 0, .int .i64 0]) (by simp [results, Tryz.results19, go_sem, q0, q1, Lm.val]) rfl ⟨⟨per, ms, A, cap⟩, ret_p rfl (by rw [HF.out]) (by rw [HF.out]), ?_, by rw [HF.out]; exact HLI.out, below_set2 b3.out _ _⟩
    exact lmok_set HOK3.out HFR.out (Nat.lt_succ_self _) (by simp) (fun b hb => by
      rw [heap_setCell_other _ _ _ _ hb, heap_setCell_other _ _ _ _ hb])
  · have HF := Lib.hid (show parseP t = (⟨0, []⟩, 0, E) by rw [HP2.out, ← hE', if_pos h0])
    have hbE : (E != 0) = true := by simpa using h0
    clear hE' h0
    go_wp2_with fail
    refine (check_is' ⟨per, ms, A, cap⟩ _ HOK2.out E HCK.out).mono ?_; rintro e w3 ⟨rfl, hb3⟩
    have B3 := Lib.hid (blk_below hb3 B2.out)
    have b3 := Lib.hid (below_more b2.out hb3)
    clear q0 q1 f0 f1 hb3
    have q0 := cell_of_blk B3.out 0
    have q1 := cell_of_blk B3.out 1
    simp at q0 q1
    have f0 := free_of_blk B3.out 0
    have f1 := free_of_blk B3.out 1
    go_wp2_with fail
    refine bodyPost_ret (v := .tuple #[Lm.val zeroLm, .int .i64 0, .int .i64 E]) (by simp [results, Tryz.results19, go_sem, q0, q1, zeroLm, Lm.val]) rfl ⟨zeroLm, ret_p rfl (by rw [HF.out]) (by rw [HF.out]), lmok_zero _, by rw [HF.out]; rfl, below_set2 b3.out _ _⟩

end Go.Proofs.YtleihhkacmgofabGreatDoor

/- Contracts of hasSign, checkSignInPeriod and Name. -/
namespace Go.Proofs.YtleihhkacmgofabGreatDoor
open Go.RowKit

theorem check_is (l : Lm) (w : World) (hl : LmOk w l) (i : Int) (h : checkErr l.li = i) : Calls Tryz.prog 21 #[l.val] w fun e w' => e = .returned (.int .i64 i) ∧ Below w.heap.size w w' := by
  rw [← h]; exact check_any l w hl

def hasB (n : Nat) (i : Int) : Bool := decide (0 ≤ i) && decide (i < n)
theorem has_any (l : Lm) (i : Int) (w : World) (hl : LmOk w l) : Calls Tryz.prog 49 #[l.val, .int .i64 i] w fun e w' => e = .returned (.bool (hasB l.ms.length i)) ∧ Below w.heap.size w w' := by
  obtain ⟨per, ms, A, cap⟩ := l
  have hlen := hl.len
  have hcap := hl.cap
  unfold maxLen at hcap
  unfold Lm.val
  dsimp only at hlen hcap ⊢
  generalize ms.length = n at hlen ⊢
  by_cases h1 : 0 ≤ i
  · have hf := Lib.hid (show hasB n i = decide (i < n) by simp [hasB, h1])
    go_enter Tryz.func49, Tryz.ntmps49
    go_wp2
    go_ret
    exact ⟨of_bool hf.out.symm, below_alloc _ _⟩
  · have hf := Lib.hid (show hasB n i = false by simp [hasB]; omega)
    go_enter Tryz.func49, Tryz.ntmps49
    go_wp2
    go_ret
    exact ⟨of_bool hf.out.symm, below_alloc _ _⟩
theorem has_is (l : Lm) (i : Int) (w : World) (hl : LmOk w l) (r : Bool) (h : hasB l.ms.length i = r) : Calls Tryz.prog 49 #[l.val, .int .i64 i] w fun e w' => e = .returned (.bool r) ∧ Below w.heap.size w w' := by
  rw [← h]; exact has_any l i w hl

/-- the first error of a list, a sign's number and a period -/
def sipErr (l : Li) (i p : Int) : Int := if checkErr l ≠ 0 then checkErr l else if hasB l.signs.length i = false then 1 else if withinB p l.per = false then 13 else 0

set_option maxHeartbeats 800000 in
theorem sip_any (l : Lm) (i p : Int) (w : World) (hl : LmOk w l) : Calls Tryz.prog 32 #[l.val, .int .i64 i, .int .i64 p] w fun e w' => e = .returned (.int .i64 (sipErr l.li i p)) ∧ Below w.heap.size w w' := by
  obtain ⟨L, hL⟩ : ∃ L, L = l := ⟨_, rfl⟩
  have hll : l.li.signs.length = l.ms.length := l.length_signs
  have hper : l.li.per = l.per := rfl
  have H0 := Lib.hid (show LmOk (w.alloc (.cells #[.int .i64 l.per, .slice l.A l.ms.length l.cap] 24)) l from hl.below (below_alloc _ _))
  have HS := Lib.hid (show sipErr l.li i p = if checkErr l.li ≠ 0 then checkErr l.li else if hasB l.ms.length i = false then 1 else if withinB p l.per = false then 13 else 0 by unfold sipErr; rw [hll, hper])
  have c0 : (w.alloc (.cells #[.int .i64 l.per, .slice l.A l.ms.length l.cap] 24)).heap[w.heap.size]? = some (.cells #[.int .i64 l.per, .slice l.A l.ms.length l.cap] 24 (0, 0)) := heap_alloc_new _ _
  have C0 := Lib.hid c0
  clear hL hll hper c0
  show Calls _ _ #[.agg #[.int .i64 l.per, .slice l.A l.ms.length l.cap], .int .i64 i, .int .i64 p] w _
  obtain ⟨E, hE⟩ : ∃ E, E = checkErr l.li := ⟨_, rfl⟩
  have HE := Lib.hid hE.symm
  by_cases h0 : E = 0
  case neg =>
    have hb : (E != 0) = true := by simpa using h0
    have HF := Lib.hid (show sipErr l.li i p = E by rw [HS.out, HE.out, if_pos h0])
    clear hE h0
    go_enter Tryz.func32, Tryz.ntmps32
    go_wp2_with fail
    refine (check_is l _ H0.out E HE.out).mono ?_; rintro e w1 ⟨rfl, hb1⟩
    go_wp2
    go_ret
    exact ⟨of_int HF.out.symm, below_of hb1⟩
  subst h0
  clear hE
  cases h1 : hasB l.ms.length i with
  | false =>
    have HF := Lib.hid (show sipErr l.li i p = 1 by rw [HS.out, HE.out, if_neg (by simp), if_pos h1])
    have H1 := Lib.hid h1
    clear h1
    go_enter Tryz.func32, Tryz.ntmps32
    go_wp2_with fail
    refine (check_is l _ H0.out 0 HE.out).mono ?_; rintro e w1 ⟨rfl, hb1⟩
    have x0 := cell_of_blk (blk_keep hb1 C0.out) 0
    have x1 := cell_of_blk (blk_keep hb1 C0.out) 1
    simp at x0 x1
    have b1 := Lib.hid (below_of hb1)
    have H2 := Lib.hid (H0.out.below hb1)
    clear hb1
    go_wp2_with fail
    refine (has_is l i _ H2.out false H1.out).mono ?_; rintro e w2 ⟨rfl, hb2⟩
    go_wp2
    go_ret
    exact ⟨of_int HF.out.symm, below_more b1.out hb2⟩
  | true =>
    have H1 := Lib.hid h1
    clear h1
    cases h2 : withinB p l.per with
    | false =>
      have HF := Lib.hid (show sipErr l.li i p = 13 by rw [HS.out, HE.out, if_neg (by simp), if_neg (by rw [H1.out]; simp), if_pos h2])
      have W2 := Lib.hid h2
      clear h2
      go_enter Tryz.func32, Tryz.ntmps32
      go_wp2_with fail
      refine (check_is l _ H0.out 0 HE.out).mono ?_; rintro e w1 ⟨rfl, hb1⟩
      have x0 := cell_of_blk (blk_keep hb1 C0.out) 0
      have x1 := cell_of_blk (blk_keep hb1 C0.out) 1
      simp at x0 x1
      have C1 := Lib.hid (blk_keep hb1 C0.out)
      have b1 := Lib.hid (below_of hb1)
      have H2 := Lib.hid (H0.out.below hb1)
      clear hb1
      go_wp2_with fail
      refine (has_is l i _ H2.out true H1.out).mono ?_; rintro e w2 ⟨rfl, hb2⟩
      have z0 := cell_of_blk (blk_keep hb2 C1.out) 0
      simp at z0
      have b2 := Lib.hid (below_more b1.out hb2)
      clear hb2
      go_wp2_with fail
      refine (within_is p l.per _ false W2.out).mono ?_; rintro e w' ⟨rfl, rfl⟩
      go_wp2
      go_ret
      exact ⟨of_int HF.out.symm, b2.out⟩
    | true =>
      have HF := Lib.hid (show sipErr l.li i p = 0 by rw [HS.out, HE.out, if_neg (by simp), if_neg (by rw [H1.out]; simp), if_neg (by rw [h2]; simp)])
      have W2 := Lib.hid h2
      clear h2
      go_enter Tryz.func32, Tryz.ntmps32
      go_wp2_with fail
      refine (check_is l _ H0.out 0 HE.out).mono ?_; rintro e w1 ⟨rfl, hb1⟩
      have x0 := cell_of_blk (blk_keep hb1 C0.out) 0
      have x1 := cell_of_blk (blk_keep hb1 C0.out) 1
      simp at x0 x1
      have C1 := Lib.hid (blk_keep hb1 C0.out)
      have b1 := Lib.hid (below_of hb1)
      have H2 := Lib.hid (H0.out.below hb1)
      clear hb1
      go_wp2_with fail
      refine (has_is l i _ H2.out true H1.out).mono ?_; rintro e w2 ⟨rfl, hb2⟩
      have z0 := cell_of_blk (blk_keep hb2 C1.out) 0
      simp at z0
      have b2 := Lib.hid (below_more b1.out hb2)
      clear hb2
      go_wp2_with fail
      refine (within_is p l.per _ true W2.out).mono ?_; rintro e w' ⟨rfl, rfl⟩
      go_wp2
      go_ret
      exact ⟨of_int HF.out.symm, b2.out⟩

end Go.Proofs.YtleihhkacmgofabGreatDoor

/- Contract of Name. -/
namespace Go.Proofs.YtleihhkacmgofabGreatDoor
open Go.RowKit

theorem idx_bd (x : Int) : ∀ (zs : List Int) (i : Nat), Lib.idxFrom zs x i = -1 ∨ ((i : Int) ≤ Lib.idxFrom zs x i ∧ Lib.idxFrom zs x i < i + zs.length)
  | [], i => by simp [Lib.idxFrom]
  | z :: zs, i => by
    unfold Lib.idxFrom
    split
    · right; simp; omega
    · rcases idx_bd x zs (i + 1) with h | h
      · exact .inl h
      · right; simp at h ⊢; omega
theorem index_ints (A : Option Addr) (c : Nat) (zs : List Int) (x : Int) (w : World) (h : IntsAt w A zs) (hn : A = none → zs = []) (hz : zs.length ≤ 1000000) :
    Calls Tryz.prog 33 #[.slice A zs.length c, .int .i64 x] w fun e w' => e = .returned (.int .i64 (Lib.idxOf zs x)) ∧ w = w' := by
  cases hA : A with
  | none =>
    have := hn hA; subst this
    exact (Tryz.slices_Index_int_empty none c x w).mono fun _ _ ⟨h1, h2⟩ => ⟨h1, h2.symm⟩
  | some ad =>
    obtain ⟨g, rfl, _, hc⟩ := h ad hA
    have := Tryz.slices_Index_int g 0 zs.length c zs x w (Nat.le_refl _) (by omega) (fun j hj => by rw [Nat.zero_add]; exact hc j hj)
    rw [List.take_length] at this
    exact this.mono fun _ _ ⟨h1, h2⟩ => ⟨h1, h2.symm⟩
theorem itoa_any (n : Int) (h0 : 0 ≤ n) (h1 : n ≤ 1000001) (w : World) (hE : Env w) :
    Calls Tryz.prog 35 #[.int .i64 n] w fun e w' => e = .returned (.string ⟨(Lib.itoa n).toArray⟩) ∧ Below w.heap.size w w' := by
  refine (Tryz.strconv_Itoa n (by omega) (by omega) w hE.pow).mono ?_
  rintro e w' ⟨rfl, k, os, rfl⟩
  refine ⟨rfl, rfl, rfl, rfl, ?_, fun j hj => ?_⟩
  · show w.heap.size ≤ (w.heap ++ os).size
    simp
  · show (w.heap ++ os)[j]? = w.heap[j]?
    rw [Array.getElem?_append_left hj]
theorem itoa_len (n : Int) (h0 : 0 ≤ n) (h1 : n ≤ 1000001) : (Lib.itoa n).length ≤ 1000 := by
  obtain ⟨k, rfl⟩ := Int.eq_ofNat_of_zero_le h0
  have : ∀ u, u < 10000000 → (Lib.decDigits u).length ≤ 7 := by
    intro u hu
    unfold Lib.decDigits; split
    · simp
    unfold Lib.decDigits; split
    · simp
    unfold Lib.decDigits; split
    · simp
    unfold Lib.decDigits; split
    · simp
    unfold Lib.decDigits; split
    · simp
    unfold Lib.decDigits; split
    · simp
    unfold Lib.decDigits; split
    · simp
    omega
  unfold Lib.itoa
  rw [if_neg (by omega)]
  have := this k (by omega)
  simp; omega

/-- Name -/
def nameR (l : Li) (i : Int) (t : ByteArray) (p : Int) : ByteArray × Int :=
  if sipErr l i p ≠ 0 then (⟨#[]⟩, sipErr l i p)
  else if Lib.idxOf (bearFrom 1 t p 0 l.signs) i = -1 then (⟨#[]⟩, 3)
  else if Lib.idxOf (bearFrom 1 t p 0 l.signs) i = 0 then (t, 0)
  else (t ++ ⟨(Lib.itoa (Lib.idxOf (bearFrom 1 t p 0 l.signs) i + 1)).toArray⟩, 0)
theorem ret_si {a : ByteArray} {b : Int} {p : ByteArray × Int} (h : (a, b) = p) : Ending.returned (.tuple #[.string a, .int .i64 b]) = .returned (.tuple #[.string p.1, .int .i64 p.2]) := by
  rw [← h]
theorem sip_is (l : Lm) (i p : Int) (w : World) (hl : LmOk w l) (r : Int) (h : sipErr l.li i p = r) : Calls Tryz.prog 32 #[l.val, .int .i64 i, .int .i64 p] w fun e w' => e = .returned (.int .i64 r) ∧ Below w.heap.size w w' := by
  rw [← h]; exact sip_any l i p w hl

set_option maxHeartbeats 1600000 in
theorem name_of (l : Lm) (i : Int) (t : ByteArray) (p : Int) (w : World) (hE : Env w) (hl : LmOk w l) (hsm : l.ms.length ≤ 1000000) (ht : t.size ≤ 1000000) :
    Calls Tryz.prog 20 #[l.val, .int .i64 i, .string t, .int .i64 p] w fun e w' => e = .returned (.tuple #[.string (nameR l.li i t p).1, .int .i64 (nameR l.li i t p).2]) ∧ Below w.heap.size w w' := by
  have H0 := Lib.hid (show LmOk (w.alloc (.cells #[.int .i64 l.per, .slice l.A l.ms.length l.cap] 24)) l from hl.below (below_alloc _ _))
  have C0 := Lib.hid (heap_alloc_new w (.cells #[.int .i64 l.per, .slice l.A l.ms.length l.cap] 24))
  show Calls _ _ #[.agg #[.int .i64 l.per, .slice l.A l.ms.length l.cap], .int .i64 i, .string t, .int .i64 p] w _
  obtain ⟨E, hE'⟩ : ∃ E, E = sipErr l.li i p := ⟨_, rfl⟩
  have HE := Lib.hid hE'.symm
  have HT := Lib.hid ht
  have HSM := Lib.hid hsm
  clear ht hsm
  by_cases h0 : E = 0
  case neg =>
    have hb : (E != 0) = true := by simpa using h0
    have HF := Lib.hid (show nameR l.li i t p = (⟨#[]⟩, E) by unfold nameR; rw [HE.out, if_pos h0])
    clear hE' h0
    go_enter Tryz.func20, Tryz.ntmps20
    go_wp2_with fail
    refine (sip_is l i p _ H0.out E HE.out).mono ?_; rintro e w1 ⟨rfl, hb1⟩
    go_wp2
    go_ret2
    exact ⟨ret_si HF.out.symm, below_of hb1⟩
  subst h0
  clear hE'
  obtain ⟨zs, hzs⟩ : ∃ zs, zs = bearFrom 1 t p 0 l.signs := ⟨_, rfl⟩
  have hzl : zs.length ≤ l.ms.length := by rw [hzs]; have := bearFrom_len 1 t p l.signs 0; rw [Lm.length_signs] at this; exact this
  have HZL := Lib.hid (Nat.le_trans hzl HSM.out)
  obtain ⟨I, hI⟩ : ∃ I, I = Lib.idxOf zs i := ⟨_, rfl⟩
  have hIb : I = -1 ∨ (0 ≤ I ∧ I < zs.length) := by have := idx_bd i zs 0; rw [hI]; simpa [Lib.idxOf] using this
  have HR := Lib.hid (show nameR l.li i t p = if I = -1 then (⟨#[]⟩, 3) else if I = 0 then (t, 0) else (t ++ ⟨(Lib.itoa (I + 1)).toArray⟩, 0) by
    unfold nameR; rw [HE.out, if_neg (by simp), show l.li.signs = l.signs from rfl, ← hzs, ← hI])
  have HB := Lib.hid (fun (w : World) (hl : LmOk w l) => show Calls Tryz.prog 34 #[.agg #[.int .i64 l.per, .slice l.A l.ms.length l.cap], .agg #[.int .i64 1, .string t], .int .i64 p] w (GotInts w zs) by
    rw [hzs]; exact bearers_any l 1 t p w hl HSM.out)
  have HX := Lib.hid (fun (A : Option Addr) (c : Nat) (w : World) (h : IntsAt w A zs) (hn : A = none → zs = []) => show Calls Tryz.prog 33 #[.slice A zs.length c, .int .i64 i] w fun e w' => e = .returned (.int .i64 I) ∧ w = w' by
    rw [hI]; exact index_ints A c zs i w h hn HZL.out)
  clear hzs hI hzl
  rcases hIb with hI | ⟨hI0, hI1⟩
  · subst hI
    have HF := Lib.hid (show nameR l.li i t p = (⟨#[]⟩, 3) by rw [HR.out]; rfl)
    go_enter Tryz.func20, Tryz.ntmps20
    go_wp2_with fail
    refine (sip_is l i p _ H0.out 0 HE.out).mono ?_; rintro e w1 ⟨rfl, hb1⟩
    have x0 := cell_of_blk (blk_keep hb1 C0.out) 0
    have x1 := cell_of_blk (blk_keep hb1 C0.out) 1
    simp at x0 x1
    have b1 := Lib.hid (below_of hb1)
    have H2 := Lib.hid (H0.out.below hb1)
    clear hb1
    go_wp2_with fail
    refine (HB.out _ H2.out).mono ?_; rintro e w2 ⟨A, c, rfl, hi, hn, hb2⟩
    have b2 := Lib.hid (below_more b1.out hb2)
    have HI := Lib.hid hi
    have HN := Lib.hid hn
    clear hb2 hi hn
    go_wp2_with fail
    refine (HX.out _ _ _ HI.out HN.out).mono ?_; rintro e w' ⟨rfl, rfl⟩
    go_wp2
    go_ret2
    exact ⟨ret_si HF.out.symm, b2.out⟩
  have hm1 : (I == -1) = false := by rw [beq_eq_false_iff_ne]; omega
  by_cases hz : I = 0
  · subst hz
    have HF := Lib.hid (show nameR l.li i t p = (t, 0) by rw [HR.out]; rfl)
    go_enter Tryz.func20, Tryz.ntmps20
    go_wp2_with fail
    refine (sip_is l i p _ H0.out 0 HE.out).mono ?_; rintro e w1 ⟨rfl, hb1⟩
    have x0 := cell_of_blk (blk_keep hb1 C0.out) 0
    have x1 := cell_of_blk (blk_keep hb1 C0.out) 1
    simp at x0 x1
    have b1 := Lib.hid (below_of hb1)
    have H2 := Lib.hid (H0.out.below hb1)
    clear hb1
    go_wp2_with fail
    refine (HB.out _ H2.out).mono ?_; rintro e w2 ⟨A, c, rfl, hi, hn, hb2⟩
    have b2 := Lib.hid (below_more b1.out hb2)
    have HI := Lib.hid hi
    have HN := Lib.hid hn
    clear hb2 hi hn
    go_wp2_with fail
    refine (HX.out _ _ _ HI.out HN.out).mono ?_; rintro e w' ⟨rfl, rfl⟩
    go_wp2
    go_ret2
    exact ⟨ret_si HF.out.symm, b2.out⟩
  have hz1 : (I == 0) = false := by rw [beq_eq_false_iff_ne]; omega
  have HF := Lib.hid (show nameR l.li i t p = (t ++ ⟨(Lib.itoa (I + 1)).toArray⟩, 0) by rw [HR.out, if_neg (by omega), if_neg hz])
  have hIu : I + 1 ≤ 1000001 := by have := HZL.out; omega
  have HIL := Lib.hid (itoa_len (I + 1) (by omega) hIu)
  obtain ⟨D, hD⟩ : ∃ D : ByteArray, D = ⟨(Lib.itoa (I + 1)).toArray⟩ := ⟨_, rfl⟩
  have hDs : D.size ≤ 1000 := by rw [hD]; show (Lib.itoa (I + 1)).toArray.size ≤ 1000; rw [List.size_toArray]; exact HIL.out
  have HIT := Lib.hid (fun (w : World) (hE : Env w) => show Calls Tryz.prog 35 #[.int .i64 (I + 1)] w fun e w' => e = .returned (.string D) ∧ Below w.heap.size w w' by
    rw [hD]; exact itoa_any (I + 1) (by omega) hIu w hE)
  rw [← hD] at HF
  have hsum : t.size + D.size ≤ 9223372036854775807 := by have := HT.out; omega
  clear hD
  go_enter Tryz.func20, Tryz.ntmps20
  go_wp2_with fail
  refine (sip_is l i p _ H0.out 0 HE.out).mono ?_; rintro e w1 ⟨rfl, hb1⟩
  have x0 := cell_of_blk (blk_keep hb1 C0.out) 0
  have x1 := cell_of_blk (blk_keep hb1 C0.out) 1
  simp at x0 x1
  have b1 := Lib.hid (below_of hb1)
  have H2 := Lib.hid (H0.out.below hb1)
  clear hb1
  go_wp2_with fail
  refine (HB.out _ H2.out).mono ?_; rintro e w2 ⟨A, c, rfl, hi, hn, hb2⟩
  have b2 := Lib.hid (below_more b1.out hb2)
  have HI := Lib.hid hi
  have HN := Lib.hid hn
  clear hb2 hi hn
  go_wp2_with fail
  refine (HX.out _ _ _ HI.out HN.out).mono ?_; rintro e w' ⟨rfl, rfl⟩
  go_wp2_with fail
  refine (HIT.out _ (hE.below b2.out)).mono ?_; rintro e w3 ⟨rfl, hb3⟩
  have b3 := Lib.hid (below_more b2.out hb3)
  clear hb3
  go_wp2
  go_ret2
  exact ⟨ret_si HF.out.symm, b3.out⟩

end Go.Proofs.YtleihhkacmgofabGreatDoor

/- Contract of the laws' look at an example: it returns true. -/
namespace Go.Proofs.YtleihhkacmgofabGreatDoor
open Go.RowKit

/-- the example's text -/
def exText : ByteArray := ⟨#[112, 101, 114, 105, 111, 100, 115, 32, 50, 10, 65, 49, 32, 52, 120, 54, 32, 115, 58, 110, 102, 114, 64, 49, 45, 50, 10, 66, 50, 32, 51, 120, 51, 32, 61, 32, 115, 58, 110, 102, 114, 64, 50, 45, 50, 10]⟩
theorem ex_parse : (parseP exText).2 = (0, 0) ∧ (parseP exText).1.signs.length = 2 := by decide +kernel
theorem ex_name : (nameR (parseP exText).1 1 ⟨#[110, 102, 114]⟩ 2).1.data.toList = [110, 102, 114, 50] ∧ (nameR (parseP exText).1 1 ⟨#[110, 102, 114]⟩ 2).2 = 0 := by decide +kernel

set_option maxHeartbeats 1600000 in
theorem works_any (w : World) (hE : Env w) : Calls Tryz.prog 6 #[] w fun e w' => e = .returned (.bool true) ∧ Below w.heap.size w w' := by
  have HP := Lib.hid (show Calls Tryz.prog 19 #[.string exText] w (GotParse w (parseP exText)) from parse_any exText w hE (by decide))
  have h1 := ex_parse
  have h2 := ex_name
  obtain ⟨⟨li, ln, er⟩, hp⟩ : ∃ p, p = parseP exText := ⟨_, rfl⟩
  rw [← hp] at h1 h2 HP
  dsimp only at h1 h2
  clear hp
  obtain ⟨h11, h12⟩ := h1
  injection h11 with h13 h14
  subst h13 h14
  unfold exText at HP
  have HN := Lib.hid h2
  have HL := Lib.hid h12
  clear h2 h12
  go_enter Tryz.func6, Tryz.ntmps6
  go_wp2_with fail
  refine (HP.out).mono ?_; rintro e w1 ⟨⟨per, ms, A, cap⟩, rfl, hok, hli, hb⟩
  have hli : (⟨per, ms, A, cap⟩ : Lm).li = li := hli
  unfold Lm.val
  dsimp only
  have hn2 : ms.length = 2 := by
    have := HL.out; rw [← hli] at this; simpa [Lm.li, Lm.signs] using this
  have HOK := Lib.hid hok
  have HLI := Lib.hid hli
  have b1 := Lib.hid hb
  have HN2 := Lib.hid hn2
  rw [hn2]
  clear hok hli hb hn2
  have HNM := Lib.hid (fun (w : World) (hE : Env w) (hok : LmOk w ⟨per, ms, A, cap⟩) => show Calls Tryz.prog 20 #[.agg #[.int .i64 per, .slice A 2 cap], .int .i64 1, .string ⟨#[110, 102, 114]⟩, .int .i64 2] w fun e w' => e = .returned (.tuple #[.string ⟨#[110, 102, 114, 50]⟩, .int .i64 0]) ∧ Below w.heap.size w w' by
    have := name_of ⟨per, ms, A, cap⟩ 1 ⟨#[110, 102, 114]⟩ 2 w hE hok (by dsimp only; rw [HN2.out]; decide) (by decide)
    rw [HLI.out] at this
    have e1 : (nameR li 1 ⟨#[110, 102, 114]⟩ 2).1 = ⟨#[110, 102, 114, 50]⟩ := by
      have h := HN.out.1
      generalize (nameR li 1 ⟨#[110, 102, 114]⟩ 2).1 = x at h
      rcases x with ⟨⟨x⟩⟩
      have h' : x = [110, 102, 114, 50] := h
      rw [h']
    rw [e1, HN.out.2] at this
    unfold Lm.val at this
    dsimp only at this
    rw [HN2.out] at this
    exact this)
  go_wp2_with fail
  refine (HNM.out _ (hE.below (b1.out.alloc (by have := b1.out.size; omega) _)) (HOK.out.below (below_alloc _ _))).mono ?_; rintro e w2 ⟨rfl, hb2⟩
  go_wp2
  go_ret
  exact ⟨rfl, (b1.out.alloc (by have := b1.out.size; omega) _).trans (hb2.mono (by have := b1.out.size; simp; omega))⟩

end Go.Proofs.YtleihhkacmgofabGreatDoor
