/-
  Merge, as the specification does it: plain facts, and a sign pushed to a list in memory. And what builds on it.
-/
import Derived.Test.YtleihhkacmgofabGreatDoorPk7

/- Merge, as the specification does it: plain facts, and a sign pushed to a list in memory. -/
namespace Go.Proofs.YtleihhkacmgofabGreatDoor
open Go.RowKit

theorem strEq_symm (a b : ByteArray) : strEq a b = strEq b a := by
  cases h : strEq b a
  · rw [strEq_no] at h ⊢; exact fun e => h e.symm
  · rw [strEq_is] at h ⊢; exact h.symm
theorem shapeEq_symm (s t : Sg) : shapeEq s t = shapeEq t s := by
  unfold shapeEq
  have h1 : (s.wide == t.wide) = (t.wide == s.wide) := by rw [Bool.eq_iff_iff]; simp; exact ⟨Eq.symm, Eq.symm⟩
  have h2 : (s.high == t.high) = (t.high == s.high) := by rw [Bool.eq_iff_iff]; simp; exact ⟨Eq.symm, Eq.symm⟩
  have h3 : (s.even == t.even) = (t.even == s.even) := by cases s.even <;> cases t.even <;> rfl
  rw [h1, h2, h3]
theorem clash_flip (ls ks : List Sg) : clash ls ks = ls.any (clash1 ks) := by
  have h : ∀ s t : Sg, (strEq s.code t.code && !shapeEq s t) = (strEq t.code s.code && !shapeEq t s) := fun s t => by rw [strEq_symm, shapeEq_symm]
  rw [Bool.eq_iff_iff]
  unfold clash clash1
  simp only [List.any_eq_true]
  constructor
  · rintro ⟨t, ht, s, hs, h1⟩
    exact ⟨s, hs, t, ht, by rw [← h]; exact h1⟩
  · rintro ⟨s, hs, t, ht, h1⟩
    exact ⟨t, ht, s, hs, by rw [h]; exact h1⟩

theorem indexI_hit (l : List Sg) (c : ByteArray) (h : hasC l c = true) : ∃ (i : Nat) (t : Sg), indexI l c = (i : Int) ∧ l[i]? = some t ∧ strEq t.code c = true := by
  cases hf : l.findIdx? (fun s => strEq s.code c) with
  | none =>
    rw [List.findIdx?_eq_none_iff] at hf
    unfold hasC at h
    obtain ⟨x, hx, hc⟩ := List.any_eq_true.1 h
    have := hf x hx
    rw [hc] at this; cases this
  | some i =>
    have h2 := hf
    rw [List.findIdx?_eq_some_iff_getElem] at h2
    obtain ⟨h3, h4, _⟩ := h2
    exact ⟨i, l[i], by simp [indexI, hf], List.getElem?_eq_getElem h3, h4⟩
theorem extra_none (ks : List Sg) (c : ByteArray) (h : hasC ks c = false) : extraV ks c = [] := by
  unfold extraV
  rw [List.flatMap_eq_nil_iff]
  intro t ht
  have := (List.any_eq_false.1 h) t ht
  rw [if_neg this]
theorem extra_hit (ks : List Sg) (c : ByteArray) (ha : apartC ks) (i : Nat) (t : Sg) (hi : ks[i]? = some t) (hc : strEq t.code c = true) : extraV ks c = t.vals := by
  obtain ⟨hlt, hie⟩ := List.getElem?_eq_some_iff.1 hi
  have hsp : ks = ks.take i ++ t :: ks.drop (i + 1) := by
    rw [← hie, ← List.drop_eq_getElem_cons hlt, List.take_append_drop]
  have hno : ∀ l : List Sg, (∀ x ∈ l, x ∈ ks) → (∀ x ∈ l, strEq x.code c = true → False) → extraV l c = [] := fun l _ h2 => by
    unfold extraV
    rw [List.flatMap_eq_nil_iff]
    intro x hx
    rw [if_neg (fun h => h2 x hx h)]
  have hp := ha
  unfold apartC at hp
  rw [hsp] at hp
  obtain ⟨_, h2, h3⟩ := List.pairwise_append.1 hp
  have hcode : ∀ x : Sg, strEq x.code c = true → x.code = t.code := fun x hx => by
    rw [strEq_is] at hx hc; rw [hx, hc]
  rw [hsp]
  unfold extraV
  rw [List.flatMap_append, List.flatMap_cons, if_pos hc]
  have e1 := hno (ks.take i) (fun x hx => List.mem_of_mem_take hx) (fun x hx hxc => by
    have := h3 x hx t (by simp)
    rw [strEq_no] at this
    exact this (hcode x hxc))
  have e2 := hno (ks.drop (i + 1)) (fun x hx => List.mem_of_mem_drop hx) (fun x hx hxc => by
    have := (List.pairwise_cons.1 h2).1 x hx
    rw [strEq_no] at this
    exact this (hcode x hxc).symm)
  unfold extraV at e1 e2
  rw [e1, e2]; simp
theorem tidied_two (x y : List Va) : tidiedR [x, y] = tidyV (x ++ y) := by
  unfold tidyV tidiedR pointsR
  simp

/-- a list in memory, to which signs are pushed -/
def Push (w0 wr : World) (per : Int) (l : List Sg) : Prop := ∃ A c cs, Below w0.heap.size w0 wr ∧ wr.heap[w0.heap.size]? = some (.cells #[.int .i64 per, .slice A cs.length c] 24 (0, 0)) ∧ OwnSigns wr (w0.heap.size + 1) A c cs ∧ cs.map (·.s) = l
theorem push_ok {w0 w7 w8 : World} {per : Int} {l : List Sg} {A A4 : Option Addr} {c c4 : Nat} {cs : List Sm} {m : Sm} {blk : Obj} (hb : Below w0.heap.size w0 w7) (hk : w7.heap[w0.heap.size]? = some (.cells #[.int .i64 per, .slice A cs.length c] 24 (0, 0)))
    (ho : OwnSigns w7 (w0.heap.size + 1) A c cs) (hl : cs.map (·.s) = l) (hm : SmOk w7 m) (ha : 0 < m.s.vals.length → ∀ b o, m.A = some ⟨b, o, none⟩ → (Value.slice A cs.length c).ownBlock ≠ some b)
    (hown : w8.ownsRow (w0.heap.size + 1) 38 5 (.slice A4 (cs.length + 1) c4) (cs.length + 1) (cs.flatMap Sm.cells ++ m.cells))
    (hg : (w7.alloc blk).grownBy w8 (Value.slice A cs.length c).ownBlock)
    (hat : (Value.slice A4 (cs.length + 1) c4).ownBlock = (Value.slice A cs.length c).ownBlock ∨ (Value.slice A4 (cs.length + 1) c4).ownBlock = some (w7.alloc blk).heap.size) :
    w8.heap[w0.heap.size]? = some (.cells #[.int .i64 per, .slice A cs.length c] 24 (0, 0)) ∧ Push w0 (w8.setCell ⟨w0.heap.size, 1, none⟩ (.slice A4 (cs.length + 1) c4)) per (l ++ [m.s]) := by
  have hlt := (Array.getElem?_eq_some_iff.1 hk).1
  have hs := hb.size
  have hne : (Value.slice A cs.length c).ownBlock ≠ some w0.heap.size := fun e => by have := (ho.own.lt _ e).1; omega
  have hk8 : w8.heap[w0.heap.size]? = some (.cells #[.int .i64 per, .slice A cs.length c] 24 (0, 0)) := by
    rw [hg.block _ (by simp; omega) (fun e => hne e.symm), heap_alloc_other _ _ _ hlt]; exact hk
  have hos := OwnSigns.append ho hm ha hown hg hat
  have hlen : (cs ++ [m]).length = cs.length + 1 := by simp
  refine ⟨hk8, A4, c4, cs ++ [m], ?_, ?_, ?_, ?_⟩
  · exact ((hb.alloc hs blk).grown hg (by simp; omega) (fun g hg => by have := (ho.own.lt g hg).1; omega)).setCell (p := ⟨w0.heap.size, 1, none⟩) (Nat.le_refl _) _
  · rw [heap_setCell_same _ _ _ _ _ _ hk8, hlen]; rfl
  · have := hos.other (b0 := w0.heap.size) (fun e => by have := (hos.own.lt _ e).1; omega) (fun x hx => apart_list (hos.ok x hx) hk8) 1 (.slice A4 (cs.length + 1) c4)
    exact this
  · rw [List.map_append, hl]; rfl

/-- one sign in a row that the call has made -/
theorem OwnSigns.one {w : World} {m : Sm} (h : SmOk w m) : OwnSigns (w.alloc (.cells m.cells.toArray 38)) w.heap.size (some ⟨w.heap.size, 0, none⟩) 1 [m] := by
  refine ⟨⟨rfl, .inr ⟨w.heap.size, 1, m.cells.toArray, rfl, Nat.le_refl _, heap_alloc_new w _, Nat.le_refl _, by unfold maxLen; omega, rfl, by simp [Sm.cells]⟩⟩, fun x hx => ?_, fun x hx h0 b o e e2 => ?_⟩
  · simp at hx; subst hx; exact h.below (below_alloc w _)
  · simp at hx; subst hx
    have h1 := vals_lt h.vals h0 b o e
    injection e2 with e2
    dsimp only at e2
    omega

end Go.Proofs.YtleihhkacmgofabGreatDoor

/- A merged list, plain: what it has in a period; a list merged with itself. -/
namespace Go.Proofs.YtleihhkacmgofabGreatDoor

theorem mergeR_len (l : List Va) : (mergeR l).length ≤ l.length := by
  suffices H : ∀ (l out : List Va), (l.foldl mergeStep out).length ≤ out.length + l.length by have := H l []; simpa [mergeR] using this
  intro l
  induction l with
  | nil => intro out; simp
  | cons v l ih => intro out; have h1 := ih (mergeStep out v); have h2 := mergeStep_len out v; simp only [List.foldl_cons, List.length_cons]; omega
/-- Tidy makes no more values -/
theorem tidyV_short (vs : List Va) (h : ∀ v ∈ vs, v.fr ≤ v.to) : (tidyV vs).length ≤ vs.length := by
  have hs : sortedV (vs.mergeSort fun a b => !vlt b a) := by
    have := List.pairwise_mergeSort (le := fun a b => !vlt b a) (fun a b c h1 h2 => by
      have n1 : vlt b a = false := by simpa using h1
      have n2 : vlt c b = false := by simpa using h2
      have : vlt c a = false := by
        cases h3 : vlt c a
        · rfl
        · exfalso
          have g1 := not_vlt n1
          have g2 := not_vlt n2
          rw [vlt_iff] at h3
          rcases g1 with g1 | ⟨g1, g1'⟩ <;> rcases g2 with g2 | ⟨g2, g2'⟩ <;> rcases h3 with h3 | ⟨h3, h3'⟩
          · have := mlt_asym (mlt_trans g1 g2); rw [h3] at this; cases this
          · have := mlt_not_meq (mlt_trans g1 g2); rw [meq_comm, h3] at this; cases this
          · have := mlt_asym ((mlt_meq g2).2.symm.trans g1); rw [h3] at this; cases this
          · have := mlt_not_meq ((mlt_meq g2).2.symm.trans g1); rw [meq_comm, h3] at this; cases this
          · have := mlt_asym ((mlt_meq g1).1.trans g2); rw [h3] at this; cases this
          · have := mlt_not_meq ((mlt_meq g1).1.trans g2); rw [meq_comm, h3] at this; cases this
          · have := mlt_not_meq h3; rw [meq_comm, meq_trans g1 g2] at this; cases this
          · omega
      simpa using this) (fun a b => by
      cases h1 : vlt b a
      · simp
      · cases h2 : vlt a b
        · simp
        · have := vlt_trans h1 h2; rw [vlt_irr] at this; cases this) vs
    exact this.imp fun {a b} hab => by simpa using hab
  have hm : ∀ v, v ∈ (vs.mergeSort fun a b => !vlt b a) ↔ v ∈ [vs].flatten := fun v => by
    rw [List.mem_mergeSort]; simp
  have e := tidied_eq [vs] _ hm hs (fun v hv => h v (by simpa using hv))
  unfold tidyV
  rw [← e]
  have := mergeR_len (vs.mergeSort fun a b => !vlt b a)
  rw [List.length_mergeSort] at this
  exact this
theorem tidyV_cov (a b : List Va) (h : ∀ m p, cov a m p ↔ cov b m p) : tidyV a = tidyV b := by
  obtain ⟨h1, h2⟩ := tidiedR_canon [a]
  obtain ⟨h3, h4⟩ := tidiedR_canon [b]
  refine canon_eq _ _ h1 h3 fun m p => ?_
  unfold tidyV
  rw [h2, h4]
  simpa using h m p
theorem tidyV_twice (vs : List Va) : tidyV (vs ++ vs) = tidyV vs := tidyV_cov _ _ fun m p => by rw [cov_append]; exact or_self_iff
theorem newS_self (ls : List Sg) : newS ls ls = [] := by
  unfold newS
  rw [List.filter_eq_nil_iff]
  intro t ht
  have : hasC ls t.code = true := List.any_eq_true.2 ⟨t, ht, (strEq_is _ _).2 rfl⟩
  simp [this]
theorem extra_own (ls : List Sg) (ha : apartC ls) (s : Sg) (hs : s ∈ ls) : extraV ls s.code = s.vals := by
  obtain ⟨i, hi⟩ := List.getElem?_of_mem hs
  exact extra_hit ls s.code ha i s hi ((strEq_is _ _).2 rfl)
/-- a list merged with itself is tidy -/
theorem merge_self (l : Li) (h : checkErr l = 0) : mergeL l l = (⟨l.per, l.signs.map (sgWith tidyV)⟩, 0) := by
  obtain ⟨h1, h2, h3, h4, h5⟩ := check_all l h
  have hu : unionL l l = ⟨l.per, l.signs.map (sgWith tidyV)⟩ := by
    unfold unionL unionS
    rw [newS_self, List.append_nil, List.map_map]
    congr 1
    · omega
    · refine List.map_congr_left fun s hs => ?_
      show sgWith tidyV (joinS l.signs s) = sgWith tidyV s
      unfold sgWith joinS
      simp only [sgWith, extra_own l.signs h5 s hs, tidyV_twice]
  have hc : clash l.signs l.signs = false := by
    rw [clash_flip, List.any_eq_false]
    intro s hs
    unfold clash1
    rw [Bool.not_eq_true, List.any_eq_false]
    intro t ht
    cases hc : strEq t.code s.code
    · simp
    · obtain ⟨i, hi⟩ := List.getElem?_of_mem hs
      have := one_code h5 hi ((strEq_is _ _).2 rfl) ht hc
      rw [this]
      simp [shapeEq]
  have hz : checkErr (unionL l l) = 0 := by
    rw [hu]
    unfold checkErr
    rw [if_neg (by dsimp only; rw [List.length_map]; omega), if_neg (by dsimp only; unfold withinB; simp; omega)]
    have key : ∀ (r done : List Sg), (∀ s ∈ r, codeB s.code = true ∧ signErr s l.per = 0) → (∀ s ∈ r, ∀ d ∈ done, strEq d.code s.code = false) → apartC r → signsErr l.per done r = 0 := by
      intro r
      induction r with
      | nil => intro _ _ _ _; rfl
      | cons x r ih =>
        intro done hx hd hp
        have hany : (done.any fun d => strEq d.code x.code) = false := by
          rw [List.any_eq_false]
          intro d hd1
          rw [hd x (by simp) d hd1]; simp
        rw [signsErr, if_neg (by rw [(hx x (by simp)).1, hany]; simp), if_pos (hx x (by simp)).2]
        refine ih _ (fun s hs => hx s (by simp [hs])) (fun s hs d hd1 => ?_) (List.pairwise_cons.1 hp).2
        rcases List.mem_append.1 hd1 with hd1 | hd1
        · exact hd s (by simp [hs]) d hd1
        · simp at hd1; subst hd1; exact (List.pairwise_cons.1 hp).1 s hs
    refine key _ _ (fun s hs => ?_) (fun s _ d hd => by cases hd) ((code_with _ _).2 h5)
    obtain ⟨u, hu, rfl⟩ := List.mem_map.1 hs
    obtain ⟨f1, f2, f3, f4, f5⟩ := h4 u hu
    have hall := vals_all _ _ _ f5
    have hshort := tidyV_short u.vals (fun v hv => (hall v hv).2.2.2.1)
    refine ⟨f1, ?_⟩
    unfold signErr
    rw [show withinB (sgWith tidyV u).wide 12 = true from f2, show withinB (sgWith tidyV u).high 12 = true from f3, if_neg (by simp), if_neg (by show ¬ 12 < (tidyV u.vals).length; omega)]
    exact tidyV_fine _ _ hall
  unfold mergeL
  rw [h, hc, hz, hu]
  rfl

/-- the values of the other list that are wanted besides -/
def wantStep (want : List Va) (v : Va) : List Va := if want.any (fun x => meq x v) = true then want else want ++ [v]
def wantR (w l : List Va) : List Va := l.foldl wantStep w
theorem want_snoc (w l : List Va) (v : Va) : wantR w (l ++ [v]) = wantStep (wantR w l) v := by unfold wantR; rw [List.foldl_append]; rfl
theorem want_ok : ∀ (l w : List Va), apartM w → apartM (wantR w l) ∧ (∀ x ∈ w, x ∈ wantR w l) ∧ (∀ x ∈ wantR w l, x ∈ w ∨ x ∈ l) ∧ (∀ y ∈ l, ∃ x ∈ wantR w l, meq y x = true)
  | [], w, h => ⟨h, fun x hx => hx, fun x hx => .inl hx, fun y hy => by cases hy⟩
  | v :: l, w, h => by
    have hs : apartM (wantStep w v) ∧ (∀ x ∈ w, x ∈ wantStep w v) ∧ (∀ x ∈ wantStep w v, x ∈ w ∨ x = v) ∧ ∃ x ∈ wantStep w v, meq v x = true := by
      unfold wantStep
      split
      · rename_i hm
        obtain ⟨x, hx, hxv⟩ := List.any_eq_true.1 hm
        exact ⟨h, fun x hx => hx, fun x hx => .inl hx, x, hx, meq_symm hxv⟩
      · rename_i hm
        have hm : (w.any fun x => meq x v) = false := by simpa using hm
        refine ⟨List.pairwise_append.2 ⟨h, by simp, fun a ha b hb => ?_⟩, fun x hx => List.mem_append_left _ hx, fun x hx => ?_, v, by simp, meq_refl v⟩
        · simp at hb; subst hb
          have := (List.any_eq_false.1 hm) a ha
          simpa using this
        · rcases List.mem_append.1 hx with hx | hx
          · exact .inl hx
          · exact .inr (by simpa using hx)
    obtain ⟨h1, h2, h3, y, hy, hvy⟩ := hs
    obtain ⟨i1, i2, i3, i4⟩ := want_ok l (wantStep w v) h1
    show apartM (wantR (wantStep w v) l) ∧ _
    refine ⟨i1, fun x hx => i2 x (h2 x hx), fun x hx => ?_, fun z hz => ?_⟩
    · rcases i3 x hx with hx | hx
      · rcases h3 x hx with hx | rfl
        · exact .inl hx
        · exact .inr (by simp)
      · exact .inr (by simp [hx])
    · rcases List.mem_cons.1 hz with rfl | hz
      · exact ⟨y, i2 y hy, hvy⟩
      · exact i4 z hz
/-- what a merged sign has in a period -/
theorem want_alike (per per2 : Int) (x y : List Va) (hx : valsErr per [] x = 0) (_hy : valsErr per2 [] y = 0) (p : Int) : alikeB (wantR (usedV x p) (usedV y p)) (usedV (tidyV (x ++ y)) p) = true := by
  obtain ⟨h1, h2, h3, h4⟩ := want_ok (usedV y p) (usedV x p) (used_apart (vals_apart per x [] hx).2 p)
  obtain ⟨hcan, hcov⟩ := tidiedR_canon [x ++ y]
  have hc : ∀ m q, cov (tidyV (x ++ y)) m q ↔ cov x m q ∨ cov y m q := fun m q => by
    have := hcov m q; rw [← cov_append]; simpa [tidyV] using this
  refine alike_of h1 (used_apart (canon_apart hcan) p) (fun v hv => ?_) (fun v hv => ?_)
  · have hcv : cov x v p ∨ cov y v p := by
      rcases h3 v hv with hv | hv
      · rw [used_mem] at hv; exact .inl ⟨v, hv.1, meq_refl v, hv.2⟩
      · rw [used_mem] at hv; exact .inr ⟨v, hv.1, meq_refl v, hv.2⟩
    obtain ⟨u, hu, hm, hp⟩ := (hc v p).2 hcv
    exact ⟨u, (used_mem _ _ _).2 ⟨hu, hp⟩, meq_symm hm⟩
  · rw [used_mem] at hv
    rcases (hc v p).1 ⟨v, hv.1, meq_refl v, hv.2⟩ with ⟨u, hu, hm, hp⟩ | ⟨u, hu, hm, hp⟩
    · exact ⟨u, h2 u ((used_mem _ _ _).2 ⟨hu, hp⟩), meq_symm hm⟩
    · obtain ⟨z, hz, hz2⟩ := h4 u ((used_mem _ _ _).2 ⟨hu, hp⟩)
      exact ⟨z, hz, meq_trans (meq_symm hm) hz2⟩

end Go.Proofs.YtleihhkacmgofabGreatDoor

/- What a merged sign is made of. -/
namespace Go.Proofs.YtleihhkacmgofabGreatDoor
open Go.RowKit

theorem extra_own_at (l : Li) (h : checkErr l = 0) (c : ByteArray) (hc : hasC l.signs c = true) : ∃ (i : Nat) (t : Sg), findR l c = ((i : Int), 0) ∧ l.signs[i]? = some t ∧ extraV l.signs c = t.vals := by
  obtain ⟨i, t, h1, h2, h3⟩ := indexI_hit l.signs c hc
  refine ⟨i, t, ?_, h2, extra_hit l.signs c (check_all l h).2.2.2.2 i t h2 h3⟩
  unfold findR
  rw [h, if_neg (by simp), h1, if_neg (by omega)]
theorem extra_own_no (l : Li) (h : checkErr l = 0) (c : ByteArray) (hc : hasC l.signs c = false) : findR l c = (0, 3) ∧ extraV l.signs c = [] := by
  refine ⟨?_, extra_none _ _ hc⟩
  unfold findR
  rw [h, if_neg (by simp), indexI_none _ _ hc, if_pos (by omega)]
theorem extra_fine (l : Li) (h : checkErr l = 0) (c : ByteArray) : valsErr l.per [] (extraV l.signs c) = 0 := by
  cases hc : hasC l.signs c with
  | false => rw [extra_none _ _ hc]; rfl
  | true =>
    obtain ⟨i, t, _, h2, h3⟩ := extra_own_at l h c hc
    rw [h3]
    exact ((check_all l h).2.2.2.1 t (List.mem_of_getElem? h2)).2.2.2.2
theorem extra_small (l : Li) (h : checkErr l = 0) (c : ByteArray) : (extraV l.signs c).length ≤ 12 := by
  cases hc : hasC l.signs c with
  | false => rw [extra_none _ _ hc]; simp
  | true =>
    obtain ⟨i, t, _, h2, h3⟩ := extra_own_at l h c hc
    rw [h3]
    exact ((check_all l h).2.2.2.1 t (List.mem_of_getElem? h2)).2.2.2.1
/-- a sign of the merged list -/
theorem merged_vals (a b : Li) (ha : checkErr a = 0) (hb : checkErr b = 0) (s : Sg) (hs : s ∈ (unionL a b).signs) :
    s.vals = tidyV (extraV a.signs s.code ++ extraV b.signs s.code) ∧ (hasC a.signs s.code = true ∨ hasC b.signs s.code = true) := by
  unfold unionL at hs
  obtain ⟨u, hu, rfl⟩ := List.mem_map.1 hs
  unfold unionS at hu
  rcases List.mem_append.1 hu with hu | hu
  · obtain ⟨s0, h0, rfl⟩ := List.mem_map.1 hu
    refine ⟨?_, .inl (List.any_eq_true.2 ⟨s0, h0, (strEq_is _ _).2 rfl⟩)⟩
    show tidyV (s0.vals ++ extraV b.signs s0.code) = tidyV (extraV a.signs s0.code ++ extraV b.signs s0.code)
    rw [extra_own a.signs (check_all a ha).2.2.2.2 s0 h0]
  · unfold newS at hu
    obtain ⟨h1, h2⟩ := List.mem_filter.1 hu
    refine ⟨?_, .inr (List.any_eq_true.2 ⟨u, h1, (strEq_is _ _).2 rfl⟩)⟩
    show tidyV u.vals = tidyV (extraV a.signs u.code ++ extraV b.signs u.code)
    rw [extra_none a.signs u.code (by simpa using h2), extra_own b.signs (check_all b hb).2.2.2.2 u h1, List.nil_append]

end Go.Proofs.YtleihhkacmgofabGreatDoor

/- Contract of the law of what Tidy and Restrict keep: it returns true. -/
namespace Go.Proofs.YtleihhkacmgofabGreatDoor
open Go.RowKit

def largeB (l : Li) : Bool := bigB l.signs || decide (30 < l.signs.length)
theorem large_is (l : Lm) (w : World) (hl : LmOk w l) (r : Bool) (h : largeB l.li = r) :
    Calls Tryz.prog 4 #[l.val] w fun e w' => e = .returned (.bool r) ∧ Below w.heap.size w w' := by
  obtain ⟨W, hW⟩ : ∃ W, W = (w.alloc (.cells #[.int .i64 l.per, .slice l.A l.ms.length l.cap] 24)) := ⟨_, rfl⟩
  have HB := Lib.hid (show Below w.heap.size w W from hW ▸ below_alloc _ _)
  have C1 := Lib.hid (show W.heap[w.heap.size]? = some (.cells #[.int .i64 l.per, .slice l.A l.ms.length l.cap] 24 (0, 0)) by
    rw [hW]; exact heap_alloc_new _ _)
  have HL := Lib.hid (hl.below HB.out)
  have HBG := Lib.hid (fun r (h : bigB l.signs = r) => show Calls Tryz.prog 15 #[.agg #[.int .i64 l.per, .slice l.A l.ms.length l.cap]] W _ from big_is l W HL.out r h)
  have hlen := hl.len
  have hcap := hl.cap
  unfold maxLen at hcap
  clear hl
  show Calls _ _ #[.agg #[.int .i64 l.per, .slice l.A l.ms.length l.cap]] w _
  have hr : r = (bigB l.signs || decide (30 < l.ms.length)) := by
    rw [← h]; unfold largeB
    rw [show l.li.signs = l.signs from rfl, Lm.length_signs]
  obtain ⟨B, hB⟩ : ∃ B, bigB l.signs = B := ⟨_, rfl⟩
  rw [hB] at hr
  have HR := Lib.hid hr
  have HBB := Lib.hid hB
  clear hB hr h
  go_enter Tryz.func4, Tryz.ntmps4
  go_wp2_with fail
  rw [← hW]
  refine (HBG.out B HBB.out).mono ?_; rintro e w1 ⟨rfl, hb1⟩
  have x1 := cell_of_blk (blk_keep hb1 C1.out) 1
  simp at x1
  have HB1 := Lib.hid (HB.out.trans (hb1.mono HB.out.size))
  clear hb1
  cases B with
  | true =>
    have HRT := Lib.hid (show r = true by rw [HR.out]; rfl)
    go_wp2_with fail
    go_ret
    exact ⟨by rw [HRT.out]; rfl, HB1.out⟩
  | false =>
    obtain ⟨n, hn⟩ : ∃ n, n = l.ms.length := ⟨_, rfl⟩
    rw [← hn] at x1 HR hlen ⊢
    clear hn
    have HR2 := Lib.hid (show r = decide ((30 : Int) < (n : Int)) by rw [HR.out, Bool.false_or]; exact decide_eq_decide.2 (by omega))
    go_wp2_with fail
    go_ret
    exact ⟨by rw [HR2.out]; rfl, HB1.out⟩

end Go.Proofs.YtleihhkacmgofabGreatDoor

/- Contract of the law of merged lists: it returns true. -/
namespace Go.Proofs.YtleihhkacmgofabGreatDoor
open Go.RowKit

theorem merge_zero {a b : Li} (ha : checkErr a = 0) (hb : checkErr b = 0) (h : (mergeL a b).2 = 0) : (mergeL a b).1 = unionL a b := by
  unfold mergeL at h ⊢
  rw [ha, hb] at h ⊢
  simp only [ne_eq, not_true_eq_false, if_false] at h ⊢
  split at h
  · simp at h
  · split at h
    · rename_i h1 h2; exact absurd h h2
    · rename_i h1 h2; rw [if_neg h1, if_neg h2]

theorem lm_setM {w : World} {l : Lm} {g : Nat} {n : Int} {A : Option Addr} {k c : Nat} {t : TypeId} (h : LmOk w l) (hg : w.heap[g]? = some (.cells #[.int .i64 n, .slice A k c] t (0, 0))) (o : Nat) (u : Value) : LmOk (w.setCell ⟨g, o, none⟩ u) l := by
  refine ⟨fun j m hj => ?_, h.len, h.cap⟩
  obtain ⟨b, p, hA, hb, hva, hok⟩ := h.signs j m hj
  have hne : b ≠ g := by
    rintro rfl
    have c0 := hva.c0
    rw [cell_of_blk hg] at c0
    rcases hq : p + j * 5 with _ | _ | q
    · rw [hq] at c0; simp at c0
    · rw [hq] at c0; simp at c0
    · rw [hq] at c0; simp at c0
  have hc : ∀ q, (w.setCell ⟨g, o, none⟩ u).cell? ⟨b, q, none⟩ = w.cell? ⟨b, q, none⟩ := fun q => World.cell?_of_block (a := ⟨b, q, none⟩) (heap_setCell_other _ _ _ _ hne)
  exact ⟨b, p, hA, by simpa using hb, ⟨(hc _).trans hva.c0, (hc _).trans hva.c1, (hc _).trans hva.c2, (hc _).trans hva.c3, (hc _).trans hva.c4⟩, smOk_set hok (apart_list hok hg) _ _⟩

/-- the values wanted, while those of the other list are looked at -/
def WantIn (W7 wr : World) (A18 : Option Addr) (Y V : List Va) (A : Option Addr) (n c : Nat) : Prop :=
  Below W7.heap.size W7 wr ∧ OwnVals wr W7.heap.size A c V ∧ n = V.length ∧ ValsAt wr A18 Y ∧ (0 < Y.length → ∀ b o, A18 = some ⟨b, o, none⟩ → b < wr.heap.size ∧ (Value.slice A n c).ownBlock ≠ some b)
theorem WantIn.below {W7 wr w3 : World} {A18 : Option Addr} {Y V : List Va} {A : Option Addr} {n c : Nat} (h : WantIn W7 wr A18 Y V A n c) (hb : Below wr.heap.size wr w3) : WantIn W7 w3 A18 Y V A n c :=
  ⟨below_more h.1 hb, h.2.1.below hb, h.2.2.1, h.2.2.2.1.below hb, fun h0 b o e => ⟨by have := (h.2.2.2.2 h0 b o e).1; have := hb.size; omega, (h.2.2.2.2 h0 b o e).2⟩⟩
theorem WantIn.append {W7 wr w3 : World} {A18 A A' : Option Addr} {Y V : List Va} {n c c' : Nat} {v : Va} {blk : Obj} (h : WantIn W7 wr A18 Y V A n c)
    (own : w3.ownsRow W7.heap.size 43 4 (.slice A' (n + 1) c') (n + 1) (V.flatMap Va.cells ++ v.cells)) (hg : (wr.alloc blk).grownBy w3 (Value.slice A n c).ownBlock)
    (hat : (Value.slice A' (n + 1) c').ownBlock = (Value.slice A n c).ownBlock ∨ (Value.slice A' (n + 1) c').ownBlock = some (wr.alloc blk).heap.size) (hsz : v.text.size ≤ maxLen) :
    WantIn W7 w3 A18 Y (V ++ [v]) A' (n + 1) c' := by
  obtain ⟨h1, h2, h3, h4, h5⟩ := h
  have hs := h1.size
  have hg' : wr.heap.size ≤ w3.heap.size := by have := hg.size; simp at this; omega
  have hlen : (V ++ [v]).length = n + 1 := by simp [h3]
  refine ⟨(h1.alloc hs blk).grown hg (by simp; omega) (fun g hg => ?_), ⟨?_, fun x hx => ?_⟩, hlen.symm, valsAt_blocks h4 hg' (fun h0 b o e hlt => ?_), fun h0 b o e => ⟨?_, ?_⟩⟩
  · have := h2.own.lt g (by rw [← h3]; exact hg); exact this.1
  · rw [hlen, List.flatMap_append]; simpa using own
  · rcases List.mem_append.1 hx with hx | hx
    · exact h2.sz x hx
    · simp at hx; subst hx; exact hsz
  · rw [hg.block _ (by simp; omega) (fun e2 => (h5 h0 b o e).2 e2.symm), heap_alloc_other _ _ _ hlt]
  · have := (h5 h0 b o e).1; omega
  · have h6 := h5 h0 b o e
    rcases hat with hat | hat
    · rw [hat]; exact h6.2
    · rw [hat]; intro e2; injection e2 with e2; simp at e2; omega

theorem wantStep_len (w : List Va) (v : Va) : (wantStep w v).length ≤ w.length + 1 := by unfold wantStep; split <;> simp
theorem want_len (w l : List Va) : (wantR w l).length ≤ w.length + l.length := by
  suffices H : ∀ (l w : List Va), (l.foldl wantStep w).length ≤ w.length + l.length from H l w
  intro l
  induction l with
  | nil => intro w; simp
  | cons v l ih => intro w; have h1 := ih (wantStep w v); have h2 := wantStep_len w v; simp only [List.foldl_cons, List.length_cons]; omega
theorem alike_one_hit {x y : Va} (h : meq x y = true) : alikeB [y] [x] = true := by
  unfold alikeB; simp [meq_comm y x, h]
theorem alike_one_miss (y : Va) : alikeB [y] [] = false := rfl

/-- what Find and the values of a code are in a list in memory -/
theorem code_in (L : Lm) (h : checkErr L.li = 0) (c : ByteArray) : ∃ (i0 e0 : Int), findR L.li c = (i0, e0) ∧
    ((∃ (i : Nat) (u : Sm), i0 = (i : Int) ∧ e0 = 0 ∧ L.ms[i]? = some u ∧ u.s.vals = extraV L.signs c) ∨ (i0 = 0 ∧ e0 = 3 ∧ extraV L.signs c = [] ∧ hasC L.signs c = false)) := by
  cases hc : hasC L.signs c with
  | true =>
    obtain ⟨i, t, h1, h2, h3⟩ := extra_own_at L.li h c hc
    refine ⟨i, 0, h1, .inl ⟨i, ?_⟩⟩
    have h2 : L.signs[i]? = some t := h2
    have h3 : extraV L.signs c = t.vals := h3
    unfold Lm.signs at h2
    rw [List.getElem?_map] at h2
    cases hm : L.ms[i]? with
    | none => rw [hm] at h2; cases h2
    | some u =>
      rw [hm] at h2
      injection h2 with h2
      exact ⟨u, rfl, rfl, rfl, by rw [h3, ← h2]⟩
  | false =>
    obtain ⟨h1, h2⟩ := extra_own_no L.li h c hc
    exact ⟨0, 3, h1, .inr ⟨rfl, rfl, h2, rfl⟩⟩

set_option maxHeartbeats 12800000 in
set_option maxRecDepth 100000 in
theorem law_merged (L M : Lm) (w : World) (hE : Env w) (hl : LmOk w L) (hm : LmOk w M) :
    Calls Tryz.prog 3 #[L.val, M.val] w fun e w' => e = .returned (.bool true) ∧ Below w.heap.size w w' := by
  obtain ⟨W, hW⟩ : ∃ W, W = ((w.alloc (.cells #[.int .i64 L.per, .slice L.A L.ms.length L.cap] 24)).alloc (.cells #[.int .i64 M.per, .slice M.A M.ms.length M.cap] 24)) := ⟨_, rfl⟩
  have HB := Lib.hid (show Below w.heap.size w W from hW ▸ ((Below.refl _ _).alloc (Nat.le_refl _) _).alloc (by simp) _)
  have C1 := Lib.hid (show W.heap[w.heap.size]? = some (.cells #[.int .i64 L.per, .slice L.A L.ms.length L.cap] 24 (0, 0)) by
    rw [hW, heap_alloc_other _ _ _ (by simp)]; exact heap_alloc_new _ _)
  have C2 := Lib.hid (show W.heap[w.heap.size + 1]? = some (.cells #[.int .i64 M.per, .slice M.A M.ms.length M.cap] 24 (0, 0)) by
    rw [hW]; have := heap_alloc_new (w.alloc (.cells #[.int .i64 L.per, .slice L.A L.ms.length L.cap] 24)) (.cells #[.int .i64 M.per, .slice M.A M.ms.length M.cap] 24); simpa using this)
  have HL := Lib.hid (hl.below HB.out)
  have HM := Lib.hid (hm.below HB.out)
  have HE := Lib.hid (hE.below HB.out)
  clear hl hm hE
  obtain ⟨B, hB⟩ : ∃ B, largeB L.li = B := ⟨_, rfl⟩
  obtain ⟨B', hB'⟩ : ∃ B, largeB M.li = B := ⟨_, rfl⟩
  obtain ⟨E, hE⟩ : ∃ E, checkErr L.li = E := ⟨_, rfl⟩
  obtain ⟨E', hE'⟩ : ∃ E, checkErr M.li = E := ⟨_, rfl⟩
  have HBB := Lib.hid hB
  have HBB' := Lib.hid hB'
  have HEE := Lib.hid hE
  have HEE' := Lib.hid hE'
  clear hB hB' hE hE'
  show Calls _ _ #[.agg #[.int .i64 L.per, .slice L.A L.ms.length L.cap], .agg #[.int .i64 M.per, .slice M.A M.ms.length M.cap]] w _
  have HBG := Lib.hid (fun wx (hb : Below W.heap.size W wx) => show Calls Tryz.prog 4 #[.agg #[.int .i64 L.per, .slice L.A L.ms.length L.cap]] wx (fun e w' => e = .returned (.bool B) ∧ Below wx.heap.size wx w') from large_is L wx (HL.out.below hb) B HBB.out)
  have HBM := Lib.hid (fun wx (hb : Below W.heap.size W wx) => show Calls Tryz.prog 4 #[.agg #[.int .i64 M.per, .slice M.A M.ms.length M.cap]] wx (fun e w' => e = .returned (.bool B') ∧ Below wx.heap.size wx w') from large_is M wx (HM.out.below hb) B' HBB'.out)
  have HCK := Lib.hid (fun wx (hb : Below W.heap.size W wx) => show Calls Tryz.prog 5 #[.agg #[.int .i64 L.per, .slice L.A L.ms.length L.cap]] wx (fun e w' => e = .returned (.int .i64 E) ∧ Below wx.heap.size wx w') from rcheck_is L wx (HL.out.below hb) E HEE.out)
  have HCN := Lib.hid (fun wx (hb : Below W.heap.size W wx) => show Calls Tryz.prog 5 #[.agg #[.int .i64 M.per, .slice M.A M.ms.length M.cap]] wx (fun e w' => e = .returned (.int .i64 E') ∧ Below wx.heap.size wx w') from rcheck_is M wx (HM.out.below hb) E' HEE'.out)
  have HWK := Lib.hid (fun w1 (hb : Below W.heap.size W w1) => works_any w1 (HE.out.below hb))
  have HCE := Lib.hid (fun w' (hb : Below W.heap.size W w') => show w'.cell? ⟨w.heap.size, 0, none⟩ = some (.int .i64 L.per) ∧ w'.cell? ⟨w.heap.size, 1, none⟩ = some (.slice L.A L.ms.length L.cap) ∧ w'.cell? ⟨w.heap.size + 1, 0, none⟩ = some (.int .i64 M.per) ∧ w'.cell? ⟨w.heap.size + 1, 1, none⟩ = some (.slice M.A M.ms.length M.cap) from
    ⟨cell_of_blk (blk_keep hb C1.out) 0, cell_of_blk (blk_keep hb C1.out) 1, cell_of_blk (blk_keep hb C2.out) 0, cell_of_blk (blk_keep hb C2.out) 1⟩)
  go_enter Tryz.func3, Tryz.ntmps3
  go_wp2_with fail
  rw [← hW]
  clear hW
  refine (HBG.out W (Below.refl _ _)).mono ?_; rintro e wa ⟨rfl, hb⟩
  have B1 := Lib.hid hb
  obtain ⟨a0, a1, a2, a3⟩ := HCE.out wa hb
  clear hb
  cases B with
  | true =>
    go_wp2_with fail
    refine (HWK.out _ B1.out).mono ?_; rintro e wz ⟨rfl, hbz⟩
    go_wp2
    go_ret
    exact ⟨rfl, HB.out.trans ((below_more B1.out hbz).mono HB.out.size)⟩
  | false =>
  go_wp2_with fail
  refine (HBM.out wa B1.out).mono ?_; rintro e wb ⟨rfl, hb⟩
  have B2 := Lib.hid (below_more B1.out hb)
  clear a0 a1 a2 a3
  obtain ⟨a0, a1, a2, a3⟩ := HCE.out wb B2.out
  clear hb
  cases B' with
  | true =>
    go_wp2_with fail
    refine (HWK.out _ B2.out).mono ?_; rintro e wz ⟨rfl, hbz⟩
    go_wp2
    go_ret
    exact ⟨rfl, HB.out.trans ((below_more B2.out hbz).mono HB.out.size)⟩
  | false =>
  go_wp2_with fail
  refine (HCK.out wb B2.out).mono ?_; rintro e wc ⟨rfl, hb⟩
  have B3 := Lib.hid (below_more B2.out hb)
  clear a0 a1 a2 a3
  obtain ⟨a0, a1, a2, a3⟩ := HCE.out wc B3.out
  clear hb
  by_cases h0 : E = 0
  case neg =>
    have hbE : (E != 0) = true := by simpa using h0
    clear h0
    go_wp2_with fail
    refine (HWK.out _ B3.out).mono ?_; rintro e wz ⟨rfl, hbz⟩
    go_wp2
    go_ret
    exact ⟨rfl, HB.out.trans ((below_more B3.out hbz).mono HB.out.size)⟩
  subst h0
  go_wp2_with fail
  refine (HCN.out wc B3.out).mono ?_; rintro e wd ⟨rfl, hb⟩
  have B4 := Lib.hid (below_more B3.out hb)
  clear a0 a1 a2 a3
  obtain ⟨a0, a1, a2, a3⟩ := HCE.out wd B4.out
  clear hb
  by_cases h0 : E' = 0
  case neg =>
    have hbE : (E' != 0) = true := by simpa using h0
    clear h0
    go_wp2_with fail
    refine (HWK.out _ B4.out).mono ?_; rintro e wz ⟨rfl, hbz⟩
    go_wp2
    go_ret
    exact ⟨rfl, HB.out.trans ((below_more B4.out hbz).mono HB.out.size)⟩
  subst h0
  clear HBG HBM HCK HCN B1 B2 B3
  have HOL := Lib.hid (check_okV L.li HEE.out)
  have HOM := Lib.hid (check_okV M.li HEE'.out)
  have HNL := Lib.hid (show L.ms.length ≤ 200 by have := HOL.out.1; rw [show L.li.signs = L.signs from rfl, Lm.length_signs] at this; exact this)
  have HNM := Lib.hid (show M.ms.length ≤ 200 by have := HOM.out.1; rw [show M.li.signs = M.signs from rfl, Lm.length_signs] at this; exact this)
  have HCL := Lib.hid (fun wx (hb : Below W.heap.size W wx) => show Calls Tryz.prog 8 #[.agg #[.int .i64 L.per, .slice L.A L.ms.length L.cap]] wx (GotList wx L.li) from
    copy_any L wx (HL.out.below hb) (by have := HNL.out; omega) (fun m hm => by have := (HOL.out.2.2.2 m.s (List.mem_map.2 ⟨m, hm, rfl⟩)).1; omega))
  have HCM := Lib.hid (fun wx (hb : Below W.heap.size W wx) => show Calls Tryz.prog 8 #[.agg #[.int .i64 M.per, .slice M.A M.ms.length M.cap]] wx (GotList wx M.li) from
    copy_any M wx (HM.out.below hb) (by have := HNM.out; omega) (fun m hm => by have := (HOM.out.2.2.2 m.s (List.mem_map.2 ⟨m, hm, rfl⟩)).1; omega))
  have HTL := Lib.hid (show tidyL L.li = (⟨L.per, L.signs.map (sgWith tidyV)⟩, 0) by unfold tidyL; rw [HEE.out, if_neg (by simp)]; rfl)
  have HSM := Lib.hid (show smallL ⟨L.per, L.signs.map (sgWith tidyV)⟩ by have := small_tidy L.li; rw [HTL.out] at this; exact this)
  have HSE := Lib.hid (merge_self L.li HEE.out)
  rw [show (⟨L.li.per, L.li.signs.map (sgWith tidyV)⟩ : Li) = ⟨L.per, L.signs.map (sgWith tidyV)⟩ from rfl] at HSE
  obtain ⟨X1, hX1⟩ : ∃ X : Li, X = ⟨L.per, L.signs.map (sgWith tidyV)⟩ := ⟨_, rfl⟩
  rw [← hX1] at HTL HSM HSE
  clear hX1
  have HM0 := Lib.hid (fun wx (P Q : Lm) (h : LmOk wx P) (h2 : LmOk wx Q) => pmerge_any P Q wx h h2)
  have HMG := Lib.hid (fun wx (P Q : Lm) (h : LmOk wx P) (h2 : LmOk wx Q) (e1 : P.li = L.li) (e2 : Q.li = L.li) => show Calls Tryz.prog 7 #[P.val, Q.val] wx (GotListE wx (X1, 0)) by
    rw [← HSE.out]
    have := HM0.out wx P Q h h2
    rw [e1, e2] at this; exact this)
  have HT := Lib.hid (fun wx (P : Lm) (h : LmOk wx P) (hli : P.li = L.li) => show Calls Tryz.prog 9 #[P.val] wx (GotListE wx (X1, 0)) by
    rw [← HTL.out, ← hli]; exact ptidy_any P wx h)
  have HK := Lib.hid (fun w' (hb : Below wd.heap.size wd w') => show w'.cell? ⟨w.heap.size, 0, none⟩ = some (.int .i64 L.per) ∧ w'.cell? ⟨w.heap.size, 1, none⟩ = some (.slice L.A L.ms.length L.cap) ∧ w'.cell? ⟨w.heap.size + 1, 0, none⟩ = some (.int .i64 M.per) ∧ w'.cell? ⟨w.heap.size + 1, 1, none⟩ = some (.slice M.A M.ms.length M.cap) ∧ Below wd.heap.size wd w' from
    ⟨(HCE.out w' (below_more B4.out hb)).1, (HCE.out w' (below_more B4.out hb)).2.1, (HCE.out w' (below_more B4.out hb)).2.2.1, (HCE.out w' (below_more B4.out hb)).2.2.2, hb⟩)
  have HC1 := Lib.hid (fun wx (hb : Below wd.heap.size wd wx) => HCL.out wx (below_more B4.out hb))
  have HC2 := Lib.hid (fun wx (hb : Below wd.heap.size wd wx) => HCL.out wx (below_more B4.out hb))
  go_upto_region 3 with fail
  have HSB := Lib.hid (fun wx (h : wx.cell? ⟨w.heap.size, 0, none⟩ = some (.int .i64 L.per) ∧ wx.cell? ⟨w.heap.size, 1, none⟩ = some (.slice L.A L.ms.length L.cap) ∧ wx.cell? ⟨w.heap.size + 1, 0, none⟩ = some (.int .i64 M.per) ∧ wx.cell? ⟨w.heap.size + 1, 1, none⟩ = some (.slice M.A M.ms.length M.cap) ∧ Below wd.heap.size wd wx) => h.2.2.2.2)
  have HDR := Lib.hid (show Below wd.heap.size wd wd.drew from (Below.refl _ _).drew)
  have HDA := Lib.hid (show Below wd.heap.size wd (wd.alloc (.cells #[.int .i64 0, .slice none 0 0] 24)).drew from ((Below.refl _ _).alloc (Nat.le_refl _) _).drew)
  have BXA := Lib.hid (show (wd.alloc (.cells #[.int .i64 0, .slice none 0 0] 24)).drew.heap[wd.heap.size]? = some (.cells #[.int .i64 0, .slice none 0 0] 24 (0, 0)) from heap_alloc_new wd _)
  go_cut [5, 6] (fun p q wx => ∃ (g : Nat) (P : Lm), p = .pointer (some ⟨g, 0, none⟩) ∧ q = .int .i64 0 ∧ Hid (Below wd.heap.size wd wx) ∧ Hid (wx.heap[g]? = some (.cells #[.int .i64 P.per, .slice P.A P.ms.length P.cap] 24 (0, 0))) ∧ Hid (LmOk wx P) ∧ Hid (P.li = X1))
  case first =>
    go_region_held3 (fun w' => w'.cell? ⟨w.heap.size, 0, none⟩ = some (.int .i64 L.per) ∧ w'.cell? ⟨w.heap.size, 1, none⟩ = some (.slice L.A L.ms.length L.cap) ∧ w'.cell? ⟨w.heap.size + 1, 0, none⟩ = some (.int .i64 M.per) ∧ w'.cell? ⟨w.heap.size + 1, 1, none⟩ = some (.slice M.A M.ms.length M.cap) ∧ Below wd.heap.size wd w')
      (first | (refine HK.out _ ?_; first | assumption | exact HDR.out | exact HDA.out | (refine Below.alloc ?_ ?_ _; assumption; assumption) | (refine Below.setCell (Below.setCell ?_ ?_ _) ?_ _; assumption; (first | exact Nat.le_refl _ | assumption); (first | exact Nat.le_refl _ | assumption))))
      (first
      | (go_at_call 8; ((with_reducible refine (HC1.out _ (HSB.out _ (by assumption))).mono ?_)); clear HC1; rintro e wa ⟨N1, rfl, hok1, hli1, hb1⟩; have hbw1 := below_more (HSB.out _ (by assumption)) hb1; have hsz1 := hbw1.size; (try have ka := blk_keep hb1 BXA.out))
      | (go_at_call 8; ((with_reducible refine (HC2.out _ (HSB.out _ (by assumption))).mono ?_)); clear HC2; rintro e wb ⟨N2, rfl, hok2, hli2, hb2⟩; have hbw2 := below_more (HSB.out _ (by assumption)) hb2; have hsz2 := hbw2.size; (try have hok1b := hok1.below hb2); (try have hok1b := (hok1.below (below_alloc wa (.cells #[.int .i64 0, .slice none 0 0] 24))).below hb2); (try have kb := blk_keep hb2 BXA.out); (try have kb := blk_keep hb2 ka); (try have kb := blk_keep hb2 (heap_alloc_new wa (.cells #[.int .i64 0, .slice none 0 0] 24))))
      | (go_at_call 7; (first | (refine (HMG.out _ N1 N2 (by first | exact hok1 | exact hok1b | exact hok1.below (below_alloc _ _) | exact hok1b.below (below_alloc _ _)) (by first | exact hok2 | exact hok2.below (below_alloc _ _)) hli1 hli2).mono ?_) | (refine (HMG.out _ N2 N1 (by first | exact hok2 | exact hok2.below (below_alloc _ _)) (by first | exact hok1 | exact hok1b | exact hok1.below (below_alloc _ _) | exact hok1b.below (below_alloc _ _)) hli2 hli1).mono ?_)); rintro e w5 ⟨⟨p3, m3, A3, c3⟩, rfl, hok3, hli3, hb3⟩; have hbw3 := below_more (HSB.out _ (by assumption)) hb3; have hsz3 := hbw3.size; unfold Lm.val; dsimp only; (try (have k5 := (by first | exact blk_keep hb3 ka | exact blk_keep hb3 kb | exact blk_keep hb3 (heap_alloc_new wa (.cells #[.int .i64 0, .slice none 0 0] 24)) | exact blk_keep hb3 (heap_alloc_new wb (.cells #[.int .i64 0, .slice none 0 0] 24))); have t0 := cell_of_blk k5 0; have t1 := cell_of_blk k5 1; have t2 := free_of_blk k5 0; have t3 := free_of_blk k5 1; simp at t0 t1))))
    all_goals (
      first
        | (have HC9 := Lib.hid (show ((w5.setCell ⟨wd.heap.size, 0, none⟩ (.int .i64 p3)).setCell ⟨wd.heap.size, 1, none⟩ (.slice A3 m3.length c3)).heap[wd.heap.size]? = some (.cells #[.int .i64 p3, .slice A3 m3.length c3] 24 (0, 0)) by
            rw [heap_setCell_same _ _ _ _ _ _ (heap_setCell_same _ _ _ _ _ _ k5)]; rfl)
           have hx : (w5.setCell ⟨wd.heap.size, 0, none⟩ (.int .i64 p3)).heap[wd.heap.size]? = some (.cells #[.int .i64 p3, .slice none 0 0] 24 (0, 0)) := by
            rw [heap_setCell_same _ _ _ _ _ _ k5]; rfl
           have HO9 := Lib.hid (lm_setM (lm_setM hok3 k5 0 (.int .i64 p3)) hx 1 (.slice A3 m3.length c3))
           have HB9 := Lib.hid ((hbw3.setCell (p := ⟨wd.heap.size, 0, none⟩) (by first | exact Nat.le_refl _ | assumption) (.int .i64 p3)).setCell (p := ⟨wd.heap.size, 1, none⟩) (by first | exact Nat.le_refl _ | assumption) (.slice A3 m3.length c3))
           generalize (w5.setCell ⟨wd.heap.size, 0, none⟩ (.int .i64 p3)).setCell ⟨wd.heap.size, 1, none⟩ (.slice A3 m3.length c3) = W9 at HC9 HO9 HB9 ⊢
           clear hx k5 t0 t1 t2 t3
           go_wp2_with fail
           go_meet
           exact ⟨wd.heap.size, ⟨p3, m3, A3, c3⟩, rfl, rfl, HB9, HC9, HO9, Lib.hid hli3⟩)
        | (have HC9 := Lib.hid (show ((w5.setCell ⟨wa.heap.size, 0, none⟩ (.int .i64 p3)).setCell ⟨wa.heap.size, 1, none⟩ (.slice A3 m3.length c3)).heap[wa.heap.size]? = some (.cells #[.int .i64 p3, .slice A3 m3.length c3] 24 (0, 0)) by
            rw [heap_setCell_same _ _ _ _ _ _ (heap_setCell_same _ _ _ _ _ _ k5)]; rfl)
           have hx : (w5.setCell ⟨wa.heap.size, 0, none⟩ (.int .i64 p3)).heap[wa.heap.size]? = some (.cells #[.int .i64 p3, .slice none 0 0] 24 (0, 0)) := by
            rw [heap_setCell_same _ _ _ _ _ _ k5]; rfl
           have HO9 := Lib.hid (lm_setM (lm_setM hok3 k5 0 (.int .i64 p3)) hx 1 (.slice A3 m3.length c3))
           have HB9 := Lib.hid ((hbw3.setCell (p := ⟨wa.heap.size, 0, none⟩) (by first | exact Nat.le_refl _ | assumption) (.int .i64 p3)).setCell (p := ⟨wa.heap.size, 1, none⟩) (by first | exact Nat.le_refl _ | assumption) (.slice A3 m3.length c3))
           generalize (w5.setCell ⟨wa.heap.size, 0, none⟩ (.int .i64 p3)).setCell ⟨wa.heap.size, 1, none⟩ (.slice A3 m3.length c3) = W9 at HC9 HO9 HB9 ⊢
           clear hx k5 t0 t1 t2 t3
           go_wp2_with fail
           go_meet
           exact ⟨wa.heap.size, ⟨p3, m3, A3, c3⟩, rfl, rfl, HB9, HC9, HO9, Lib.hid hli3⟩)
        | (have HC9 := Lib.hid (show ((w5.setCell ⟨wb.heap.size, 0, none⟩ (.int .i64 p3)).setCell ⟨wb.heap.size, 1, none⟩ (.slice A3 m3.length c3)).heap[wb.heap.size]? = some (.cells #[.int .i64 p3, .slice A3 m3.length c3] 24 (0, 0)) by
            rw [heap_setCell_same _ _ _ _ _ _ (heap_setCell_same _ _ _ _ _ _ k5)]; rfl)
           have hx : (w5.setCell ⟨wb.heap.size, 0, none⟩ (.int .i64 p3)).heap[wb.heap.size]? = some (.cells #[.int .i64 p3, .slice none 0 0] 24 (0, 0)) := by
            rw [heap_setCell_same _ _ _ _ _ _ k5]; rfl
           have HO9 := Lib.hid (lm_setM (lm_setM hok3 k5 0 (.int .i64 p3)) hx 1 (.slice A3 m3.length c3))
           have HB9 := Lib.hid ((hbw3.setCell (p := ⟨wb.heap.size, 0, none⟩) (by first | exact Nat.le_refl _ | assumption) (.int .i64 p3)).setCell (p := ⟨wb.heap.size, 1, none⟩) (by first | exact Nat.le_refl _ | assumption) (.slice A3 m3.length c3))
           generalize (w5.setCell ⟨wb.heap.size, 0, none⟩ (.int .i64 p3)).setCell ⟨wb.heap.size, 1, none⟩ (.slice A3 m3.length c3) = W9 at HC9 HO9 HB9 ⊢
           clear hx k5 t0 t1 t2 t3
           go_wp2_with fail
           go_meet
           exact ⟨wb.heap.size, ⟨p3, m3, A3, c3⟩, rfl, rfl, HB9, HC9, HO9, Lib.hid hli3⟩)
        | (have HC9 := Lib.hid (heap_alloc_new w5 (.cells #[.int .i64 p3, .slice A3 m3.length c3] 24))
           have HO9 := Lib.hid (hok3.below (below_alloc w5 (.cells #[.int .i64 p3, .slice A3 m3.length c3] 24)))
           have HB9 := Lib.hid (hbw3.alloc hsz3 (.cells #[.int .i64 p3, .slice A3 m3.length c3] 24))
           generalize w5.alloc (.cells #[.int .i64 p3, .slice A3 m3.length c3] 24) = W9 at HC9 HO9 HB9 ⊢
           go_wp2_with fail
           go_meet
           exact ⟨w5.heap.size, ⟨p3, m3, A3, c3⟩, rfl, rfl, HB9, HC9, HO9, Lib.hid hli3⟩))
  case rest =>
  clear HC1 HC2 HK HSB HDR HDA BXA a0 a1 a2 a3 HMG
  obtain ⟨g5, P5, rfl, rfl, hb, hg, ho, hli⟩ := hcut
  obtain ⟨we, rfl⟩ : ∃ we, we = wc := ⟨_, rfl⟩
  have B5 := Lib.hid (below_more B4.out hb.out)
  clear hb
  obtain ⟨a0, a1, a2, a3⟩ := HCE.out we B5.out
  go_wp2_with fail
  refine (HCL.out we B5.out).mono ?_; rintro e wf ⟨N, rfl, hokN, hliN, hbN⟩
  go_wp2_with fail
  refine (HT.out _ N hokN hliN).mono ?_; rintro e wg0 ⟨⟨p4, m4, A4, c4⟩, rfl, hok4, hli4, hb4⟩
  have X4 := Lib.hid (heap_alloc_new wg0 (.cells #[.int .i64 p4, .slice A4 m4.length c4] 24))
  have BX4 := Lib.hid (below_alloc wg0 (.cells #[.int .i64 p4, .slice A4 m4.length c4] 24))
  have B56 := Lib.hid (below_more (below_more hbN hb4) BX4.out)
  have HO4 := Lib.hid (hok4.below BX4.out)
  have HI4 := Lib.hid hli4
  have G5 := Lib.hid (blk_keep B56.out hg.out)
  have HO5 := Lib.hid (ho.out.below B56.out)
  have B6 := Lib.hid (below_more B5.out B56.out)
  clear hokN hliN hbN hok4 hli4 hb4 hg ho a0 a1 a2 a3 HT
  unfold Lm.val
  dsimp only
  have b0 := cell_of_blk G5.out 0
  have b1 := cell_of_blk G5.out 1
  simp at b0 b1
  have hs5 : g5 < wg0.heap.size + 1 := by have := (Array.getElem?_eq_some_iff.1 G5.out).1; simpa using this
  have HS1 := Lib.hid (rsame_true P5 ⟨p4, m4, A4, c4⟩ X1 _ HO5.out HO4.out hli.out HI4.out HSM.out)
  unfold Lm.val at HS1
  dsimp only at HS1
  go_wp2_with fail
  refine HS1.out.mono ?_; rintro e wg ⟨rfl, hb⟩
  have B7 := Lib.hid (below_more B6.out hb)
  clear hb HS1 b0 b1 hs5 HO5 HO4 HI4 G5 X4 BX4 B56 B6 hli
  obtain ⟨a0, a1, a2, a3⟩ := HCE.out wg B7.out
  obtain ⟨⟨X2, ex⟩, hq⟩ : ∃ q, q = mergeL L.li M.li := ⟨_, rfl⟩
  have HQ := Lib.hid hq
  have HMG := Lib.hid (fun wx (P Q : Lm) (h : LmOk wx P) (h2 : LmOk wx Q) (e1 : P.li = L.li) (e2 : Q.li = M.li) => show Calls Tryz.prog 7 #[P.val, Q.val] wx (GotListE wx (X2, ex)) by
    rw [HQ.out]
    have := HM0.out wx P Q h h2
    rw [e1, e2] at this; exact this)
  have HC3 := Lib.hid (fun wx (hb : Below wg.heap.size wg wx) => HCL.out wx (below_more B7.out hb))
  have HC4 := Lib.hid (fun wx (hb : Below wg.heap.size wg wx) => HCM.out wx (below_more B7.out hb))
  have HK := Lib.hid (fun w' (hb : Below wg.heap.size wg w') => show w'.cell? ⟨w.heap.size, 0, none⟩ = some (.int .i64 L.per) ∧ w'.cell? ⟨w.heap.size, 1, none⟩ = some (.slice L.A L.ms.length L.cap) ∧ w'.cell? ⟨w.heap.size + 1, 0, none⟩ = some (.int .i64 M.per) ∧ w'.cell? ⟨w.heap.size + 1, 1, none⟩ = some (.slice M.A M.ms.length M.cap) ∧ Below wg.heap.size wg w' from
    ⟨(HCE.out w' (below_more B7.out hb)).1, (HCE.out w' (below_more B7.out hb)).2.1, (HCE.out w' (below_more B7.out hb)).2.2.1, (HCE.out w' (below_more B7.out hb)).2.2.2, hb⟩)
  clear hq HCL HCM HM0
  have HCL := HC3
  have HCM := HC4
  clear HC3 HC4
  go_upto_region 7 with fail
  have HSB := Lib.hid (fun wx (h : wx.cell? ⟨w.heap.size, 0, none⟩ = some (.int .i64 L.per) ∧ wx.cell? ⟨w.heap.size, 1, none⟩ = some (.slice L.A L.ms.length L.cap) ∧ wx.cell? ⟨w.heap.size + 1, 0, none⟩ = some (.int .i64 M.per) ∧ wx.cell? ⟨w.heap.size + 1, 1, none⟩ = some (.slice M.A M.ms.length M.cap) ∧ Below wg.heap.size wg wx) => h.2.2.2.2)
  have HDR := Lib.hid (show Below wg.heap.size wg wg.drew from (Below.refl _ _).drew)
  have HDA := Lib.hid (show Below wg.heap.size wg (wg.alloc (.cells #[.int .i64 0, .slice none 0 0] 24)).drew from ((Below.refl _ _).alloc (Nat.le_refl _) _).drew)
  have BXA := Lib.hid (show (wg.alloc (.cells #[.int .i64 0, .slice none 0 0] 24)).drew.heap[wg.heap.size]? = some (.cells #[.int .i64 0, .slice none 0 0] 24 (0, 0)) from heap_alloc_new wg _)
  go_cut [9, 10] (fun p q wx => ∃ (g : Nat) (P : Lm), p = .pointer (some ⟨g, 0, none⟩) ∧ q = .int .i64 ex ∧ Hid (Below wg.heap.size wg wx) ∧ Hid (wx.heap[g]? = some (.cells #[.int .i64 P.per, .slice P.A P.ms.length P.cap] 24 (0, 0))) ∧ Hid (LmOk wx P) ∧ Hid (P.li = X2))
  case first =>
    go_region_held3 (fun w' => w'.cell? ⟨w.heap.size, 0, none⟩ = some (.int .i64 L.per) ∧ w'.cell? ⟨w.heap.size, 1, none⟩ = some (.slice L.A L.ms.length L.cap) ∧ w'.cell? ⟨w.heap.size + 1, 0, none⟩ = some (.int .i64 M.per) ∧ w'.cell? ⟨w.heap.size + 1, 1, none⟩ = some (.slice M.A M.ms.length M.cap) ∧ Below wg.heap.size wg w')
      (first | (refine HK.out _ ?_; first | assumption | exact HDR.out | exact HDA.out | (refine Below.alloc ?_ ?_ _; assumption; assumption) | (refine Below.setCell (Below.setCell ?_ ?_ _) ?_ _; assumption; (first | exact Nat.le_refl _ | assumption); (first | exact Nat.le_refl _ | assumption))))
      (first
      | (go_at_call 8; ((with_reducible refine (HCL.out _ (HSB.out _ (by assumption))).mono ?_)); rintro e wa ⟨N1, rfl, hok1, hli1, hb1⟩; have hbw1 := below_more (HSB.out _ (by assumption)) hb1; have hsz1 := hbw1.size; (try have hok2a := hok2.below hb1); (try have hok2a := (hok2.below (below_alloc wb (.cells #[.int .i64 0, .slice none 0 0] 24))).below hb1); (try have ka := blk_keep hb1 BXA.out); (try have ka := blk_keep hb1 kb); (try have ka := blk_keep hb1 (heap_alloc_new wb (.cells #[.int .i64 0, .slice none 0 0] 24))))
      | (go_at_call 8; ((with_reducible refine (HCM.out _ (HSB.out _ (by assumption))).mono ?_)); rintro e wb ⟨N2, rfl, hok2, hli2, hb2⟩; have hbw2 := below_more (HSB.out _ (by assumption)) hb2; have hsz2 := hbw2.size; (try have hok1b := hok1.below hb2); (try have hok1b := (hok1.below (below_alloc wa (.cells #[.int .i64 0, .slice none 0 0] 24))).below hb2); (try have kb := blk_keep hb2 BXA.out); (try have kb := blk_keep hb2 ka); (try have kb := blk_keep hb2 (heap_alloc_new wa (.cells #[.int .i64 0, .slice none 0 0] 24))))
      | (go_at_call 7; (refine (HMG.out _ N1 N2 (by first | exact hok1 | exact hok1b | exact hok1.below (below_alloc _ _) | exact hok1b.below (below_alloc _ _)) (by first | exact hok2 | exact hok2a | exact hok2.below (below_alloc _ _) | exact hok2a.below (below_alloc _ _)) hli1 hli2).mono ?_); rintro e w5 ⟨⟨p3, m3, A3, c3⟩, rfl, hok3, hli3, hb3⟩; have hbw3 := below_more (HSB.out _ (by assumption)) hb3; have hsz3 := hbw3.size; unfold Lm.val; dsimp only; (try (have k5 := (by first | exact blk_keep hb3 ka | exact blk_keep hb3 kb | exact blk_keep hb3 (heap_alloc_new wa (.cells #[.int .i64 0, .slice none 0 0] 24)) | exact blk_keep hb3 (heap_alloc_new wb (.cells #[.int .i64 0, .slice none 0 0] 24))); have t0 := cell_of_blk k5 0; have t1 := cell_of_blk k5 1; have t2 := free_of_blk k5 0; have t3 := free_of_blk k5 1; simp at t0 t1))))
    all_goals (
      first
        | (have HC9 := Lib.hid (show ((w5.setCell ⟨wg.heap.size, 0, none⟩ (.int .i64 p3)).setCell ⟨wg.heap.size, 1, none⟩ (.slice A3 m3.length c3)).heap[wg.heap.size]? = some (.cells #[.int .i64 p3, .slice A3 m3.length c3] 24 (0, 0)) by
            rw [heap_setCell_same _ _ _ _ _ _ (heap_setCell_same _ _ _ _ _ _ k5)]; rfl)
           have hx : (w5.setCell ⟨wg.heap.size, 0, none⟩ (.int .i64 p3)).heap[wg.heap.size]? = some (.cells #[.int .i64 p3, .slice none 0 0] 24 (0, 0)) := by
            rw [heap_setCell_same _ _ _ _ _ _ k5]; rfl
           have HO9 := Lib.hid (lm_setM (lm_setM hok3 k5 0 (.int .i64 p3)) hx 1 (.slice A3 m3.length c3))
           have HB9 := Lib.hid ((hbw3.setCell (p := ⟨wg.heap.size, 0, none⟩) (by first | exact Nat.le_refl _ | assumption) (.int .i64 p3)).setCell (p := ⟨wg.heap.size, 1, none⟩) (by first | exact Nat.le_refl _ | assumption) (.slice A3 m3.length c3))
           generalize (w5.setCell ⟨wg.heap.size, 0, none⟩ (.int .i64 p3)).setCell ⟨wg.heap.size, 1, none⟩ (.slice A3 m3.length c3) = W9 at HC9 HO9 HB9 ⊢
           clear hx k5 t0 t1 t2 t3
           go_wp2_with fail
           go_meet
           exact ⟨wg.heap.size, ⟨p3, m3, A3, c3⟩, rfl, rfl, HB9, HC9, HO9, Lib.hid hli3⟩)
        | (have HC9 := Lib.hid (show ((w5.setCell ⟨wa.heap.size, 0, none⟩ (.int .i64 p3)).setCell ⟨wa.heap.size, 1, none⟩ (.slice A3 m3.length c3)).heap[wa.heap.size]? = some (.cells #[.int .i64 p3, .slice A3 m3.length c3] 24 (0, 0)) by
            rw [heap_setCell_same _ _ _ _ _ _ (heap_setCell_same _ _ _ _ _ _ k5)]; rfl)
           have hx : (w5.setCell ⟨wa.heap.size, 0, none⟩ (.int .i64 p3)).heap[wa.heap.size]? = some (.cells #[.int .i64 p3, .slice none 0 0] 24 (0, 0)) := by
            rw [heap_setCell_same _ _ _ _ _ _ k5]; rfl
           have HO9 := Lib.hid (lm_setM (lm_setM hok3 k5 0 (.int .i64 p3)) hx 1 (.slice A3 m3.length c3))
           have HB9 := Lib.hid ((hbw3.setCell (p := ⟨wa.heap.size, 0, none⟩) (by first | exact Nat.le_refl _ | assumption) (.int .i64 p3)).setCell (p := ⟨wa.heap.size, 1, none⟩) (by first | exact Nat.le_refl _ | assumption) (.slice A3 m3.length c3))
           generalize (w5.setCell ⟨wa.heap.size, 0, none⟩ (.int .i64 p3)).setCell ⟨wa.heap.size, 1, none⟩ (.slice A3 m3.length c3) = W9 at HC9 HO9 HB9 ⊢
           clear hx k5 t0 t1 t2 t3
           go_wp2_with fail
           go_meet
           exact ⟨wa.heap.size, ⟨p3, m3, A3, c3⟩, rfl, rfl, HB9, HC9, HO9, Lib.hid hli3⟩)
        | (have HC9 := Lib.hid (show ((w5.setCell ⟨wb.heap.size, 0, none⟩ (.int .i64 p3)).setCell ⟨wb.heap.size, 1, none⟩ (.slice A3 m3.length c3)).heap[wb.heap.size]? = some (.cells #[.int .i64 p3, .slice A3 m3.length c3] 24 (0, 0)) by
            rw [heap_setCell_same _ _ _ _ _ _ (heap_setCell_same _ _ _ _ _ _ k5)]; rfl)
           have hx : (w5.setCell ⟨wb.heap.size, 0, none⟩ (.int .i64 p3)).heap[wb.heap.size]? = some (.cells #[.int .i64 p3, .slice none 0 0] 24 (0, 0)) := by
            rw [heap_setCell_same _ _ _ _ _ _ k5]; rfl
           have HO9 := Lib.hid (lm_setM (lm_setM hok3 k5 0 (.int .i64 p3)) hx 1 (.slice A3 m3.length c3))
           have HB9 := Lib.hid ((hbw3.setCell (p := ⟨wb.heap.size, 0, none⟩) (by first | exact Nat.le_refl _ | assumption) (.int .i64 p3)).setCell (p := ⟨wb.heap.size, 1, none⟩) (by first | exact Nat.le_refl _ | assumption) (.slice A3 m3.length c3))
           generalize (w5.setCell ⟨wb.heap.size, 0, none⟩ (.int .i64 p3)).setCell ⟨wb.heap.size, 1, none⟩ (.slice A3 m3.length c3) = W9 at HC9 HO9 HB9 ⊢
           clear hx k5 t0 t1 t2 t3
           go_wp2_with fail
           go_meet
           exact ⟨wb.heap.size, ⟨p3, m3, A3, c3⟩, rfl, rfl, HB9, HC9, HO9, Lib.hid hli3⟩)
        | (have HC9 := Lib.hid (heap_alloc_new w5 (.cells #[.int .i64 p3, .slice A3 m3.length c3] 24))
           have HO9 := Lib.hid (hok3.below (below_alloc w5 (.cells #[.int .i64 p3, .slice A3 m3.length c3] 24)))
           have HB9 := Lib.hid (hbw3.alloc hsz3 (.cells #[.int .i64 p3, .slice A3 m3.length c3] 24))
           generalize w5.alloc (.cells #[.int .i64 p3, .slice A3 m3.length c3] 24) = W9 at HC9 HO9 HB9 ⊢
           go_wp2_with fail
           go_meet
           exact ⟨w5.heap.size, ⟨p3, m3, A3, c3⟩, rfl, rfl, HB9, HC9, HO9, Lib.hid hli3⟩))
  case rest =>
  clear HCL HCM HK HSB HDR HDA BXA a0 a1 a2 a3 HMG
  obtain ⟨g9, ⟨p9, m9, A9, c9⟩, rfl, rfl, hb, hg, ho, hli⟩ := hcut
  obtain ⟨W7, rfl⟩ : ∃ W7, W7 = wc := ⟨_, rfl⟩
  have B8 := Lib.hid (below_more B7.out hb.out)
  dsimp only at hg
  clear hb B7
  by_cases h0 : ex = 0
  case neg =>
    have hbE : (ex != 0) = true := by simpa using h0
    clear h0
    go_wp2_with fail
    refine (HWK.out _ B8.out).mono ?_; rintro e wz ⟨rfl, hbz⟩
    go_wp2
    go_ret
    exact ⟨rfl, HB.out.trans ((below_more B8.out hbz).mono HB.out.size)⟩
  subst h0
  have HX2 := Lib.hid (show m9.map (·.s) = (unionL L.li M.li).signs by
    have h1 : (mergeL L.li M.li).1 = unionL L.li M.li := merge_zero HEE.out HEE'.out (by rw [← HQ.out])
    rw [← HQ.out] at h1
    dsimp only at h1
    rw [← h1, ← hli.out]; rfl)
  have HOW := Lib.hid ho.out
  have G9 := Lib.hid hg.out
  have hcapL := HL.out.cap
  have hlenL := HL.out.len
  have hcapM := HM.out.cap
  have hlenM := HM.out.len
  have hc9 := HOW.out.cap
  have hl9 := HOW.out.len
  unfold maxLen at hcapL hcapM hc9
  dsimp only at hc9 hl9
  obtain ⟨n, hn⟩ : ∃ n, n = m9.length := ⟨_, rfl⟩
  have HN := Lib.hid hn
  rw [← hn] at hl9
  have G9' := Lib.hid (show W7.heap[g9]? = some (.cells #[.int .i64 p9, .slice A9 n c9] 24 (0, 0)) by rw [hn]; exact G9.out)
  clear hg ho hli HQ hn G9
  have hg9 : g9 < W7.heap.size := (Array.getElem?_eq_some_iff.1 G9'.out).1
  have hs1 : w.heap.size + 1 < W7.heap.size := (Array.getElem?_eq_some_iff.1 (blk_keep B8.out C2.out)).1
  go_wp2_with fail
  go_loopw [11] (fun i wr => ∃ q : Nat, 1 ≤ q ∧ q ≤ 10 ∧ i = .int .i64 q ∧ Hid (Below W7.heap.size W7 wr)) (fun i _ => 10 - (intOf i).toNat)
  case atStart => exact ⟨1, by omega, by omega, rfl, Lib.hid (Below.refl _ _)⟩
  case round =>
    obtain ⟨q, hq1, hq2, rfl, hrl⟩ := hrel
    have HWq := Lib.hid hrl.out
    clear hrl
    by_cases hlt : q ≤ 9
    case neg =>
      go_wp2_with fail
      refine (HWK.out _ (below_more B8.out HWq.out)).mono ?_; rintro e wz ⟨rfl, hbz⟩
      go_wp2
      go_ret
      exact ⟨rfl, HB.out.trans ((below_more (below_more B8.out HWq.out) hbz).mono HB.out.size)⟩
    have hdq : decide ((q : Int) ≤ 9) = true := decide_eq_true (by omega)
    go_wp2_with fail
    obtain ⟨wo, rfl⟩ : ∃ wo : World, wo = wr := ⟨_, rfl⟩
    go_loopw [12] (fun j wr => ∃ k : Nat, k ≤ n ∧ j = .int .i64 k ∧ Hid (Below W7.heap.size W7 wr)) (fun j _ => n - (intOf j).toNat)
    case atStart => exact ⟨0, Nat.zero_le _, rfl, HWq⟩
    case round =>
      obtain ⟨k, hk, rfl, hrl⟩ := hrel
      have HW := Lib.hid hrl.out
      clear hrl
      have x1 := cell_of_blk (blk_keep HW.out G9'.out) 1
      simp at x1
      have hs9 : g9 < wr.heap.size := by have := HW.out.size; omega
      have hs2 : w.heap.size + 1 < wr.heap.size := by have := HW.out.size; omega
      have hs3 : w.heap.size < wr.heap.size := by omega
      by_cases hlk : k < n
      case neg =>
        obtain rfl : k = n := by omega
        go_wp2_with fail
        go_roundw
        case rel => exact ⟨q + 1, by omega, by omega, by go_num, HW⟩
        case measure => simp [intOf]; omega
      have hget : m9[k]? = some (m9[k]'(by have := HN.out; omega)) := List.getElem?_eq_getElem _
      obtain ⟨u, hu⟩ : ∃ u, u = m9[k]'(by have := HN.out; omega) := ⟨_, rfl⟩
      rw [← hu] at hget
      obtain ⟨b, o, hA, hb1, hva, huo⟩ := HOW.out.signs k u hget
      dsimp only at hA
      subst hA
      have HUS := Lib.hid (show u.s ∈ (unionL L.li M.li).signs by rw [← HX2.out]; exact List.mem_map.2 ⟨u, List.mem_of_getElem? hget, rfl⟩)
      have HVA := Lib.hid (And.intro hb1 hva)
      have HUO := Lib.hid huo
      have HVV := Lib.hid (merged_vals L.li M.li HEE.out HEE'.out u.s HUS.out)
      obtain ⟨i0, e0, hfa, hda⟩ := code_in L HEE.out u.s.code
      obtain ⟨i1, e1, hfb, hdb⟩ := code_in M HEE'.out u.s.code
      have HDA := Lib.hid hda
      have HDB := Lib.hid hdb
      have HXS := Lib.hid (extra_small L.li HEE.out u.s.code)
      have HYS := Lib.hid (extra_small M.li HEE'.out u.s.code)
      have HXF := Lib.hid (extra_fine L.li HEE.out u.s.code)
      have HYF := Lib.hid (extra_fine M.li HEE'.out u.s.code)
      rw [show L.li.signs = L.signs from rfl] at HVV HXS HXF
      rw [show M.li.signs = M.signs from rfl] at HVV HYS HYF
      have HOR := Lib.hid (show e0 = 0 ∨ e1 = 0 by
        rcases HDA.out with ⟨_, _, _, h, _⟩ | ⟨_, _, _, h⟩
        · exact .inl h
        · rcases HDB.out with ⟨_, _, _, h', _⟩ | ⟨_, _, _, h'⟩
          · exact .inr h'
          · rcases HVV.out.2 with h2 | h2
            · rw [h] at h2; cases h2
            · rw [h'] at h2; cases h2)
      have HVV1 := Lib.hid HVV.out.1
      obtain ⟨xs, hxs⟩ : ∃ xs, xs = extraV L.signs u.s.code := ⟨_, rfl⟩
      obtain ⟨ys, hys⟩ : ∃ ys, ys = extraV M.signs u.s.code := ⟨_, rfl⟩
      rw [← hxs] at HVV1 HDA HXS HXF
      rw [← hys] at HVV1 HDB HYS HYF
      have HFA := Lib.hid (fun wx (hb : Below W7.heap.size W7 wx) => show Calls Tryz.prog 11 #[.agg #[.int .i64 L.per, .slice L.A L.ms.length L.cap], .string u.s.code] wx (fun e w' => e = .returned (.tuple #[.int .i64 i0, .int .i64 e0]) ∧ Below wx.heap.size wx w') by
        have := rfind_any L u.s.code wx (HL.out.below (below_more B8.out hb))
        rw [hfa] at this; exact this)
      have HFB := Lib.hid (fun wx (hb : Below W7.heap.size W7 wx) => show Calls Tryz.prog 11 #[.agg #[.int .i64 M.per, .slice M.A M.ms.length M.cap], .string u.s.code] wx (fun e w' => e = .returned (.tuple #[.int .i64 i1, .int .i64 e1]) ∧ Below wx.heap.size wx w') by
        have := rfind_any M u.s.code wx (HM.out.below (below_more B8.out hb))
        rw [hfb] at this; exact this)
      have HIU := Lib.hid (fun wx (hb : Below W7.heap.size W7 wx) => show Calls Tryz.prog 12 #[.agg #[.string u.s.code, .int .i64 u.s.wide, .int .i64 u.s.high, .bool u.s.even, .slice u.A u.s.vals.length u.cap], .int .i64 q] wx (GotValsF wx (usedV u.s.vals q)) from
        ruseF_any u q wx (HUO.out.below hb) (by
          rw [HVV1.out]
          have h1 := tidyV_short (xs ++ ys) (fun v hv => by
            rcases List.mem_append.1 hv with hv | hv
            · exact (vals_all _ _ _ HXF.out v hv).2.2.2.1
            · exact (vals_all _ _ _ HYF.out v hv).2.2.2.1)
          have := HXS.out; have := HYS.out
          rw [List.length_append] at h1; omega))
      have HAL := Lib.hid (show alikeB (wantR (usedV xs q) (usedV ys q)) (usedV u.s.vals q) = true by rw [HVV1.out]; exact want_alike _ _ _ _ HXF.out HYF.out q)
      have HUL := Lib.hid (show (usedV u.s.vals q).length ≤ 1000000 by
        have h0 := used_len u.s.vals q
        rw [HVV1.out] at h0 ⊢
        have h1 := tidyV_short (xs ++ ys) (fun v hv => by
            rcases List.mem_append.1 hv with hv | hv
            · exact (vals_all _ _ _ HXF.out v hv).2.2.2.1
            · exact (vals_all _ _ _ HYF.out v hv).2.2.2.1)
        have := HXS.out; have := HYS.out
        rw [List.length_append] at h1; omega)
      clear hu hget hva huo hb1 hda hdb hfa hfb hxs hys HVV
      obtain ⟨y0, y1, y2, y3, y4⟩ := HVA.out.2.below HW.out HVA.out.1
      have hsb : b < wr.heap.size := by have := HW.out.size; have := HVA.out.1; omega
      obtain ⟨a0, a1, a2, a3⟩ := HCE.out wr (below_more B8.out HW.out)
      go_wp2_with fail
      refine wp_region_later (by kernel_rfl) (by kernel_rfl) ?_; (repeat (first | go_big_quiet_step (((go_at_call 11; exact Calls.later _ (HFA.out _ (below_more HW.out (Later.below _)))))) | quiet_step (((go_at_call 11; exact Calls.later _ (HFA.out _ (below_more HW.out (Later.below _)))))))); refine wpQuiet_nil ?_; rintro _ ⟨s, rfl⟩
      have H1 := Lib.hid (below_more HW.out s.below)
      generalize s.w = wp at H1 ⊢
      clear a0 a1 a2 a3 x1 y0 y1 y2 y3 y4 hs9 hs2 hs3 hsb
      have x1 := cell_of_blk (blk_keep H1.out G9'.out) 1
      simp at x1
      have hs9 : g9 < wp.heap.size := by have := H1.out.size; omega
      have hs2 : w.heap.size + 1 < wp.heap.size := by have := H1.out.size; omega
      have hs3 : w.heap.size < wp.heap.size := by omega
      obtain ⟨y0, y1, y2, y3, y4⟩ := HVA.out.2.below H1.out HVA.out.1
      have hsb : b < wp.heap.size := by have := H1.out.size; have := HVA.out.1; omega
      obtain ⟨a0, a1, a2, a3⟩ := HCE.out wp (below_more B8.out H1.out)
      go_wp2_with fail
      refine wp_region_later (by kernel_rfl) (by kernel_rfl) ?_; (repeat (first | go_big_quiet_step (((go_at_call 11; exact Calls.later _ (HFB.out _ (below_more H1.out (Later.below _)))))) | quiet_step (((go_at_call 11; exact Calls.later _ (HFB.out _ (below_more H1.out (Later.below _)))))))); refine wpQuiet_nil ?_; rintro _ ⟨s, rfl⟩
      have H2 := Lib.hid (below_more H1.out s.below)
      generalize s.w = wq at H2 ⊢
      clear a0 a1 a2 a3 x1 y0 y1 y2 y3 y4 hs9 hs2 hs3 hsb HFA HFB H1
      have hs2 : w.heap.size + 1 < wq.heap.size := by have := H2.out.size; omega
      have hs3 : w.heap.size < wq.heap.size := by omega
      go_upto_if 108 with fail
      go_cut [13] (fun v wx => ∃ (A : Option Addr) (n c : Nat), v = .slice A n c ∧ Hid (Below W7.heap.size W7 wx) ∧ Hid (OwnVals wx W7.heap.size A c (usedV xs q)) ∧ Hid (n = (usedV xs q).length))
      case first =>
        rcases HDA.out with ⟨i, ua, rfl, rfl, hgi, hvx⟩ | ⟨rfl, rfl, hvx, -⟩
        · obtain ⟨a0, a1, -, -⟩ := HCE.out wq (below_more B8.out H2.out)
          obtain ⟨b', o', hA', hb1', hva', huo'⟩ := HL.out.signs i ua hgi
          have hiN : i < L.ms.length := (List.getElem?_eq_some_iff.1 hgi).1
          rw [hA'] at a1
          have hBq := Lib.hid (below_more B8.out H2.out)
          obtain ⟨y0, y1, y2, y3, y4⟩ := hva'.below hBq.out hb1'
          have hsb' : b' < wq.heap.size := by have := hBq.out.size; omega
          have HVX := Lib.hid hvx
          have HIN := Lib.hid (ruseR_any ua q wq (huo'.below hBq.out) (by rw [hvx]; have := HXS.out; omega))
          have HSZ := Lib.hid (used_sizes (huo'.below hBq.out).vals q)
          rw [HVX.out] at HIN HSZ
          unfold Sm.val at HIN
          clear hgi hva' huo' hvx hb1' hA'
          go_wp2_with fail
          refine HIN.out.mono ?_; rintro e w8 ⟨A8, c8, rfl, hown, hb8⟩
          have HR := Lib.hid (And.intro hown hb8)
          clear hown hb8 a0 a1 y0 y1 y2 y3 y4
          go_wp2_with fail
          go_meet
          exact ⟨A8, _, c8, rfl, Lib.hid (below_more H2.out HR.out.2), Lib.hid ⟨own_base HR.out.1 H2.out.size, HSZ.out⟩, Lib.hid rfl⟩
        · have h30 : ((3 : Int) == 0) = false := rfl
          go_wp2_with fail
          go_meet
          exact ⟨none, 0, 0, rfl, H2, Lib.hid (by rw [hvx]; exact ⟨World.ownsRow_nil _ _ _ _, fun v hv => by cases hv⟩), Lib.hid (by rw [hvx]; rfl)⟩
      case rest =>
      obtain ⟨A3, n3, c3, rfl, H3, HO3, HN3⟩ := hcut
      obtain ⟨ws, rfl⟩ : ∃ ws, ws = wc := ⟨_, rfl⟩
      clear H2 hs2 hs3
      have hs2 : w.heap.size + 1 < ws.heap.size := by have := H3.out.size; omega
      have hs3 : w.heap.size < ws.heap.size := by omega
      have HXN := Lib.hid (show (usedV xs q).length ≤ 12 by have := used_len xs q; have := HXS.out; omega)
      have HYN := Lib.hid (show (usedV ys q).length ≤ 12 by have := used_len ys q; have := HYS.out; omega)
      go_upto_if 117 with fail
      go_cut [13] (fun v wx => ∃ (A : Option Addr) (n c : Nat), v = .slice A n c ∧ Hid (Below W7.heap.size W7 wx) ∧ Hid (OwnVals wx W7.heap.size A c (wantR (usedV xs q) (usedV ys q))) ∧ Hid (n = (wantR (usedV xs q) (usedV ys q)).length))
      case first =>
        rcases HDB.out with ⟨i, ua, rfl, rfl, hgi, hvx⟩ | ⟨rfl, rfl, hvx, -⟩
        · obtain ⟨-, -, a2, a3⟩ := HCE.out ws (below_more B8.out H3.out)
          obtain ⟨b', o', hA', hb1', hva', huo'⟩ := HM.out.signs i ua hgi
          have hiN : i < M.ms.length := (List.getElem?_eq_some_iff.1 hgi).1
          rw [hA'] at a3
          have hBq := Lib.hid (below_more B8.out H3.out)
          obtain ⟨y0, y1, y2, y3, y4⟩ := hva'.below hBq.out hb1'
          have hsb' : b' < ws.heap.size := by have := hBq.out.size; omega
          have HVX := Lib.hid hvx
          have HIN := Lib.hid (ruseR_any ua q ws (huo'.below hBq.out) (by rw [hvx]; have := HYS.out; omega))
          have HSZ := Lib.hid (used_sizes (huo'.below hBq.out).vals q)
          rw [HVX.out] at HIN HSZ
          unfold Sm.val at HIN
          clear hgi hva' huo' hvx hb1' hA'
          obtain ⟨Y, hY⟩ : ∃ Y, Y = usedV ys q := ⟨_, rfl⟩
          obtain ⟨X, hX⟩ : ∃ X, X = usedV xs q := ⟨_, rfl⟩
          have HYY := Lib.hid hY
          have HXX := Lib.hid hX
          rw [← hY] at HIN HSZ HYN
          rw [← hX] at HO3 HN3 HXN
          clear hX hY
          obtain ⟨m, hm⟩ : ∃ m, m = Y.length := ⟨_, rfl⟩
          have HMM := Lib.hid hm
          have hm12 : m ≤ 12 := by rw [hm]; exact HYN.out
          rw [← hm] at HIN
          clear hm
          go_wp2_with fail
          refine HIN.out.mono ?_; rintro e w8 ⟨A18, c18, rfl, hown, hb8⟩
          have HR := Lib.hid hown
          have HR8 := Lib.hid hb8
          have HV18 := Lib.hid (own_vals (vs := Y) (A := A18) (c := c18) (base := ws.heap.size) (by rw [← HMM.out]; exact HR.out) HSZ.out)
          have hc18 : m ≤ c18 := by have := HV18.out.2.1; rw [← HMM.out] at this; exact this
          have hm18 : c18 ≤ 9223372036854775807 := by have := HV18.out.2.2.1; unfold maxLen at this; omega
          clear hown hb8 a2 a3 y0 y1 y2 y3 y4 HIN hs2 hs3
          obtain ⟨iv, hiv, hzv, hsv, hbv⟩ := info_hid infoVa
          go_wp2_with fail
          go_loopw [13, 19] (fun v j wr => ∃ (k : Nat) (A : Option Addr) (n c : Nat), k ≤ m ∧ n ≤ 24 ∧ j = .int .i64 k ∧ v = .slice A n c ∧ Hid (WantIn W7 wr A18 Y (wantR X (Y.take k)) A n c)) (fun _ j _ => m - (intOf j).toNat)
          case atStart =>
            refine ⟨0, A3, n3, c3, Nat.zero_le _, by have := HN3.out; have := HXN.out; omega, rfl, rfl, Lib.hid ⟨below_more H3.out HR8.out, by simpa [wantR] using HO3.out.below HR8.out, by simpa [wantR] using HN3.out, HV18.out.1, fun h0 b o e => ?_⟩⟩
            have h1 := HV18.out.2.2.2 b o e
            obtain ⟨y, hy⟩ : ∃ y, Y[0]? = some y := ⟨_, List.getElem?_eq_getElem h0⟩
            obtain ⟨b2, o2, e2, hlt2, _⟩ := HV18.out.1 0 y hy
            rw [e] at e2; injection e2 with e2; injection e2 with e2 _
            refine ⟨by omega, fun e3 => ?_⟩
            have h3 := HO3.out.own.lt b (by rw [← HN3.out]; exact e3)
            omega
          case round =>
            obtain ⟨k2, A, n4, c4, hk2, hn4, rfl, rfl, hrl⟩ := hrel
            have HWI := Lib.hid hrl.out
            clear hrl
            by_cases hlt2 : k2 < m
            case neg =>
              obtain rfl : k2 = m := by omega
              have HT := Lib.hid (show Y.take k2 = Y by rw [HMM.out, List.take_length])
              go_wp2_with fail
              go_meet
              exact ⟨A, n4, c4, rfl, Lib.hid HWI.out.1, Lib.hid (by have := HWI.out.2.1; rw [HT.out, HXX.out, HYY.out] at this; exact this), Lib.hid (by have := HWI.out.2.2.1; rw [HT.out, HXX.out, HYY.out] at this; exact this)⟩
            have hgy : Y[k2]? = some (Y[k2]'(by have := HMM.out; omega)) := List.getElem?_eq_getElem _
            obtain ⟨y, hy⟩ : ∃ y, y = Y[k2]'(by have := HMM.out; omega) := ⟨_, rfl⟩
            rw [← hy] at hgy
            obtain ⟨b8, o8, hA8, hb8, hva8⟩ := HWI.out.2.2.2.1 k2 y hgy
            have GY := Lib.hid hgy
            have HSY := Lib.hid hva8.sz
            subst hA8
            obtain ⟨z0, z1, z2, z3, -⟩ := hva8
            obtain ⟨V, hV⟩ : ∃ V, V = wantR X (Y.take k2) := ⟨_, rfl⟩
            have HST := Lib.hid (show wantR X (Y.take (k2 + 1)) = wantStep V y by rw [take_step _ _ _ GY.out, want_snoc, hV])
            rw [← hV] at HWI
            have HVN := Lib.hid (show n4 = V.length from HWI.out.2.2.1)
            have HOV := Lib.hid HWI.out.2.1.vals
            have HYA := Lib.hid (show ValsAt wr (some ⟨b8, o8 + k2 * 4, none⟩) [y] from HWI.out.2.2.2.1.sub GY.out)
            have HFD := Lib.hid (fun wx (hb : Below wr.heap.size wr wx) => show Calls Tryz.prog 14 #[.slice A n4 c4, .agg #[.int .i64 y.kind, .string y.text, .int .i64 y.fr, .int .i64 y.to]] wx (fun e w' => e = .returned (findV A c4 V y) ∧ Below wx.heap.size wx w') by
              have := find_any A c4 V y wx (HOV.out.1.below hb) HOV.out.2.1 HOV.out.2.2.1
              rw [← HVN.out] at this; exact this)
            have hck : (c18 = k2) = False := eq_false (by omega)
            have hs1 : IntKind.i64.wrap ((k2 : Int) + 1) = (k2 : Int) + 1 := IntWalk.i64_in _ (by omega)
            have hc4 := HOV.out.2.1
            have hm4 := HOV.out.2.2.1
            rw [← HVN.out] at hc4
            unfold maxLen at hm4
            clear hy hgy hV
            cases hm : V.any (fun x => meq x y) with
            | true =>
              obtain ⟨i, x, hf, hx, hxy⟩ := findI_some hm
              obtain ⟨bx, ox, hAx, hbx, hvax⟩ := HOV.out.1 i x hx
              subst hAx
              have hin : i < n4 := by have := (List.getElem?_eq_some_iff.1 hx).1; have := HVN.out; omega
              have HFV := Lib.hid (show findV (some ⟨bx, ox, none⟩) c4 V y = .slice (some ⟨bx, ox + i * 4, none⟩) 1 (c4 - i) by unfold findV; rw [hf]; rfl)
              rw [HFV.out] at HFD
              have HAK := Lib.hid (fun wx (hb : Below wr.heap.size wr wx) => show Calls Tryz.prog 13 #[.slice (some ⟨b8, o8 + k2 * 4, none⟩) 1 (c18 - k2), .slice (some ⟨bx, ox + i * 4, none⟩) 1 (c4 - i)] wx (fun e w' => e = .returned (.bool true) ∧ Below wx.heap.size wx w') from
                alike_is _ _ _ _ [y] [x] wx (HYA.out.below hb) ((HOV.out.1.sub hx).below hb) (by simp) (by simp) (by simp; omega) (by simp; omega) (by unfold maxLen; omega) (by unfold maxLen; omega) true (alike_one_hit hxy))
              have HS2 := Lib.hid (show wantR X (Y.take (k2 + 1)) = V by rw [HST.out]; unfold wantStep; rw [if_pos hm])
              clear hm hf hx hxy hvax HFV
              go_wp2_with fail
              refine wp_region_later (by kernel_rfl) (by kernel_rfl) ?_; (repeat (first | go_big_quiet_step ((first | ((go_at_call 14; exact Calls.later _ (HFD.out _ (Later.below _)))) | ((go_at_call 13; exact Calls.later _ (HAK.out _ (Later.below _)))))) | quiet_step ((first | ((go_at_call 14; exact Calls.later _ (HFD.out _ (Later.below _)))) | ((go_at_call 13; exact Calls.later _ (HAK.out _ (Later.below _)))))))); refine wpQuiet_nil ?_; rintro _ ⟨s, rfl⟩
              have H5 := Lib.hid s.below
              generalize s.w = wt at H5 ⊢
              go_wp2_with fail
              go_roundw
              case rel => exact ⟨k2 + 1, _, n4, c4, by omega, hn4, by go_num, rfl, Lib.hid (by rw [HS2.out]; exact HWI.out.below H5.out)⟩
              case measure => simp [intOf]; omega
            | false =>
              have HFV := Lib.hid (show findV A c4 V y = .slice none 0 0 by unfold findV; rw [findI_none hm])
              rw [HFV.out] at HFD
              have HAK := Lib.hid (fun wx (hb : Below wr.heap.size wr wx) => show Calls Tryz.prog 13 #[.slice (some ⟨b8, o8 + k2 * 4, none⟩) 1 (c18 - k2), .slice none 0 0] wx (fun e w' => e = .returned (.bool false) ∧ Below wx.heap.size wx w') from
                alike_is _ _ _ _ [y] [] wx (HYA.out.below hb) (ValsAt.nil _) (by simp) (by simp) (by simp; omega) (by simp) (by unfold maxLen; omega) (by unfold maxLen; omega) false (alike_one_miss y))
              have HS2 := Lib.hid (show wantR X (Y.take (k2 + 1)) = V ++ [y] by rw [HST.out]; unfold wantStep; rw [if_neg (by rw [hm]; simp)])
              have HN5 := Lib.hid (show n4 + 1 ≤ 24 by
                have h1 := want_len X (Y.take (k2 + 1))
                rw [HS2.out, List.length_append, List.length_take] at h1
                have := HXN.out; have := HYN.out; have := HVN.out
                simp at h1; omega)
              clear hm HFV
              go_wp2_with fail
              refine wp_region_later (by kernel_rfl) (by kernel_rfl) ?_; (repeat (first | go_big_quiet_step ((first | ((go_at_call 14; exact Calls.later _ (HFD.out _ (Later.below _)))) | ((go_at_call 13; exact Calls.later _ (HAK.out _ (Later.below _)))))) | quiet_step ((first | ((go_at_call 14; exact Calls.later _ (HFD.out _ (Later.below _)))) | ((go_at_call 13; exact Calls.later _ (HAK.out _ (Later.below _)))))))); refine wpQuiet_nil ?_; rintro _ ⟨s, rfl⟩
              have HW5 := Lib.hid (HWI.out.below s.below)
              have hs8 : b8 < s.w.heap.size := by have := s.below.size; omega
              have Z0 := (s.below.cell (p := ⟨b8, _, none⟩) hb8).trans z0
              have Z1 := (s.below.cell (p := ⟨b8, _, none⟩) hb8).trans z1
              have Z2 := (s.below.cell (p := ⟨b8, _, none⟩) hb8).trans z2
              have Z3 := (s.below.cell (p := ⟨b8, _, none⟩) hb8).trans z3
              generalize s.w = wt at HW5 hs8 Z0 Z1 Z2 Z3 ⊢
              clear z0 z1 z2 z3 hck hs1 HFD HAK HWI
              go_wp2_with (first
                | (at_builtin; refine wpList_append_src _ rfl (.tmp 144) (.tmp 149) 34 rfl W7.heap.size 43 iv (.agg #[.int .i64 0, .string ⟨#[]⟩, .int .i64 0, .int .i64 0]) 4 40 Tryz.underlying34 hiv.out hzv.out hsv.out hbv.out rfl (by decide) (.slice A n4 c4) n4 (V.flatMap Va.cells) rfl ?own2 (some ⟨wt.heap.size, 0, none⟩) 1 1 y.cells rfl ?l2 ?n2 ?c2 ?o2 ?m2 ?b2 ?s2 (n4 + 1) rfl ?_))
              case own2 => have := (HW5.out.2.1.own).alloc (.cells #[.int .i64 y.kind, .string y.text, .int .i64 y.fr, .int .i64 y.to] 43); rw [← HVN.out] at this; exact this
              case l2 => rfl
              case n2 => intro h; cases h
              case o2 => exact fun x hx => va_one (vs := [y]) x (by simpa using hx)
              case c2 =>
                  intro ad had i u' hj
                  injection had with had
                  subst had
                  have := new_cells wt y.cells 43 i u' hj
                  simpa [Va.cells] using this
              case m2 => unfold maxLen; omega
              case b2 => omega
              case s2 => have := HW5.out.1.size; simp; omega
              intro A6 c6 w6 own6 hg6 hat6
              have HW6 := Lib.hid (HW5.out.append own6 hg6 (by rw [World.size_alloc]; exact hat6) HSY.out)
              clear own6 hg6 hat6
              go_wp2_with fail
              go_roundw
              case rel => exact ⟨k2 + 1, A6, n4 + 1, c6, by omega, HN5.out, by go_num, rfl, Lib.hid (by rw [HS2.out]; exact HW6.out)⟩
              case measure => simp [intOf]; omega
        · have h30 : ((3 : Int) == 0) = false := rfl
          have HYE := Lib.hid (show usedV ys q = [] by rw [hvx]; rfl)
          go_wp2_with fail
          go_meet
          exact ⟨A3, n3, c3, rfl, H3, Lib.hid (by rw [HYE.out]; exact HO3.out), Lib.hid (by rw [HYE.out]; exact HN3.out)⟩
      case rest =>
      obtain ⟨A4, n4, c4, rfl, H4, HO4, HN4⟩ := hcut
      obtain ⟨wt, rfl⟩ : ∃ wt, wt = wc := ⟨_, rfl⟩
      clear H3 HO3 HN3 hs2 hs3
      have HV4 := Lib.hid HO4.out.vals
      have HWL := Lib.hid (show (wantR (usedV xs q) (usedV ys q)).length ≤ 1000000 by have := want_len (usedV xs q) (usedV ys q); have := HXN.out; have := HYN.out; omega)
      have x1 := cell_of_blk (blk_keep H4.out G9'.out) 1
      simp at x1
      have hs9 : g9 < wt.heap.size := by have := H4.out.size; omega
      obtain ⟨y0, y1, y2, y3, y4⟩ := HVA.out.2.below H4.out HVA.out.1
      have hsb : b < wt.heap.size := by have := H4.out.size; have := HVA.out.1; omega
      have HFIN := Lib.hid (fun w9 (h9 : Below W7.heap.size W7 w9) => h9)
      by_cases he0 : e0 = 0
      · subst he0
        go_wp2_with fail
        refine (HIU.out wt H4.out).mono ?_; rintro e w9 ⟨A9', c9', rfl, hv9, hl9', hm9', hb9, -⟩
        have HB9 := Lib.hid (below_more H4.out hb9)
        have HAK := Lib.hid (alike_is A4 A9' c4 c9' _ _ w9 (HV4.out.1.below hb9) hv9 HWL.out HUL.out HV4.out.2.1 hl9' HV4.out.2.2.1 hm9' true HAL.out)
        rw [← HN4.out] at HAK
        clear hv9 hl9' hm9' hb9 x1 y0 y1 y2 y3 y4
        go_wp2_with fail
        refine HAK.out.mono ?_; rintro e w10 ⟨rfl, hb10⟩
        have HB10 := Lib.hid (below_more HB9.out hb10)
        clear hb10
        go_wp2_with fail
        go_roundw
        case rel => exact ⟨k + 1, by omega, by go_num, HB10⟩
        case measure => simp [intOf]; omega
      · have he1 : e1 = 0 := by rcases HOR.out with h | h
                                · exact absurd h he0
                                · exact h
        subst he1
        have hbe : (e0 != 0) = true := by simpa using he0
        clear he0
        go_wp2_with fail
        refine (HIU.out wt H4.out).mono ?_; rintro e w9 ⟨A9', c9', rfl, hv9, hl9', hm9', hb9, -⟩
        have HB9 := Lib.hid (below_more H4.out hb9)
        have HAK := Lib.hid (alike_is A4 A9' c4 c9' _ _ w9 (HV4.out.1.below hb9) hv9 HWL.out HUL.out HV4.out.2.1 hl9' HV4.out.2.2.1 hm9' true HAL.out)
        rw [← HN4.out] at HAK
        clear hv9 hl9' hm9' hb9 x1 y0 y1 y2 y3 y4
        go_wp2_with fail
        refine HAK.out.mono ?_; rintro e w10 ⟨rfl, hb10⟩
        have HB10 := Lib.hid (below_more HB9.out hb10)
        clear hb10
        go_wp2_with fail
        go_roundw
        case rel => exact ⟨k + 1, by omega, by go_num, HB10⟩
        case measure => simp [intOf]; omega

end Go.Proofs.YtleihhkacmgofabGreatDoor
