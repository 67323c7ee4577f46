/-
  Contracts of the specification's less and put.
-/
import Derived.Test.YtleihhkacmgofaaGreatDoorClo
import Derived.Test.YtleihhkacmgofaaGreatDoorSameA
namespace Go.Proofs.YtleihhkacmgofaaGreatDoor
open Go.RowKit

set_option maxHeartbeats 800000 in
theorem less_any (a b : Va) (w : World) : Calls Tryz.prog 66 #[a.val, b.val] w fun e w' => e = .returned (.bool (vlt a b)) ∧ Below w.heap.size w w' := by
  obtain ⟨k, t, f, to⟩ := a
  obtain ⟨k2, t2, f2, to2⟩ := b
  unfold Va.val
  dsimp only
  by_cases hk : k = k2
  · subst hk
    have hk' : (k != k) = false := by simp
    by_cases ht : (t.toList == t2.toList) = true
    · have HF := Lib.hid (show vlt ⟨k, t, f, to⟩ ⟨k, t2, f2, to2⟩ = decide (f < f2) by unfold vlt txt; rw [if_pos rfl, if_pos (by simpa using ht)])
      go_enter Tryz.func66, Tryz.ntmps66
      go_wp2
      go_ret
      exact ⟨of_bool HF.out.symm, ((Below.refl _ _).alloc (Nat.le_refl _) _).alloc (by simp) _⟩
    · have ht : (t.toList == t2.toList) = false := by simpa using ht
      have HF := Lib.hid (show vlt ⟨k, t, f, to⟩ ⟨k, t2, f2, to2⟩ = Op.bytesLess t.toList t2.toList by unfold vlt txt; rw [if_pos rfl, if_neg (by simpa using ht)]; rfl)
      go_enter Tryz.func66, Tryz.ntmps66
      go_wp2
      go_ret
      exact ⟨of_bool HF.out.symm, ((Below.refl _ _).alloc (Nat.le_refl _) _).alloc (by simp) _⟩
  · have HF := Lib.hid (show vlt ⟨k, t, f, to⟩ ⟨k2, t2, f2, to2⟩ = decide (k < k2) by unfold vlt; rw [if_neg (show ¬ k = k2 from hk)])
    have hk' : (k != k2) = true := by simpa using hk
    clear hk
    go_enter Tryz.func66, Tryz.ntmps66
    go_wp2
    go_ret
    exact ⟨of_bool HF.out.symm, ((Below.refl _ _).alloc (Nat.le_refl _) _).alloc (by simp) _⟩
theorem less_is (a b : Va) (w : World) (r : Bool) (h : vlt a b = r) : Calls Tryz.prog 66 #[a.val, b.val] w fun e w' => e = .returned (.bool r) ∧ Below w.heap.size w w' := by
  rw [← h]; exact less_any a b w

theorem take_of_all {α : Type} (p : α → Bool) : ∀ (l : List α) (k : Nat), k ≤ l.length → (l.take k).all p = true → (∀ x, l[k]? = some x → p x = false) → l.takeWhile p = l.take k ∧ l.dropWhile p = l.drop k
  | [], k, hk, _, _ => by simp
  | x :: l, 0, _, _, h => by have := h x rfl; simp [this]
  | x :: l, k + 1, hk, ha, h => by
    simp only [List.take_succ_cons, List.all_cons, Bool.and_eq_true] at ha
    have ih := take_of_all p l k (by simpa using hk) ha.2 (fun y hy => h y (by simpa using hy))
    simp [ha.1, ih.1, ih.2]
theorem put_in {vs : List Va} {v : Va} {k : Nat} (hk : k ≤ vs.length) (ha : (vs.take k).all (fun x => vlt x v) = true) (h : ∀ x, vs[k]? = some x → vlt x v = false) (h2 : vs[k]? = none ∨ ∃ x, vs[k]? = some x ∧ veq x v = false) :
    putR vs v = vs.take k ++ [v] ++ vs.drop k := by
  obtain ⟨e1, e2⟩ := take_of_all (fun x => vlt x v) vs k hk ha h
  unfold putR
  rw [e1, e2, List.head?_drop]
  rcases h2 with h2 | ⟨x, h2, h3⟩
  · rw [h2]; simp
  · rw [h2]; simp [h3]
theorem put_had {vs : List Va} {v x : Va} {k : Nat} (ha : (vs.take k).all (fun x => vlt x v) = true) (h : vs[k]? = some x) (hx : vlt x v = false) (h3 : veq x v = true) :
    putR vs v = vs.take k ++ vs.drop k := by
  obtain ⟨e1, e2⟩ := take_of_all (fun x => vlt x v) vs k (by have := (List.getElem?_eq_some_iff.1 h).1; omega) ha (fun y hy => by rw [h] at hy; injection hy with hy; subst hy; exact hx)
  unfold putR
  rw [e1, e2, List.head?_drop, h]
  simp [h3]
theorem ValsAt.drop {w : World} {b o : Nat} {vs : List Va} (h : ValsAt w (some ⟨b, o, none⟩) vs) (k : Nat) : ValsAt w (some ⟨b, o + k * 4, none⟩) (vs.drop k) := fun j v hj => by
  rw [List.getElem?_drop] at hj
  obtain ⟨b', o', e, hlt, hv⟩ := h (k + j) v hj
  injection e with e; injection e with e1 e2
  subst e1 e2
  exact ⟨b, o + k * 4, rfl, hlt, by rw [show o + k * 4 + j * 4 = o + (k + j) * 4 by omega]; exact hv⟩

set_option maxHeartbeats 3200000 in
set_option maxRecDepth 100000 in
theorem put_any (A : Option Addr) (cap : Nat) (vs : List Va) (v : Va) (w : World) (hvs : ValsAt w A vs) (hl : vs.length ≤ cap) (hcap : cap ≤ maxLen) (hA0 : A = none → cap = 0) (hsm : vs.length ≤ 100000) :
    Calls Tryz.prog 46 #[.slice A vs.length cap, v.val] w (GotRow w 42 4 (putR vs v).length ((putR vs v).flatMap Va.cells)) := by
  obtain ⟨n, hn⟩ : ∃ n, n = vs.length := ⟨_, rfl⟩
  rw [← hn] at hl hsm ⊢
  have hcap' := hcap
  unfold maxLen at hcap'
  have HN := Lib.hid hn
  have HA0 := Lib.hid hA0
  clear hn hA0
  obtain ⟨iv, hiv, hzv, hsv, hbv⟩ := info_hid infoVa
  have HVS := Lib.hid hvs
  clear hvs
  unfold Va.val
  have HB0 := Lib.hid (heap_alloc_new w (.cells #[.int .i64 v.kind, .string v.text, .int .i64 v.fr, .int .i64 v.to] 42))
  have HWb := Lib.hid (below_alloc w (.cells #[.int .i64 v.kind, .string v.text, .int .i64 v.fr, .int .i64 v.to] 42))
  have HWs := Lib.hid (show (w.alloc (.cells #[.int .i64 v.kind, .string v.text, .int .i64 v.fr, .int .i64 v.to] 42)).heap.size = w.heap.size + 1 by simp)
  go_enter Tryz.func46, Tryz.ntmps46
  go_wp2_with fail
  generalize w.alloc (.cells #[.int .i64 v.kind, .string v.text, .int .i64 v.fr, .int .i64 v.to] 42) = W at HB0 HWb HWs ⊢
  go_loopw [5, 6] (fun o i wr => ∃ k : Nat, k ≤ n ∧ i = .int .i64 k ∧ Hid (Below W.heap.size W wr) ∧ Hid ((vs.take k).all (fun x => vlt x v) = true) ∧ Hid (wr.ownsRow W.heap.size 42 4 o k ((vs.take k).flatMap Va.cells))) (fun _ i _ => n - (intOf i).toNat)
  case atStart => exact ⟨0, Nat.zero_le _, rfl, Lib.hid (Below.refl _ _), Lib.hid (by simp), Lib.hid (by simpa using World.ownsRow_nil _ _ _ _)⟩
  case round =>
    obtain ⟨k, hk, rfl, hb, hall, hown⟩ := hrel
    have hw1 := Lib.hid (below_more HWb.out hb.out)
    have hsz : w.heap.size < wr.heap.size := by have := hb.out.size; have := HWs.out; omega
    have B0 := Lib.hid (blk_keep hb.out HB0.out)
    have z0 := cell_of_blk B0.out 0
    have z1 := cell_of_blk B0.out 1
    have z2 := cell_of_blk B0.out 2
    have z3 := cell_of_blk B0.out 3
    simp at z0 z1 z2 z3
    obtain ⟨A2, c2, hv, hc2, hc2m, -, -⟩ := own_slice hown.out
    subst hv
    by_cases hlt : k < n
    · have hget : vs[k]? = some (vs[k]'(by have := HN.out; omega)) := List.getElem?_eq_getElem _
      obtain ⟨u, hu⟩ : ∃ u, u = vs[k]'(by have := HN.out; omega) := ⟨_, rfl⟩
      rw [← hu] at hget
      obtain ⟨b, o, hA, hb1, hva⟩ := HVS.out k u hget
      subst hA
      obtain ⟨y0, y1, y2, y3, ysz⟩ := hva.below hw1.out hb1
      have GET := Lib.hid hget
      have hsb : b < wr.heap.size := by have := hw1.out.size; omega
      have HTK := Lib.hid (show vs.take (k + 1) = vs.take k ++ [u] by obtain ⟨hk', e⟩ := List.getElem?_eq_some_iff.1 hget; rw [List.take_succ_eq_append_getElem hk', e])
      clear hu hget hva hb1
      have hkn : ((k : Int) < (n : Int)) = True := by simp; omega
      by_cases hc : vlt u v = true
      · have HALL := Lib.hid (show (vs.take (k + 1)).all (fun x => vlt x v) = true by rw [HTK.out, all_snoc, hall.out, hc]; rfl)
        go_wp2_with fail
        refine wp_region_later (by kernel_rfl) (by kernel_rfl) ?_; (repeat (first | go_big_quiet_step (((go_at_call 66; exact Calls.later _ (less_is u v _ true hc)))) | quiet_step (((go_at_call 66; exact Calls.later _ (less_is u v _ true hc)))))); refine wpQuiet_nil ?_; rintro _ ⟨s, rfl⟩
        have OWS := Lib.hid (ownsRow_of_block (w' := s.w) hown.out (fun g hg => s.below.block g (hown.out.lt g hg).2))
        go_wp2_with (first
          | (at_builtin; refine wpList_append_src _ rfl (.tmp 19) (.tmp 24) 36 rfl W.heap.size 42 iv (.agg #[.int .i64 0, .string ⟨#[]⟩, .int .i64 0, .int .i64 0]) 4 40 Tryz.underlying36 hiv.out hzv.out hsv.out hbv.out rfl (by decide) (.slice A2 k c2) k ((vs.take k).flatMap Va.cells) rfl ?own1 (some ⟨s.w.heap.size, 0, none⟩) 1 1 u.cells rfl ?l1 ?n1 ?c1 ?o1 ?m1 ?b1 ?s1 (k + 1) rfl ?_))
        case own1 => exact OWS.out.alloc _
        case l1 => rfl
        case n1 => intro h; cases h
        case o1 => exact fun x hx => va_one (vs := [u]) x (by simpa using hx)
        case c1 =>
          intro ad had i u' hj
          injection had with had
          subst had
          have := new_cells s.w u.cells 42 i u' hj
          simpa [Va.cells] using this
        case m1 => unfold maxLen; omega
        case b1 => omega
        case s1 => have := hb.out.size; have := s.below.size; simp; omega
        · intro A3 c3 w3 own3 hg3 _
          have b4 := Lib.hid (((hb.out.trans (s.below.mono hb.out.size)).alloc (by have := hb.out.size; have := s.below.size; omega) (.cells #[.int .i64 u.kind, .string u.text, .int .i64 u.fr, .int .i64 u.to] 42)).grown hg3 (by have := hb.out.size; have := s.below.size; simp; omega) (fun g hg => (hown.out.lt g hg).1))
          have own3 := Lib.hid own3
          clear hg3
          go_wp2
          go_roundw
          case rel => exact ⟨k + 1, by omega, by go_num, b4, HALL, Lib.hid (by rw [HTK.out, List.flatMap_append]; simpa using own3.out)⟩
          case measure => simp [intOf]; omega
      · have hc : vlt u v = false := by simpa using hc
        have HC := Lib.hid hc
        have he := fun w => eqVa2 u.kind v.kind u.fr v.fr u.to v.to u.text v.text w
        by_cases hq : veq u v = true
        · have hq2 : (u.kind == v.kind && strEq u.text v.text && u.fr == v.fr && u.to == v.to) = true := by have := hq; unfold veq meq at this; simpa [Bool.and_assoc] using this
          have HP := Lib.hid (put_had hall.out GET.out hc hq)
          have HPL := Lib.hid (show (putR vs v).length = n by rw [HP.out, List.take_append_drop]; exact HN.out.symm)
          rw [hq2] at he
          clear hq hq2
          go_wp2_with fail
          refine wp_region_later (by kernel_rfl) (by kernel_rfl) ?_; (repeat (first | go_big_quiet_step (((go_at_call 66; exact Calls.later _ (less_is u v _ false hc)))) | quiet_step (((go_at_call 66; exact Calls.later _ (less_is u v _ false hc)))))); refine wpQuiet_nil ?_; rintro _ ⟨s, rfl⟩
          go_wp2_with fail
          obtain ⟨s1, rfl⟩ : ∃ s1, s1 = s := ⟨_, rfl⟩
          have hs2 := s1.below.size
          have e1 : b < s1.w.heap.size := by omega
          have e2 : w.heap.size < s1.w.heap.size := by omega
          have hknb : ((k : Int) == (n : Int)) = false := by rw [beq_eq_false_iff_ne]; omega
          refine wp_region_later (by kernel_rfl) (by kernel_rfl) ?_; (repeat (first | go_big_quiet_step (fail) | quiet_step (fail))); refine wpQuiet_nil ?_; rintro _ ⟨s, rfl⟩
          have BS := Lib.hid ((hb.out.trans (s1.below.mono hb.out.size)).trans (s.below.mono (by have := hb.out.size; omega)))
          have OWS := Lib.hid (ownsRow_of_block (w' := s.w) hown.out (fun g hg => by have h1 := (hown.out.lt g hg).2; exact (s.below.block g (by omega)).trans (s1.below.block g h1)))
          have HVD := Lib.hid (((HVS.out.below HWb.out).below BS.out).drop k)
          go_wp2_with (first
            | (at_builtin; refine wpList_append_src _ rfl (.tmp 44) (.tmp 47) 36 rfl W.heap.size 42 iv (.agg #[.int .i64 0, .string ⟨#[]⟩, .int .i64 0, .int .i64 0]) 4 40 Tryz.underlying36 hiv.out hzv.out hsv.out hbv.out rfl (by decide) (.slice A2 k c2) k ((vs.take k).flatMap Va.cells) rfl ?own3 (some ⟨b, o + k * 4, none⟩) (n - k) (cap - k) ((vs.drop k).flatMap Va.cells) rfl ?l3 ?n3 ?c3 ?o3 ?m3 ?b3 ?s3 n (by omega) ?_))
          case own3 => exact OWS.out
          case l3 => rw [flat_len (c := 4) (fun _ => rfl), List.length_drop, HN.out]
          case n3 => intro h; cases h
          case o3 => exact va_one
          case c3 => exact vals_cells HVD.out
          case m3 => unfold maxLen; omega
          case b3 => omega
          case s3 => have := BS.out.size; omega
          · intro A4 c4 w4 own4 hg4 _
            have B4 := Lib.hid (BS.out.grown hg4 BS.out.size (fun g hg => (OWS.out.lt g hg).1))
            have own4 := Lib.hid own4
            clear hg4
            go_wp2_with fail
            go_ret
            exact ⟨A4, c4, by rw [HPL.out]; rfl, by rw [HPL.out, HP.out, List.flatMap_append]; exact own_base own4.out (by have := HWs.out; omega), HWb.out.trans (B4.out.mono HWb.out.size)⟩
        · have hq : veq u v = false := by simpa using hq
          have hq2 : (u.kind == v.kind && strEq u.text v.text && u.fr == v.fr && u.to == v.to) = false := by have := hq; unfold veq meq at this; simpa [Bool.and_assoc] using this
          have HP := Lib.hid (put_in (by have := HN.out; omega) hall.out (fun x hx => by rw [GET.out] at hx; injection hx with hx; rw [← hx]; exact hc) (.inr ⟨u, GET.out, hq⟩))
          have HPL := Lib.hid (show (putR vs v).length = n + 1 by rw [HP.out]; simp; have := HN.out; omega)
          rw [hq2] at he
          clear hq hq2
          go_wp2_with fail
          refine wp_region_later (by kernel_rfl) (by kernel_rfl) ?_; (repeat (first | go_big_quiet_step (((go_at_call 66; exact Calls.later _ (less_is u v _ false hc)))) | quiet_step (((go_at_call 66; exact Calls.later _ (less_is u v _ false hc)))))); refine wpQuiet_nil ?_; rintro _ ⟨s, rfl⟩
          go_wp2_with fail
          obtain ⟨s1, rfl⟩ : ∃ s1, s1 = s := ⟨_, rfl⟩
          have hs2 := s1.below.size
          have e1 : b < s1.w.heap.size := by omega
          have e2 : w.heap.size < s1.w.heap.size := by omega
          have hknb : ((k : Int) == (n : Int)) = false := by rw [beq_eq_false_iff_ne]; omega
          refine wp_region_later (by kernel_rfl) (by kernel_rfl) ?_; (repeat (first | go_big_quiet_step (fail) | quiet_step (fail))); refine wpQuiet_nil ?_; rintro _ ⟨s, rfl⟩
          have BS := Lib.hid ((hb.out.trans (s1.below.mono hb.out.size)).trans (s.below.mono (by have := hb.out.size; omega)))
          have OWS := Lib.hid (ownsRow_of_block (w' := s.w) hown.out (fun g hg => by have h1 := (hown.out.lt g hg).2; exact (s.below.block g (by omega)).trans (s1.below.block g h1)))
          go_wp2_with (first
            | (at_builtin; refine wpList_append_src _ rfl (.tmp 40) (.tmp 42) 36 rfl W.heap.size 42 iv (.agg #[.int .i64 0, .string ⟨#[]⟩, .int .i64 0, .int .i64 0]) 4 40 Tryz.underlying36 hiv.out hzv.out hsv.out hbv.out rfl (by decide) (.slice A2 k c2) k ((vs.take k).flatMap Va.cells) rfl ?own4 (some ⟨s.w.heap.size, 0, none⟩) 1 1 (v.cells) rfl ?l4 ?n4 ?c4 ?o4 ?m4 ?b4 ?s4 (k + 1) rfl ?_))
          case own4 => exact OWS.out.alloc _
          case l4 => rfl
          case n4 => intro h; cases h
          case o4 => exact fun x hx => va_one (vs := [v]) x (by simpa using hx)
          case c4 =>
            intro ad had i u' hj
            injection had with had
            subst had
            have := new_cells s.w v.cells 42 i u' hj
            simpa [Va.cells] using this
          case m4 => unfold maxLen; omega
          case b4 => omega
          case s4 => have := BS.out.size; simp; omega
          · intro A3 c3 w3 own3 hg3 _
            have B3 := Lib.hid ((BS.out.alloc BS.out.size (.cells #[.int .i64 v.kind, .string v.text, .int .i64 v.fr, .int .i64 v.to] 42)).grown hg3 (by have := BS.out.size; simp; omega) (fun g hg => (OWS.out.lt g hg).1))
            have own3 := Lib.hid own3
            clear hg3
            have HVD := Lib.hid (((HVS.out.below HWb.out).below B3.out).drop k)
            go_wp2_with (first
              | (at_builtin; refine wpList_append_src _ rfl (.tmp 44) (.tmp 47) 36 rfl W.heap.size 42 iv (.agg #[.int .i64 0, .string ⟨#[]⟩, .int .i64 0, .int .i64 0]) 4 40 Tryz.underlying36 hiv.out hzv.out hsv.out hbv.out rfl (by decide) (.slice A3 (k + 1) c3) (k + 1) ((vs.take k).flatMap Va.cells ++ v.cells) rfl ?own5 (some ⟨b, o + k * 4, none⟩) (n - k) (cap - k) ((vs.drop k).flatMap Va.cells) rfl ?l5 ?n5 ?c5 ?o5 ?m5 ?b5 ?s5 (n + 1) (by omega) ?_))
            case own5 => exact own3.out
            case l5 => rw [flat_len (c := 4) (fun _ => rfl), List.length_drop, HN.out]
            case n5 => intro h; cases h
            case o5 => exact va_one
            case c5 => exact vals_cells HVD.out
            case m5 => unfold maxLen; omega
            case b5 => omega
            case s5 => have := B3.out.size; omega
            · intro A4 c4 w4 own4 hg4 _
              have B4 := Lib.hid (B3.out.grown hg4 B3.out.size (fun g hg => (own3.out.lt g hg).1))
              have own4 := Lib.hid own4
              clear hg4
              go_wp2_with fail
              go_ret
              exact ⟨A4, c4, by rw [HPL.out]; rfl, by rw [HPL.out, HP.out, List.flatMap_append, List.flatMap_append]; exact own_base (by simpa using own4.out) (by have := HWs.out; omega), HWb.out.trans (B4.out.mono HWb.out.size)⟩
    · obtain rfl : k = n := by omega
      have HG := Lib.hid (show vs[k]? = none by rw [HN.out]; simp)
      have HP0 := put_in (by have := HN.out; omega) hall.out (fun x hx => by rw [HG.out] at hx; cases hx) (.inl HG.out)
      rw [show vs.drop k = [] by rw [HN.out]; simp, List.append_nil] at HP0
      have HP := Lib.hid HP0
      have HPL := Lib.hid (show (putR vs v).length = k + 1 by rw [HP.out]; simp; have := HN.out; omega)
      clear HP0
      have hkk : ((k : Int) == (k : Int)) = true := by simp
      cases A with
      | none =>
        have h0 := HA0.out rfl
        subst h0
        obtain rfl : k = 0 := by omega
        go_wp2_with fail
        refine wp_region_later (by kernel_rfl) (by kernel_rfl) ?_; (repeat (first | go_big_quiet_step (fail) | quiet_step (fail))); refine wpQuiet_nil ?_; rintro _ ⟨s, rfl⟩
        go_wp2_with fail
        obtain ⟨s1, rfl⟩ : ∃ s1, s1 = s := ⟨_, rfl⟩
        have hs2 := s1.below.size
        have e2 : w.heap.size < s1.w.heap.size := by omega
        refine wp_region_later (by kernel_rfl) (by kernel_rfl) ?_; (repeat (first | go_big_quiet_step (fail) | quiet_step (fail))); refine wpQuiet_nil ?_; rintro _ ⟨s, rfl⟩
        have BS := Lib.hid ((hb.out.trans (s1.below.mono hb.out.size)).trans (s.below.mono (by have := hb.out.size; omega)))
        have OWS := Lib.hid (ownsRow_of_block (w' := s.w) hown.out (fun g hg => by have h1 := (hown.out.lt g hg).2; exact (s.below.block g (by omega)).trans (s1.below.block g h1)))
        go_wp2_with (first
          | (at_builtin; refine wpList_append_src _ rfl (.tmp 40) (.tmp 42) 36 rfl W.heap.size 42 iv (.agg #[.int .i64 0, .string ⟨#[]⟩, .int .i64 0, .int .i64 0]) 4 40 Tryz.underlying36 hiv.out hzv.out hsv.out hbv.out rfl (by decide) (.slice A2 0 c2) 0 ((vs.take 0).flatMap Va.cells) rfl ?ownpa (some ⟨s.w.heap.size, 0, none⟩) 1 1 (v.cells) rfl ?lpa ?npa ?cpa ?opa ?mpa ?bpa ?spa (0 + 1) rfl ?_))
        case ownpa => exact OWS.out.alloc _
        case lpa => rfl
        case npa => intro h; cases h
        case opa => exact fun x hx => va_one (vs := [v]) x (by simpa using hx)
        case cpa =>
          intro ad had i u' hj
          injection had with had
          subst had
          have := new_cells s.w v.cells 42 i u' hj
          simpa [Va.cells] using this
        case mpa => unfold maxLen; omega
        case bpa => omega
        case spa => have := BS.out.size; simp; omega
        · intro A3 c3 w3 own3 hg3 _
          have B3 := Lib.hid ((BS.out.alloc BS.out.size (.cells #[.int .i64 v.kind, .string v.text, .int .i64 v.fr, .int .i64 v.to] 42)).grown hg3 (by have := BS.out.size; simp; omega) (fun g hg => (OWS.out.lt g hg).1))
          have own3 := Lib.hid own3
          clear hg3
          go_wp2_with (first
            | (at_builtin; refine wpList_append_src _ rfl (.tmp 44) (.tmp 47) 36 rfl W.heap.size 42 iv (.agg #[.int .i64 0, .string ⟨#[]⟩, .int .i64 0, .int .i64 0]) 4 40 Tryz.underlying36 hiv.out hzv.out hsv.out hbv.out rfl (by decide) (.slice A3 (0 + 1) c3) (0 + 1) ((vs.take 0).flatMap Va.cells ++ v.cells) rfl ?ownpb _ 0 _ ([]) rfl ?lpb ?npb ?cpb ?opb ?mpb ?bpb ?spb (0 + 1) rfl ?_))
          case ownpb => exact own3.out
          case lpb => rfl
          case opb => intro u hu; cases hu
          case cpb => intro ad _ j u hj; cases hj
          case mpb => unfold maxLen; omega
          case bpb => omega
          case spb => have := B3.out.size; omega
          · intro A4 c4 w4 own4 hg4 _
            have B4 := Lib.hid (B3.out.grown hg4 B3.out.size (fun g hg => (own3.out.lt g hg).1))
            have own4 := Lib.hid own4
            clear hg4
            go_wp2_with fail
            go_ret
            exact ⟨A4, c4, by rw [HPL.out]; rfl, by rw [HPL.out, HP.out]; exact own_base (by simpa using own4.out) (by have := HWs.out; omega), HWb.out.trans (B4.out.mono HWb.out.size)⟩
      | some ad =>
        by_cases hkc : k = cap
        · subst hkc
          go_wp2_with fail
          refine wp_region_later (by kernel_rfl) (by kernel_rfl) ?_; (repeat (first | go_big_quiet_step (fail) | quiet_step (fail))); refine wpQuiet_nil ?_; rintro _ ⟨s, rfl⟩
          go_wp2_with fail
          obtain ⟨s1, rfl⟩ : ∃ s1, s1 = s := ⟨_, rfl⟩
          have hs2 := s1.below.size
          have e2 : w.heap.size < s1.w.heap.size := by omega
          refine wp_region_later (by kernel_rfl) (by kernel_rfl) ?_; (repeat (first | go_big_quiet_step (fail) | quiet_step (fail))); refine wpQuiet_nil ?_; rintro _ ⟨s, rfl⟩
          have BS := Lib.hid ((hb.out.trans (s1.below.mono hb.out.size)).trans (s.below.mono (by have := hb.out.size; omega)))
          have OWS := Lib.hid (ownsRow_of_block (w' := s.w) hown.out (fun g hg => by have h1 := (hown.out.lt g hg).2; exact (s.below.block g (by omega)).trans (s1.below.block g h1)))
          go_wp2_with (first
            | (at_builtin; refine wpList_append_src _ rfl (.tmp 40) (.tmp 42) 36 rfl W.heap.size 42 iv (.agg #[.int .i64 0, .string ⟨#[]⟩, .int .i64 0, .int .i64 0]) 4 40 Tryz.underlying36 hiv.out hzv.out hsv.out hbv.out rfl (by decide) (.slice A2 k c2) k ((vs.take k).flatMap Va.cells) rfl ?ownqa (some ⟨s.w.heap.size, 0, none⟩) 1 1 (v.cells) rfl ?lqa ?nqa ?cqa ?oqa ?mqa ?bqa ?sqa (k + 1) rfl ?_))
          case ownqa => exact OWS.out.alloc _
          case lqa => rfl
          case nqa => intro h; cases h
          case oqa => exact fun x hx => va_one (vs := [v]) x (by simpa using hx)
          case cqa =>
            intro ad had i u' hj
            injection had with had
            subst had
            have := new_cells s.w v.cells 42 i u' hj
            simpa [Va.cells] using this
          case mqa => unfold maxLen; omega
          case bqa => omega
          case sqa => have := BS.out.size; simp; omega
          · intro A3 c3 w3 own3 hg3 _
            have B3 := Lib.hid ((BS.out.alloc BS.out.size (.cells #[.int .i64 v.kind, .string v.text, .int .i64 v.fr, .int .i64 v.to] 42)).grown hg3 (by have := BS.out.size; simp; omega) (fun g hg => (OWS.out.lt g hg).1))
            have own3 := Lib.hid own3
            clear hg3
            go_wp2_with (first
              | (at_builtin; refine wpList_append_src _ rfl (.tmp 44) (.tmp 47) 36 rfl W.heap.size 42 iv (.agg #[.int .i64 0, .string ⟨#[]⟩, .int .i64 0, .int .i64 0]) 4 40 Tryz.underlying36 hiv.out hzv.out hsv.out hbv.out rfl (by decide) (.slice A3 (k + 1) c3) (k + 1) ((vs.take k).flatMap Va.cells ++ v.cells) rfl ?ownqb _ 0 _ ([]) rfl ?lqb ?nqb ?cqb ?oqb ?mqb ?bqb ?sqb (k + 1) rfl ?_))
            case ownqb => exact own3.out
            case lqb => rfl
            case oqb => intro u hu; cases hu
            case cqb => intro ad _ j u hj; cases hj
            case mqb => unfold maxLen; omega
            case bqb => omega
            case sqb => have := B3.out.size; omega
            · intro A4 c4 w4 own4 hg4 _
              have B4 := Lib.hid (B3.out.grown hg4 B3.out.size (fun g hg => (own3.out.lt g hg).1))
              have own4 := Lib.hid own4
              clear hg4
              go_wp2_with fail
              go_ret
              exact ⟨A4, c4, by rw [HPL.out]; rfl, by rw [HPL.out, HP.out]; exact own_base (by simpa using own4.out) (by have := HWs.out; omega), HWb.out.trans (B4.out.mono HWb.out.size)⟩
        · have hkc : k < cap := by omega
          go_wp2_with fail
          refine wp_region_later (by kernel_rfl) (by kernel_rfl) ?_; (repeat (first | go_big_quiet_step (fail) | quiet_step (fail))); refine wpQuiet_nil ?_; rintro _ ⟨s, rfl⟩
          go_wp2_with fail
          obtain ⟨s1, rfl⟩ : ∃ s1, s1 = s := ⟨_, rfl⟩
          have hs2 := s1.below.size
          have e2 : w.heap.size < s1.w.heap.size := by omega
          refine wp_region_later (by kernel_rfl) (by kernel_rfl) ?_; (repeat (first | go_big_quiet_step (fail) | quiet_step (fail))); refine wpQuiet_nil ?_; rintro _ ⟨s, rfl⟩
          have BS := Lib.hid ((hb.out.trans (s1.below.mono hb.out.size)).trans (s.below.mono (by have := hb.out.size; omega)))
          have OWS := Lib.hid (ownsRow_of_block (w' := s.w) hown.out (fun g hg => by have h1 := (hown.out.lt g hg).2; exact (s.below.block g (by omega)).trans (s1.below.block g h1)))
          go_wp2_with (first
            | (at_builtin; refine wpList_append_src _ rfl (.tmp 40) (.tmp 42) 36 rfl W.heap.size 42 iv (.agg #[.int .i64 0, .string ⟨#[]⟩, .int .i64 0, .int .i64 0]) 4 40 Tryz.underlying36 hiv.out hzv.out hsv.out hbv.out rfl (by decide) (.slice A2 k c2) k ((vs.take k).flatMap Va.cells) rfl ?ownra (some ⟨s.w.heap.size, 0, none⟩) 1 1 (v.cells) rfl ?lra ?nra ?cra ?ora ?mra ?bra ?sra (k + 1) rfl ?_))
          case ownra => exact OWS.out.alloc _
          case lra => rfl
          case nra => intro h; cases h
          case ora => exact fun x hx => va_one (vs := [v]) x (by simpa using hx)
          case cra =>
            intro ad had i u' hj
            injection had with had
            subst had
            have := new_cells s.w v.cells 42 i u' hj
            simpa [Va.cells] using this
          case mra => unfold maxLen; omega
          case bra => omega
          case sra => have := BS.out.size; simp; omega
          · intro A3 c3 w3 own3 hg3 _
            have B3 := Lib.hid ((BS.out.alloc BS.out.size (.cells #[.int .i64 v.kind, .string v.text, .int .i64 v.fr, .int .i64 v.to] 42)).grown hg3 (by have := BS.out.size; simp; omega) (fun g hg => (OWS.out.lt g hg).1))
            have own3 := Lib.hid own3
            clear hg3
            go_wp2_with (first
              | (at_builtin; refine wpList_append_src _ rfl (.tmp 44) (.tmp 47) 36 rfl W.heap.size 42 iv (.agg #[.int .i64 0, .string ⟨#[]⟩, .int .i64 0, .int .i64 0]) 4 40 Tryz.underlying36 hiv.out hzv.out hsv.out hbv.out rfl (by decide) (.slice A3 (k + 1) c3) (k + 1) ((vs.take k).flatMap Va.cells ++ v.cells) rfl ?ownrb _ 0 _ ([]) rfl ?lrb ?nrb ?crb ?orb ?mrb ?brb ?srb (k + 1) rfl ?_))
            case ownrb => exact own3.out
            case lrb => rfl
            case orb => intro u hu; cases hu
            case crb => intro ad _ j u hj; cases hj
            case mrb => unfold maxLen; omega
            case brb => omega
            case srb => have := B3.out.size; omega
            · intro A4 c4 w4 own4 hg4 _
              have B4 := Lib.hid (B3.out.grown hg4 B3.out.size (fun g hg => (own3.out.lt g hg).1))
              have own4 := Lib.hid own4
              clear hg4
              go_wp2_with fail
              go_ret
              exact ⟨A4, c4, by rw [HPL.out]; rfl, by rw [HPL.out, HP.out]; exact own_base (by simpa using own4.out) (by have := HWs.out; omega), HWb.out.trans (B4.out.mono HWb.out.size)⟩

end Go.Proofs.YtleihhkacmgofaaGreatDoor
