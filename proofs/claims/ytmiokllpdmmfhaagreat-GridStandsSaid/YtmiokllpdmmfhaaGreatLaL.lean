/-
  append onto an owned row at a step of a region that draws its order, with where the row lies behind it. And what builds on it.
-/
import Derived.Test.YtmiokllpdmmfhaaGreatLaB
import Derived.Deep.AppendLies
import Derived.Test.YtmiokllpdmmfhaaGreatLaJ
import Derived.Test.YtmiokllpdmmfhaaGreatLaD
namespace Go.Proofs.YtmiokllpdmmfhaaGreat
open Go.RowKit
theorem step_append_src2 {P : Program} (w : World) {ops : Array Oper} {o : Oper} {a : Act} {K : Act → World → Prop} {Q : Exit → Act → World → Prop} {E : Prop} (hgd : o.guard = none) (s x : Operand) (t : TypeId)
    (ho : o.op = .call { callee := .builtin .append, args := #[s, x], argTypes := #[t, t] })
    (base : Nat) (e : TypeId) (i : TypeInfo) (z : Value) (size bytes : Nat) (ht : P.underlying t = some (.slice e)) (hi : P.info? e = some i) (hz : i.zero = some z)
    (hsize : i.size = size) (hby : i.bytes = bytes) (hzs : z.cells.size = size) (hsz : 0 < size)
    (v : Value) (n : Nat) (xs : List Value) (hs : a.eval s = v) (hown : w.ownsRow base e size v n xs)
    (A : Option Addr) (m c : Nat) (news : List Value) (hx : a.eval x = .slice A m c) (hl : news.length = m * size) (hA : A = none → m = 0) (hnews : ∀ ad, A = some ad → ∀ j u, news[j]? = some u → w.cell? (ad.add j) = some u) (h1 : ∀ u ∈ news, u.oneCell' = true)
    (h63 : n + m ≤ maxLen) (hbytes : (n + m) * bytes ≤ 140737488355328) (hbase : base ≤ w.heap.size) (N : Nat) (hN : N = n + m)
    (h : ∀ A' c' w', w'.ownsRow base e size (.slice A' N c') N (xs ++ news) → w.grownBy w' v.ownBlock → ((Value.slice A' N c').ownBlock = v.ownBlock ∨ (Value.slice A' N c').ownBlock = some w.heap.size) → K (a.put o.dst (.slice A' N c')) w') :
    if Region.wanted o (yielded ops a.tmps) = true then Oper.wp P o a w K Q else E := by
  have hw : Region.wanted o (yielded ops a.tmps) = true := by simp [Region.wanted, hgd]
  rw [if_pos hw]
  subst hN
  have hrun : ∃ A' c' w', (Builtin.append_ #[t, t] o.type #[v, .slice A m c]).run P w = .ok (.slice A' (n + m) c') w' ∧ w'.ownsRow base e size (.slice A' (n + m) c') (n + m) (xs ++ news) ∧ w.grownBy w' v.ownBlock ∧ ((Value.slice A' (n + m) c').ownBlock = v.ownBlock ∨ (Value.slice A' (n + m) c').ownBlock = some w.heap.size) := by
    cases A with
    | some ad =>
      obtain ⟨v', w', hr, h2, h3, _, h5⟩ := run_append_own_at (P := P) w base t o.type e i z size bytes ht hi hz hsize hby hzs hsz v n xs hown ad m c news hl (hnews ad rfl) h1 h63 hbytes hbase
      obtain ⟨A', c', rfl, _⟩ := own_slice h2
      exact ⟨A', c', w', hr, h2, h3, h5⟩
    | none =>
      have hm := hA rfl
      subst hm
      have hn : news = [] := List.eq_nil_of_length_eq_zero (by simpa using hl)
      subst hn
      have hrun := append_nil_src (P := P) w base t o.type e i size ht hi v n xs hown c
      obtain ⟨A', c', rfl, _⟩ := own_slice hown
      exact ⟨A', c', w, hrun, by simpa using hown, World.grownBy.refl w _, .inl rfl⟩
  obtain ⟨A', c', w', hr, h2, h3, h4⟩ := hrun
  unfold Oper.wp execOp
  simp only [ho, resolve, invoke, builtin, Sem.run_bind, Sem.run_pure, Result.andThen_ok, List.map_toArray, List.map_cons, List.map_nil, hs, hx, hr]
  exact h A' c' w' h2 h3 h4
open Go.RowKit
theorem infoShape : (Tryz.prog.info? 111).map (fun i => (i.zero, i.size, i.bytes)) = some (some .nilIface, 1, 16) := by kernel_rfl
def KidsOk (w wr : World) (v : Value) (kl : List Shp) (vs : List Value) : Prop := vs.length = kl.length ∧ ∀ (i : Nat) (k : Shp), kl[i]? = some k → ∃ u, vs[i]? = some u ∧ ShP (fun b => w.heap.size ≤ b ∧ b < wr.heap.size ∧ some b ≠ v.ownBlock) wr k u
theorem kids_step {w wr w1 w2 wa w3 : World} {v v3 : Value} {kl : List Shp} {vs : List Value} {k : Shp} {u : Value} (H : KidsOk w wr v kl vs) (h0 : w.heap.size ≤ wr.heap.size) (hb1 : Below wr.heap.size wr w2) (hown : ∀ g, v.ownBlock = some g → g < wr.heap.size) (hw1 : wr.heap.size ≤ w1.heap.size)
    (hk : ShP (FreshB w1 w2) w2 k u) (hba : Below w2.heap.size w2 wa) (hg : wa.grownBy w3 v.ownBlock) (hn : v3.ownBlock = v.ownBlock ∨ v3.ownBlock = some wa.heap.size) : KidsOk w w3 v3 (kl ++ [k]) (vs ++ [u]) := by
  have s1 := hb1.size
  have s2 := hba.size
  have s3 := hg.size
  refine ⟨by simp [H.1], fun i q hi => ?_⟩
  by_cases hlt : i < kl.length
  · rw [List.getElem?_append_left hlt] at hi
    obtain ⟨u', hu', hs⟩ := H.2 i q hi
    refine ⟨u', by rw [List.getElem?_append_left (by rw [H.1]; exact hlt)]; exact hu', ShP.keep (fun b o hp => ?_) (fun b hp => ⟨hp.1, by omega, ?_⟩) q u' hs⟩
    · exact (hg.cell_far ⟨b, o, none⟩ (by dsimp only; omega) hp.2.2).trans ((hba.cell (p := ⟨b, o, none⟩) (by dsimp only; omega)).trans (hb1.cell (p := ⟨b, o, none⟩) hp.2.1))
    · rcases hn with e | e
      · rw [e]; exact hp.2.2
      · rw [e]; intro h; injection h with h; omega
  · obtain rfl : i = kl.length := by
      have := (List.getElem?_eq_some_iff.1 hi).1
      simp at this; omega
    rw [List.getElem?_append_right (Nat.le_refl _), Nat.sub_self] at hi
    injection hi with hi
    subst hi
    refine ⟨u, by rw [← H.1, List.getElem?_append_right (Nat.le_refl _), Nat.sub_self]; rfl, ShP.keep (fun b o hp => ?_) (fun b hp => ⟨by have := hp.1; omega, by have := hp.2; omega, ?_⟩) k u hk⟩
    · have p1 := hp.1
      have p2 := hp.2
      exact (hg.cell_far ⟨b, o, none⟩ (by dsimp only; omega) (fun h => by have := hown b h.symm; omega)).trans (hba.cell (p := ⟨b, o, none⟩) p2)
    · have p1 := hp.1
      have p2 := hp.2
      rcases hn with e | e
      · rw [e]; intro h; have := hown b h.symm; omega
      · rw [e]; intro h; injection h with h; omega
theorem kids_end {w wr : World} {A : Option Addr} {n c : Nat} {ks : List Shp} {vs : List Value} {t : TypeId} (H : KidsOk w wr (.slice A n c) ks vs) (ho : wr.ownsRow w.heap.size t 1 (.slice A n c) n vs) (hn : n = ks.length) : n ≤ c ∧ c ≤ maxLen ∧ ShPs (FreshB w wr) wr A 0 ks := by
  obtain ⟨A2, c2, hv, h1, h2, h3, h4⟩ := own_slice ho
  injection hv with e1 e2 e3
  subst e1 e3
  refine ⟨h1, h2, ShPs.of ks 0 (fun j k hk => ?_)⟩
  obtain ⟨u, hu, hs⟩ := H.2 j k hk
  cases A with
  | none => have := h4 rfl; have := (List.getElem?_eq_some_iff.1 hk).1; omega
  | some ad =>
    obtain ⟨g, rfl, g1, g2, g3⟩ := h3 ad rfl
    exact ⟨g, 0, u, rfl, ⟨g1, g2⟩, by rw [Nat.zero_add, Nat.zero_add]; exact g3 j u hu, ShP.keep (fun _ _ _ => rfl) (fun b hp => ⟨hp.1, hp.2.1⟩) k u hs⟩
theorem of_len {L : Lm} {cw : Bool} : ∀ (ks : List Shp) (ns : List Nd), ShsOf L cw ks ns → ks.length ≤ ns.length
  | [], _, _ => Nat.zero_le _
  | k :: r, ns, ⟨u, bl, rest, e, _, _, h⟩ => by
    have := of_len r rest h
    subst e
    simp only [List.length_cons, List.length_append]; omega
set_option maxRecDepth 100000 in
set_option maxHeartbeats 16000000 in
theorem shapes_any (L : Lm) (cw mw : Bool) (a1 a2 b1 b2 pw qw : Nat) (ks : List Shp) (hO : ∀ k ∈ ks, ShapeOk L cw mw a1 a2 b1 b2 pw qw k) (hsm : ks.length ≤ 100000) : ShapesOk L cw mw a1 a2 b1 b2 pw qw ks := by
  intro ns w A c hof hl hn hc1 hc
  obtain ⟨iv, hiv, hzv, hsv, hbv⟩ := info_hid infoShape
  have HO := Lib.hid hO
  have HL := Lib.hid hl
  have HN := Lib.hid hn
  have HOF := Lib.hid hof
  obtain ⟨N, hN⟩ : ∃ N, N = ns.length := ⟨_, rfl⟩
  obtain ⟨K, hK⟩ : ∃ K, K = ks.length := ⟨_, rfl⟩
  unfold GotShs
  rw [← hK] at hsm ⊢
  rw [← hN] at hc1 ⊢
  have HNN := Lib.hid hN
  have HKK := Lib.hid hK
  unfold maxLen at hc
  obtain ⟨W, hW⟩ : ∃ W, W = w.alloc (.cells #[.int .i64 L.per, .slice L.A L.ms.length L.cap, .bool cw, .bool mw, .func (.func a1) #[] #[], .func (.func a2) #[] #[], .func (.func 172) #[] #[.pointer (some ⟨pw, 0, none⟩)], .func (.func b1) #[] #[], .func (.func b2) #[] #[], .func (.func 172) #[] #[.pointer (some ⟨qw, 0, none⟩)]] 104) := ⟨_, rfl⟩
  have HB := Lib.hid (show Below w.heap.size w W from hW ▸ below_alloc _ _)
  have D0 := Lib.hid (show W.heap[w.heap.size]? = some (.cells #[.int .i64 L.per, .slice L.A L.ms.length L.cap, .bool cw, .bool mw, .func (.func a1) #[] #[], .func (.func a2) #[] #[], .func (.func 172) #[] #[.pointer (some ⟨pw, 0, none⟩)], .func (.func b1) #[] #[], .func (.func b2) #[] #[], .func (.func 172) #[] #[.pointer (some ⟨qw, 0, none⟩)]] 104 (0, 0)) from hW ▸ heap_alloc_new _ _)
  clear hO hl hn hof hN hK
  go_enter Tryz.func54, Tryz.ntmps54
  go_wp2_with fail
  rw [← hW]
  clear hW
  go_loopw [1, 5, 6] (fun s v _ wr => ∃ (j n' c' : Nat) (A' : Option Addr) (ms : List Nd) (vs : List Value), s = .slice A' n' c' ∧ n' ≤ c' ∧ c' ≤ c ∧ j ≤ K ∧ Hid (Below w.heap.size w wr ∧ Below W.heap.size W wr) ∧ Hid (n' = ms.length) ∧ Hid (NdsAt w A' ms) ∧ Hid (ShsOf L cw (ks.drop j) ms) ∧
      Hid (wr.ownsRow W.heap.size 111 1 v j vs) ∧ Hid (KidsOk w wr v (ks.take j) vs)) (fun s _ _ _ => match s with | .slice _ n _ => n | _ => 0)
  case atStart => exact ⟨0, N, c, A, ns, [], rfl, hc1, Nat.le_refl _, Nat.zero_le _, Lib.hid ⟨HB.out, Below.refl _ _⟩, Lib.hid HNN.out, Lib.hid HN.out, Lib.hid (by simpa using HOF.out), Lib.hid (World.ownsRow_nil _ _ _ _), Lib.hid ⟨by simp, fun i k hk => by simp at hk⟩⟩
  case round =>
    obtain ⟨j, n', c', A', ms, vs, rfl, hn', hc', hjK, hbw, hnl, hna, hof, hown, hkid⟩ := hrel
    have HBR := Lib.hid hbw.out.1
    have HBW := Lib.hid hbw.out.2
    have HOW := Lib.hid hown.out
    have HKI := Lib.hid hkid.out
    have HNL := Lib.hid hnl.out
    have HNA := Lib.hid hna.out
    have HOR := Lib.hid hof.out
    clear hbw hown hkid hnl hna hof
    by_cases hlt : j < K
    · obtain ⟨k, hk⟩ : ∃ k, ks[j]? = some k := ⟨_, List.getElem?_eq_getElem (by have := HKK.out; omega)⟩
      obtain ⟨u, bl, rest, hms, hsp, hsh, hrs⟩ : ∃ u bl rest, ms = u :: (bl ++ rest) ∧ spanN ms u.depth 0 = bl.length ∧ ShOf L cw k u bl ∧ ShsOf L cw (ks.drop (j + 1)) rest := by
        have h := HOR.out
        rw [List.drop_eq_getElem_cons (by have := HKK.out; omega)] at h
        obtain ⟨u, bl, rest, e1, e2, e3, e4⟩ := h
        have := (List.getElem?_eq_some_iff.1 hk).2
        rw [this] at e3
        exact ⟨u, bl, rest, e1, e2, e3, e4⟩
      obtain ⟨m, hm⟩ : ∃ m, m = 1 + bl.length := ⟨_, rfl⟩
      have hmn : m ≤ n' := by have := HNL.out; rw [hms] at this; simp only [List.length_cons, List.length_append] at this; omega
      have hm0 : 0 < m := by omega
      obtain ⟨b, o, hAe, hblt, hva⟩ := HNA.out 0 u (by rw [hms]; rfl)
      subst hAe
      have HBL := Lib.hid (show NdsAt w (some ⟨b, o + 8, none⟩) bl by
        have := ((HNA.out.drop 1).take bl.length)
        rw [hms] at this; simpa using this)
      have HRS := Lib.hid (show NdsAt w (some ⟨b, o + m * 8, none⟩) rest by
        have := HNA.out.drop m
        rw [hms, hm, Nat.add_comm 1, List.drop_succ_cons, List.drop_left] at this
        rw [hm, Nat.add_comm 1]; exact this)
      have HRL := Lib.hid (show n' - m = rest.length by have := HNL.out; rw [hms] at this; simp only [List.length_cons, List.length_append] at this; omega)
      have HBLL := Lib.hid (show bl.length = m - 1 by omega)
      have HPT := Lib.hid (fun wx (hb : Below w.heap.size w wx) => show Calls Tryz.prog 55 #[.slice (some ⟨b, o, none⟩) n' c'] wx (fun e w' => e = .returned (.slice (some ⟨b, o, none⟩) m c') ∧ Below wx.heap.size wx w') by
        have := gpart_any b o c' ms u wx (HNA.out.below hb) (by rw [hms]; rfl) (by rw [← HNL.out]; exact hn') (by unfold maxLen; omega)
        rw [← HNL.out, hsp, ← hm] at this; exact this)
      have HSH := Lib.hid (fun wx (hb : Below w.heap.size w wx) (Ab : Option Addr) (cb : Nat) (hab : NdsAt w Ab bl) (hcb : m - 1 ≤ cb) (hcb2 : cb ≤ maxLen) => show Calls Tryz.prog 94 #[.agg #[.int .i64 L.per, .slice L.A L.ms.length L.cap, .bool cw, .bool mw, .func (.func a1) #[] #[], .func (.func a2) #[] #[], .func (.func 172) #[] #[.pointer (some ⟨pw, 0, none⟩)], .func (.func b1) #[] #[], .func (.func b2) #[] #[], .func (.func 172) #[] #[.pointer (some ⟨qw, 0, none⟩)]], u.val, .slice Ab (m - 1) cb] wx (GotSh k wx) by
        have := HO.out k (List.mem_of_getElem? hk) u bl wx Ab cb hsh (HL.out.below hb) (hab.below hb) (by rw [HBLL.out]; exact hcb) hcb2
        rw [HBLL.out] at this; exact this)
      have HND := Lib.hid (fun wx (hb : Below w.heap.size w wx) => show wx.cell? ⟨b, o, none⟩ = some (.int .i64 u.kind) ∧ wx.cell? ⟨b, o + 1, none⟩ = some (.int .i64 u.depth) ∧ wx.cell? ⟨b, o + 2, none⟩ = some (.int .i64 u.sign) ∧ wx.cell? ⟨b, o + 3, none⟩ = some (.int .i64 u.turn) ∧ wx.cell? ⟨b, o + 4, none⟩ = some (.bool u.mirror) ∧ wx.cell? ⟨b, o + 5, none⟩ = some (.int .i64 u.state) ∧ wx.cell? ⟨b, o + 6, none⟩ = some (.int .i64 u.min) ∧ wx.cell? ⟨b, o + 7, none⟩ = some (.int .i64 u.max) by
        have hv := hva.below hb hblt
        rw [Nat.zero_mul, Nat.add_zero] at hv
        exact ⟨hv.c0, hv.c1, hv.c2, hv.c3, hv.c4, hv.c5, hv.c6, hv.c7⟩)
      have HRO := Lib.hid hrs
      have HTK := Lib.hid (take_snocS hk)
      clear hva hms hsp hsh hrs hm hk
      have h00 : decide ((0 : Int) < n') = true := decide_eq_true (by omega)
      have hmi : (0 : Int) < (m : Int) := by omega
      have hmi1 : (1 : Int) ≤ (m : Int) := by omega
      by_cases hcA : c' = 1
      · subst hcA; obtain rfl : m = 1 := by omega
        go_wp2_with fail
        refine (HPT.out _ HBR.out).mono ?_; rintro e w1 ⟨rfl, hb1⟩
        have HB1 := Lib.hid (below_more HBR.out hb1)
        have HBW1 := Lib.hid (below_more HBW.out hb1)
        have HO1 := Lib.hid (ownsRow_of_block HOW.out (fun g hg => hb1.block g (HOW.out.lt g hg).2))
        have HK1 := Lib.hid hb1
        have hwsz := HBR.out.size
        have HLTO := Lib.hid (fun g hg => (HOW.out.lt g hg).2)
        obtain ⟨Av, cv, hv, -, -, -, -⟩ := own_slice HOW.out
        subst hv
        have HDR := Lib.hid (show Below W.heap.size W w1.drew from HBW1.out.drew)
        have HKS := Lib.hid (fun wx (hb : Below W.heap.size W wx) => show (wx.cell? ⟨w.heap.size, 0, none⟩ = some (.int .i64 L.per) ∧ wx.cell? ⟨w.heap.size, 1, none⟩ = some (.slice L.A L.ms.length L.cap) ∧ wx.cell? ⟨w.heap.size, 2, none⟩ = some (.bool cw) ∧ wx.cell? ⟨w.heap.size, 3, none⟩ = some (.bool mw) ∧ wx.cell? ⟨w.heap.size, 4, none⟩ = some (.func (.func a1) #[] #[]) ∧ wx.cell? ⟨w.heap.size, 5, none⟩ = some (.func (.func a2) #[] #[]) ∧ wx.cell? ⟨w.heap.size, 6, none⟩ = some (.func (.func 172) #[] #[.pointer (some ⟨pw, 0, none⟩)]) ∧ wx.cell? ⟨w.heap.size, 7, none⟩ = some (.func (.func b1) #[] #[]) ∧ wx.cell? ⟨w.heap.size, 8, none⟩ = some (.func (.func b2) #[] #[]) ∧ wx.cell? ⟨w.heap.size, 9, none⟩ = some (.func (.func 172) #[] #[.pointer (some ⟨qw, 0, none⟩)])) ∧ (wx.cell? ⟨b, o, none⟩ = some (.int .i64 u.kind) ∧ wx.cell? ⟨b, o + 1, none⟩ = some (.int .i64 u.depth) ∧ wx.cell? ⟨b, o + 2, none⟩ = some (.int .i64 u.sign) ∧ wx.cell? ⟨b, o + 3, none⟩ = some (.int .i64 u.turn) ∧ wx.cell? ⟨b, o + 4, none⟩ = some (.bool u.mirror) ∧ wx.cell? ⟨b, o + 5, none⟩ = some (.int .i64 u.state) ∧ wx.cell? ⟨b, o + 6, none⟩ = some (.int .i64 u.min) ∧ wx.cell? ⟨b, o + 7, none⟩ = some (.int .i64 u.max)) from
          have d := blk_keep hb D0.out
          ⟨⟨cell_of_blk d 0, cell_of_blk d 1, cell_of_blk d 2, cell_of_blk d 3, cell_of_blk d 4, cell_of_blk d 5, cell_of_blk d 6, cell_of_blk d 7, cell_of_blk d 8, cell_of_blk d 9⟩, HND.out _ (below_more HB.out hb)⟩)
        clear hb1 HPT HOW
        go_wp2_with fail
        go_region_held3 (fun wx => (wx.cell? ⟨w.heap.size, 0, none⟩ = some (.int .i64 L.per) ∧ wx.cell? ⟨w.heap.size, 1, none⟩ = some (.slice L.A L.ms.length L.cap) ∧ wx.cell? ⟨w.heap.size, 2, none⟩ = some (.bool cw) ∧ wx.cell? ⟨w.heap.size, 3, none⟩ = some (.bool mw) ∧ wx.cell? ⟨w.heap.size, 4, none⟩ = some (.func (.func a1) #[] #[]) ∧ wx.cell? ⟨w.heap.size, 5, none⟩ = some (.func (.func a2) #[] #[]) ∧ wx.cell? ⟨w.heap.size, 6, none⟩ = some (.func (.func 172) #[] #[.pointer (some ⟨pw, 0, none⟩)]) ∧ wx.cell? ⟨w.heap.size, 7, none⟩ = some (.func (.func b1) #[] #[]) ∧ wx.cell? ⟨w.heap.size, 8, none⟩ = some (.func (.func b2) #[] #[]) ∧ wx.cell? ⟨w.heap.size, 9, none⟩ = some (.func (.func 172) #[] #[.pointer (some ⟨qw, 0, none⟩)])) ∧ (wx.cell? ⟨b, o, none⟩ = some (.int .i64 u.kind) ∧ wx.cell? ⟨b, o + 1, none⟩ = some (.int .i64 u.depth) ∧ wx.cell? ⟨b, o + 2, none⟩ = some (.int .i64 u.sign) ∧ wx.cell? ⟨b, o + 3, none⟩ = some (.int .i64 u.turn) ∧ wx.cell? ⟨b, o + 4, none⟩ = some (.bool u.mirror) ∧ wx.cell? ⟨b, o + 5, none⟩ = some (.int .i64 u.state) ∧ wx.cell? ⟨b, o + 6, none⟩ = some (.int .i64 u.min) ∧ wx.cell? ⟨b, o + 7, none⟩ = some (.int .i64 u.max)))
          ((refine HKS.out _ ?_; first | exact HDR.out | exact hbw2 | exact hbw2.alloc hz2 _ | exact hbw4))
          (first
            | (go_at_call 94; refine (HSH.out _ (below_more HB.out HDR.out) (some ⟨b, o, none⟩) 0 (by have h0 : bl = [] := List.eq_nil_of_length_eq_zero (by have := HBLL.out; omega); rw [h0]; exact NdsAt.nil _ _) (by omega) (by unfold maxLen; omega)).mono ?_; rintro e w2 ⟨v2, rfl, hsv2, hb2⟩; obtain ⟨ar2, rfl⟩ := hsv2.iface; have hbw2 := below_more HDR.out hb2; have hz2 := hbw2.size; have hz3 : w1.heap.size ≤ w2.heap.size := hb2.size
               have hown3 := ((ownsRow_of_block HO1.out (fun g hg => hb2.block g (HO1.out.lt g hg).2)).alloc (.cells #[.iface (tyOf k) ar2] 111))
               have hone3 : ∀ u ∈ [Value.iface (tyOf k) ar2], u.oneCell' = true := fun u hu => by simp at hu; subst hu; rfl
               have hbase3 : W.heap.size ≤ (w2.alloc (.cells #[.iface (tyOf k) ar2] 111)).heap.size := by rw [World.size_alloc]; omega
               have hc23 : ∀ ad, some (⟨w2.heap.size, 0, none⟩ : Addr) = some ad → ∀ (i : Nat) (u' : Value), [Value.iface (tyOf k) ar2][i]? = some u' → (w2.alloc (.cells #[.iface (tyOf k) ar2] 111)).cell? (ad.add i) = some u' := fun ad had i u' hj => by
                 injection had with had; subst had
                 have := new_one w2 (.iface (tyOf k) ar2) 111 i u' hj
                 rw [show (⟨w2.heap.size, 0, none⟩ : Addr).add i = ⟨w2.heap.size, i, none⟩ by simp [Addr.add] <;> omega]; exact this)
            | (refine step_append_src2 _ rfl (.tmp 12) (.tmp 20) 112 rfl W.heap.size 111 iv .nilIface 1 16 Tryz.underlying112 hiv.out hzv.out hsv.out hbv.out rfl (by decide) (.slice Av j cv) j vs rfl hown3 (some ⟨w2.heap.size, 0, none⟩) 1 1 [.iface (tyOf k) ar2] rfl rfl (by intro h; cases h) hc23 hone3 (by unfold maxLen; omega) (by omega) hbase3 (j + 1) rfl ?_; intro A4 c4 w4 own4 hg4 hn4; have hbw4 : Below W.heap.size W w4 := (hbw2.alloc hz2 _).grown hg4 (by rw [World.size_alloc]; omega) (fun g hg => (HO1.out.lt g hg).1))
            | fail)
        have HK4 := Lib.hid (show KidsOk w w4 (.slice A4 (j + 1) c4) (ks.take (j + 1)) (vs ++ [.iface (tyOf k) ar2]) by
          rw [HTK.out]
          exact kids_step HKI.out hwsz (HK1.out.drew.trans (hb2.mono (show wr.heap.size ≤ w1.heap.size from HK1.out.size))) HLTO.out HK1.out.size hsv2 (below_alloc w2 _) hg4 hn4)
        have HO4 := Lib.hid own4
        have HBW4 := Lib.hid hbw4
        have HB4 := Lib.hid (below_more HB.out hbw4)
        clear own4 hg4 hn4 hbw4 hsv2 hb2 hbw2 hz2 hz3 HKS HDR HSH HND
        go_wp2_with fail
        go_roundw
        case rel => exact ⟨j + 1, 0, 0, _, rest, vs ++ [.iface (tyOf k) ar2], by first | rfl | (simp; done) | (simp; omega), by omega, by omega, by omega, Lib.hid ⟨HB4.out, HBW4.out⟩, Lib.hid (by have := HRL.out; omega), Lib.hid (by have h0 : rest = [] := List.eq_nil_of_length_eq_zero (by have := HRL.out; omega); rw [h0]; exact NdsAt.nil _ _), HRO, HO4, HK4⟩
        case measure => simp; omega
      by_cases hcB : c' = m
      · subst hcB; have hcA2 : (c' = 1) = False := eq_false hcA
        go_wp2_with fail
        refine (HPT.out _ HBR.out).mono ?_; rintro e w1 ⟨rfl, hb1⟩
        have HB1 := Lib.hid (below_more HBR.out hb1)
        have HBW1 := Lib.hid (below_more HBW.out hb1)
        have HO1 := Lib.hid (ownsRow_of_block HOW.out (fun g hg => hb1.block g (HOW.out.lt g hg).2))
        have HK1 := Lib.hid hb1
        have hwsz := HBR.out.size
        have HLTO := Lib.hid (fun g hg => (HOW.out.lt g hg).2)
        obtain ⟨Av, cv, hv, -, -, -, -⟩ := own_slice HOW.out
        subst hv
        have HDR := Lib.hid (show Below W.heap.size W w1.drew from HBW1.out.drew)
        have HKS := Lib.hid (fun wx (hb : Below W.heap.size W wx) => show (wx.cell? ⟨w.heap.size, 0, none⟩ = some (.int .i64 L.per) ∧ wx.cell? ⟨w.heap.size, 1, none⟩ = some (.slice L.A L.ms.length L.cap) ∧ wx.cell? ⟨w.heap.size, 2, none⟩ = some (.bool cw) ∧ wx.cell? ⟨w.heap.size, 3, none⟩ = some (.bool mw) ∧ wx.cell? ⟨w.heap.size, 4, none⟩ = some (.func (.func a1) #[] #[]) ∧ wx.cell? ⟨w.heap.size, 5, none⟩ = some (.func (.func a2) #[] #[]) ∧ wx.cell? ⟨w.heap.size, 6, none⟩ = some (.func (.func 172) #[] #[.pointer (some ⟨pw, 0, none⟩)]) ∧ wx.cell? ⟨w.heap.size, 7, none⟩ = some (.func (.func b1) #[] #[]) ∧ wx.cell? ⟨w.heap.size, 8, none⟩ = some (.func (.func b2) #[] #[]) ∧ wx.cell? ⟨w.heap.size, 9, none⟩ = some (.func (.func 172) #[] #[.pointer (some ⟨qw, 0, none⟩)])) ∧ (wx.cell? ⟨b, o, none⟩ = some (.int .i64 u.kind) ∧ wx.cell? ⟨b, o + 1, none⟩ = some (.int .i64 u.depth) ∧ wx.cell? ⟨b, o + 2, none⟩ = some (.int .i64 u.sign) ∧ wx.cell? ⟨b, o + 3, none⟩ = some (.int .i64 u.turn) ∧ wx.cell? ⟨b, o + 4, none⟩ = some (.bool u.mirror) ∧ wx.cell? ⟨b, o + 5, none⟩ = some (.int .i64 u.state) ∧ wx.cell? ⟨b, o + 6, none⟩ = some (.int .i64 u.min) ∧ wx.cell? ⟨b, o + 7, none⟩ = some (.int .i64 u.max)) from
          have d := blk_keep hb D0.out
          ⟨⟨cell_of_blk d 0, cell_of_blk d 1, cell_of_blk d 2, cell_of_blk d 3, cell_of_blk d 4, cell_of_blk d 5, cell_of_blk d 6, cell_of_blk d 7, cell_of_blk d 8, cell_of_blk d 9⟩, HND.out _ (below_more HB.out hb)⟩)
        clear hb1 HPT HOW
        go_wp2_with fail
        go_region_held3 (fun wx => (wx.cell? ⟨w.heap.size, 0, none⟩ = some (.int .i64 L.per) ∧ wx.cell? ⟨w.heap.size, 1, none⟩ = some (.slice L.A L.ms.length L.cap) ∧ wx.cell? ⟨w.heap.size, 2, none⟩ = some (.bool cw) ∧ wx.cell? ⟨w.heap.size, 3, none⟩ = some (.bool mw) ∧ wx.cell? ⟨w.heap.size, 4, none⟩ = some (.func (.func a1) #[] #[]) ∧ wx.cell? ⟨w.heap.size, 5, none⟩ = some (.func (.func a2) #[] #[]) ∧ wx.cell? ⟨w.heap.size, 6, none⟩ = some (.func (.func 172) #[] #[.pointer (some ⟨pw, 0, none⟩)]) ∧ wx.cell? ⟨w.heap.size, 7, none⟩ = some (.func (.func b1) #[] #[]) ∧ wx.cell? ⟨w.heap.size, 8, none⟩ = some (.func (.func b2) #[] #[]) ∧ wx.cell? ⟨w.heap.size, 9, none⟩ = some (.func (.func 172) #[] #[.pointer (some ⟨qw, 0, none⟩)])) ∧ (wx.cell? ⟨b, o, none⟩ = some (.int .i64 u.kind) ∧ wx.cell? ⟨b, o + 1, none⟩ = some (.int .i64 u.depth) ∧ wx.cell? ⟨b, o + 2, none⟩ = some (.int .i64 u.sign) ∧ wx.cell? ⟨b, o + 3, none⟩ = some (.int .i64 u.turn) ∧ wx.cell? ⟨b, o + 4, none⟩ = some (.bool u.mirror) ∧ wx.cell? ⟨b, o + 5, none⟩ = some (.int .i64 u.state) ∧ wx.cell? ⟨b, o + 6, none⟩ = some (.int .i64 u.min) ∧ wx.cell? ⟨b, o + 7, none⟩ = some (.int .i64 u.max)))
          ((refine HKS.out _ ?_; first | exact HDR.out | exact hbw2 | exact hbw2.alloc hz2 _ | exact hbw4))
          (first
            | (go_at_call 94; refine (HSH.out _ (below_more HB.out HDR.out) (some ⟨b, o + 8, none⟩) (c' - 1) (HBL.out) (by omega) (by unfold maxLen; omega)).mono ?_; rintro e w2 ⟨v2, rfl, hsv2, hb2⟩; obtain ⟨ar2, rfl⟩ := hsv2.iface; have hbw2 := below_more HDR.out hb2; have hz2 := hbw2.size; have hz3 : w1.heap.size ≤ w2.heap.size := hb2.size
               have hown3 := ((ownsRow_of_block HO1.out (fun g hg => hb2.block g (HO1.out.lt g hg).2)).alloc (.cells #[.iface (tyOf k) ar2] 111))
               have hone3 : ∀ u ∈ [Value.iface (tyOf k) ar2], u.oneCell' = true := fun u hu => by simp at hu; subst hu; rfl
               have hbase3 : W.heap.size ≤ (w2.alloc (.cells #[.iface (tyOf k) ar2] 111)).heap.size := by rw [World.size_alloc]; omega
               have hc23 : ∀ ad, some (⟨w2.heap.size, 0, none⟩ : Addr) = some ad → ∀ (i : Nat) (u' : Value), [Value.iface (tyOf k) ar2][i]? = some u' → (w2.alloc (.cells #[.iface (tyOf k) ar2] 111)).cell? (ad.add i) = some u' := fun ad had i u' hj => by
                 injection had with had; subst had
                 have := new_one w2 (.iface (tyOf k) ar2) 111 i u' hj
                 rw [show (⟨w2.heap.size, 0, none⟩ : Addr).add i = ⟨w2.heap.size, i, none⟩ by simp [Addr.add] <;> omega]; exact this)
            | (refine step_append_src2 _ rfl (.tmp 12) (.tmp 20) 112 rfl W.heap.size 111 iv .nilIface 1 16 Tryz.underlying112 hiv.out hzv.out hsv.out hbv.out rfl (by decide) (.slice Av j cv) j vs rfl hown3 (some ⟨w2.heap.size, 0, none⟩) 1 1 [.iface (tyOf k) ar2] rfl rfl (by intro h; cases h) hc23 hone3 (by unfold maxLen; omega) (by omega) hbase3 (j + 1) rfl ?_; intro A4 c4 w4 own4 hg4 hn4; have hbw4 : Below W.heap.size W w4 := (hbw2.alloc hz2 _).grown hg4 (by rw [World.size_alloc]; omega) (fun g hg => (HO1.out.lt g hg).1))
            | fail)
        have HK4 := Lib.hid (show KidsOk w w4 (.slice A4 (j + 1) c4) (ks.take (j + 1)) (vs ++ [.iface (tyOf k) ar2]) by
          rw [HTK.out]
          exact kids_step HKI.out hwsz (HK1.out.drew.trans (hb2.mono (show wr.heap.size ≤ w1.heap.size from HK1.out.size))) HLTO.out HK1.out.size hsv2 (below_alloc w2 _) hg4 hn4)
        have HO4 := Lib.hid own4
        have HBW4 := Lib.hid hbw4
        have HB4 := Lib.hid (below_more HB.out hbw4)
        clear own4 hg4 hn4 hbw4 hsv2 hb2 hbw2 hz2 hz3 HKS HDR HSH HND
        go_wp2_with fail
        go_roundw
        case rel => exact ⟨j + 1, 0, 0, _, rest, vs ++ [.iface (tyOf k) ar2], by first | rfl | (simp; done) | (simp; omega), by omega, by omega, by omega, Lib.hid ⟨HB4.out, HBW4.out⟩, Lib.hid (by have := HRL.out; omega), Lib.hid (by have h0 : rest = [] := List.eq_nil_of_length_eq_zero (by have := HRL.out; omega); rw [h0]; exact NdsAt.nil _ _), HRO, HO4, HK4⟩
        case measure => simp; omega
      · have hcA2 : (c' = 1) = False := eq_false hcA; have hcB2 : (c' = m) = False := eq_false hcB
        go_wp2_with fail
        refine (HPT.out _ HBR.out).mono ?_; rintro e w1 ⟨rfl, hb1⟩
        have HB1 := Lib.hid (below_more HBR.out hb1)
        have HBW1 := Lib.hid (below_more HBW.out hb1)
        have HO1 := Lib.hid (ownsRow_of_block HOW.out (fun g hg => hb1.block g (HOW.out.lt g hg).2))
        have HK1 := Lib.hid hb1
        have hwsz := HBR.out.size
        have HLTO := Lib.hid (fun g hg => (HOW.out.lt g hg).2)
        obtain ⟨Av, cv, hv, -, -, -, -⟩ := own_slice HOW.out
        subst hv
        have HDR := Lib.hid (show Below W.heap.size W w1.drew from HBW1.out.drew)
        have HKS := Lib.hid (fun wx (hb : Below W.heap.size W wx) => show (wx.cell? ⟨w.heap.size, 0, none⟩ = some (.int .i64 L.per) ∧ wx.cell? ⟨w.heap.size, 1, none⟩ = some (.slice L.A L.ms.length L.cap) ∧ wx.cell? ⟨w.heap.size, 2, none⟩ = some (.bool cw) ∧ wx.cell? ⟨w.heap.size, 3, none⟩ = some (.bool mw) ∧ wx.cell? ⟨w.heap.size, 4, none⟩ = some (.func (.func a1) #[] #[]) ∧ wx.cell? ⟨w.heap.size, 5, none⟩ = some (.func (.func a2) #[] #[]) ∧ wx.cell? ⟨w.heap.size, 6, none⟩ = some (.func (.func 172) #[] #[.pointer (some ⟨pw, 0, none⟩)]) ∧ wx.cell? ⟨w.heap.size, 7, none⟩ = some (.func (.func b1) #[] #[]) ∧ wx.cell? ⟨w.heap.size, 8, none⟩ = some (.func (.func b2) #[] #[]) ∧ wx.cell? ⟨w.heap.size, 9, none⟩ = some (.func (.func 172) #[] #[.pointer (some ⟨qw, 0, none⟩)])) ∧ (wx.cell? ⟨b, o, none⟩ = some (.int .i64 u.kind) ∧ wx.cell? ⟨b, o + 1, none⟩ = some (.int .i64 u.depth) ∧ wx.cell? ⟨b, o + 2, none⟩ = some (.int .i64 u.sign) ∧ wx.cell? ⟨b, o + 3, none⟩ = some (.int .i64 u.turn) ∧ wx.cell? ⟨b, o + 4, none⟩ = some (.bool u.mirror) ∧ wx.cell? ⟨b, o + 5, none⟩ = some (.int .i64 u.state) ∧ wx.cell? ⟨b, o + 6, none⟩ = some (.int .i64 u.min) ∧ wx.cell? ⟨b, o + 7, none⟩ = some (.int .i64 u.max)) from
          have d := blk_keep hb D0.out
          ⟨⟨cell_of_blk d 0, cell_of_blk d 1, cell_of_blk d 2, cell_of_blk d 3, cell_of_blk d 4, cell_of_blk d 5, cell_of_blk d 6, cell_of_blk d 7, cell_of_blk d 8, cell_of_blk d 9⟩, HND.out _ (below_more HB.out hb)⟩)
        clear hb1 HPT HOW
        go_wp2_with fail
        go_region_held3 (fun wx => (wx.cell? ⟨w.heap.size, 0, none⟩ = some (.int .i64 L.per) ∧ wx.cell? ⟨w.heap.size, 1, none⟩ = some (.slice L.A L.ms.length L.cap) ∧ wx.cell? ⟨w.heap.size, 2, none⟩ = some (.bool cw) ∧ wx.cell? ⟨w.heap.size, 3, none⟩ = some (.bool mw) ∧ wx.cell? ⟨w.heap.size, 4, none⟩ = some (.func (.func a1) #[] #[]) ∧ wx.cell? ⟨w.heap.size, 5, none⟩ = some (.func (.func a2) #[] #[]) ∧ wx.cell? ⟨w.heap.size, 6, none⟩ = some (.func (.func 172) #[] #[.pointer (some ⟨pw, 0, none⟩)]) ∧ wx.cell? ⟨w.heap.size, 7, none⟩ = some (.func (.func b1) #[] #[]) ∧ wx.cell? ⟨w.heap.size, 8, none⟩ = some (.func (.func b2) #[] #[]) ∧ wx.cell? ⟨w.heap.size, 9, none⟩ = some (.func (.func 172) #[] #[.pointer (some ⟨qw, 0, none⟩)])) ∧ (wx.cell? ⟨b, o, none⟩ = some (.int .i64 u.kind) ∧ wx.cell? ⟨b, o + 1, none⟩ = some (.int .i64 u.depth) ∧ wx.cell? ⟨b, o + 2, none⟩ = some (.int .i64 u.sign) ∧ wx.cell? ⟨b, o + 3, none⟩ = some (.int .i64 u.turn) ∧ wx.cell? ⟨b, o + 4, none⟩ = some (.bool u.mirror) ∧ wx.cell? ⟨b, o + 5, none⟩ = some (.int .i64 u.state) ∧ wx.cell? ⟨b, o + 6, none⟩ = some (.int .i64 u.min) ∧ wx.cell? ⟨b, o + 7, none⟩ = some (.int .i64 u.max)))
          ((refine HKS.out _ ?_; first | exact HDR.out | exact hbw2 | exact hbw2.alloc hz2 _ | exact hbw4))
          (first
            | (go_at_call 94; refine (HSH.out _ (below_more HB.out HDR.out) (some ⟨b, o + 8, none⟩) (c' - 1) (HBL.out) (by omega) (by unfold maxLen; omega)).mono ?_; rintro e w2 ⟨v2, rfl, hsv2, hb2⟩; obtain ⟨ar2, rfl⟩ := hsv2.iface; have hbw2 := below_more HDR.out hb2; have hz2 := hbw2.size; have hz3 : w1.heap.size ≤ w2.heap.size := hb2.size
               have hown3 := ((ownsRow_of_block HO1.out (fun g hg => hb2.block g (HO1.out.lt g hg).2)).alloc (.cells #[.iface (tyOf k) ar2] 111))
               have hone3 : ∀ u ∈ [Value.iface (tyOf k) ar2], u.oneCell' = true := fun u hu => by simp at hu; subst hu; rfl
               have hbase3 : W.heap.size ≤ (w2.alloc (.cells #[.iface (tyOf k) ar2] 111)).heap.size := by rw [World.size_alloc]; omega
               have hc23 : ∀ ad, some (⟨w2.heap.size, 0, none⟩ : Addr) = some ad → ∀ (i : Nat) (u' : Value), [Value.iface (tyOf k) ar2][i]? = some u' → (w2.alloc (.cells #[.iface (tyOf k) ar2] 111)).cell? (ad.add i) = some u' := fun ad had i u' hj => by
                 injection had with had; subst had
                 have := new_one w2 (.iface (tyOf k) ar2) 111 i u' hj
                 rw [show (⟨w2.heap.size, 0, none⟩ : Addr).add i = ⟨w2.heap.size, i, none⟩ by simp [Addr.add] <;> omega]; exact this)
            | (refine step_append_src2 _ rfl (.tmp 12) (.tmp 20) 112 rfl W.heap.size 111 iv .nilIface 1 16 Tryz.underlying112 hiv.out hzv.out hsv.out hbv.out rfl (by decide) (.slice Av j cv) j vs rfl hown3 (some ⟨w2.heap.size, 0, none⟩) 1 1 [.iface (tyOf k) ar2] rfl rfl (by intro h; cases h) hc23 hone3 (by unfold maxLen; omega) (by omega) hbase3 (j + 1) rfl ?_; intro A4 c4 w4 own4 hg4 hn4; have hbw4 : Below W.heap.size W w4 := (hbw2.alloc hz2 _).grown hg4 (by rw [World.size_alloc]; omega) (fun g hg => (HO1.out.lt g hg).1))
            | fail)
        have HK4 := Lib.hid (show KidsOk w w4 (.slice A4 (j + 1) c4) (ks.take (j + 1)) (vs ++ [.iface (tyOf k) ar2]) by
          rw [HTK.out]
          exact kids_step HKI.out hwsz (HK1.out.drew.trans (hb2.mono (show wr.heap.size ≤ w1.heap.size from HK1.out.size))) HLTO.out HK1.out.size hsv2 (below_alloc w2 _) hg4 hn4)
        have HO4 := Lib.hid own4
        have HBW4 := Lib.hid hbw4
        have HB4 := Lib.hid (below_more HB.out hbw4)
        clear own4 hg4 hn4 hbw4 hsv2 hb2 hbw2 hz2 hz3 HKS HDR HSH HND
        go_wp2_with fail
        go_roundw
        case rel => exact ⟨j + 1, n' - m, c' - m, _, rest, vs ++ [.iface (tyOf k) ar2], by first | rfl | (simp; done) | (simp; omega), by omega, by omega, by omega, Lib.hid ⟨HB4.out, HBW4.out⟩, HRL, Lib.hid HRS.out, HRO, HO4, HK4⟩
        case measure => simp; omega
    · obtain rfl : j = K := by omega
      have hms : ms = [] := by
        have h := HOR.out
        rw [HKK.out, List.drop_length] at h; exact h
      obtain rfl : n' = 0 := by rw [HNL.out, hms]; rfl
      obtain ⟨A2, c2, hv, -, -, -, -⟩ := own_slice HOW.out
      subst hv
      have hki := HKI.out
      have hte : ks.take j = ks := by rw [HKK.out, List.take_length]
      rw [hte] at hki
      have HE := Lib.hid (kids_end hki (own_base HOW.out HB.out.size) HKK.out)
      clear hki hte
      go_wp2_with fail
      go_ret
      exact ⟨A2, c2, rfl, HE.out.1, HE.out.2.1, HE.out.2.2, HBR.out⟩
end Go.Proofs.YtmiokllpdmmfhaaGreat
