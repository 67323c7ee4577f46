/-
  leaves, markOf, and the line of a text, by their contracts.
-/
import Derived.Test.YtbfedahonfjpfaaGVi2
import Derived.Laws.EntriesVeiled
namespace Go.Proofs.Ytbfedahonfjpfaa
open Go.RowKit

theorem pow_five : (6 : Nat) ^ 5 = 7776 := by decide
set_option maxRecDepth 100000 in
set_option maxHeartbeats 4000000 in
theorem leaves_any (A : Option Addr) (cap : Nat) (ns : List Nd) (hok : VisOk ns) (h0 : 0 < ns.length) (hl : ns.length ≤ cap) (hc : cap ≤ maxLen) (hsm : ns.length ≤ 1000000) (w : World) (hns : NdsAt w A ns) :
    Calls Try.prog 99 #[.slice A ns.length cap] w (GotRow w 78 8 (leavesF ns 5 0).length ((pickN ns (leavesF ns 5 0)).flatMap Nd.cells)) := by
  obtain ⟨u, hu⟩ : ∃ u, ns[0]? = some u := ⟨_, List.getElem?_eq_getElem h0⟩
  have HLL := Lib.hid (leavesF_len hok 5 0)
  rw [pow_five] at HLL
  have HV := Lib.hid (fun w' (acc : List Nd) (v : Value) (h1 : acc.length + (leavesF ns 5 0).length ≤ 2000000) (hvis : Vis (w.heap.size + 3) w.heap.size (w.heap.size + 1) (w.heap.size + 1 + 1) A cap ns w' acc v) =>
    visit_any (w.heap.size + 3) w.heap.size (w.heap.size + 1) (w.heap.size + 1 + 1) cap A ns hok hl hc hsm (by omega) (by omega) (by omega) (by omega) (by omega) 5 0 u acc v w' hu (by have := (hok.dep u (List.mem_of_getElem? hu)).1; omega) h1 hvis)
  have HNS := Lib.hid hns
  clear hns hu
  go_enter Try.func99, Try.ntmps99
  go_wp2_with fail
  obtain ⟨W, hW⟩ : ∃ W, W = (((w.alloc (.cells #[.slice A ns.length cap] 25)).alloc (.cells #[.slice none 0 0] 25)).alloc (.cells #[.func (.func 113) #[] #[.pointer (some ⟨w.heap.size, 0, none⟩), .pointer (some ⟨w.heap.size + 1, 0, none⟩), .pointer (some ⟨w.heap.size + 1 + 1, 0, none⟩)]] 128)) := ⟨_, rfl⟩
  rw [← hW]
  have hsz : W.heap.size = w.heap.size + 3 := by rw [hW]; simp
  have hB0 : Below w.heap.size w W := by
    rw [hW]; exact (((Below.refl _ w).alloc (Nat.le_refl _) _).alloc (by simp) _).alloc (by simp; omega) _
  have B2 : Boxed W (w.heap.size + 1 + 1) 128 (.func (.func 113) #[] #[.pointer (some ⟨w.heap.size, 0, none⟩), .pointer (some ⟨w.heap.size + 1, 0, none⟩), .pointer (some ⟨w.heap.size + 1 + 1, 0, none⟩)]) := by
    have := Boxed.new ((w.alloc (.cells #[.slice A ns.length cap] 25)).alloc (.cells #[.slice none 0 0] 25)) 128 (.func (.func 113) #[] #[.pointer (some ⟨w.heap.size, 0, none⟩), .pointer (some ⟨w.heap.size + 1, 0, none⟩), .pointer (some ⟨w.heap.size + 1 + 1, 0, none⟩)])
    simp only [World.size_alloc] at this; rw [hW]; exact this
  have B1 : Boxed W (w.heap.size + 1) 25 (.slice none 0 0) := by
    have := Boxed.new (w.alloc (.cells #[.slice A ns.length cap] 25)) 25 (.slice none 0 0)
    simp only [World.size_alloc] at this; rw [hW]; exact this.alloc _
  have B0 : Boxed W w.heap.size 25 (.slice A ns.length cap) := by
    have := Boxed.new w 25 (.slice A ns.length cap)
    rw [hW]; exact (this.alloc _).alloc _
  have HVI := Lib.hid (show Vis (w.heap.size + 3) w.heap.size (w.heap.size + 1) (w.heap.size + 1 + 1) A cap ns W [] (.slice none 0 0) from
    ⟨B0, B1, B2, fun k x hk => by
      obtain ⟨b, o, e, hlt, hv⟩ := HNS.out k x hk
      exact ⟨b, o, e, by omega, by omega, hv.below hB0 hlt⟩, World.ownsRow_nil _ _ _ _, by omega⟩)
  have HB0 := Lib.hid hB0
  have HSZ := Lib.hid hsz
  clear hW hsz hB0 B0 B1 B2
  refine (HV.out W [] (.slice none 0 0) (by have := HLL.out; simp; omega) HVI.out).mono ?_; rintro e w1 ⟨rfl, v, hv, hk⟩
  have hc1 := hv.f.cell
  have HR := Lib.hid (And.intro hv.own hk)
  clear hv hk
  go_wp2_with fail
  go_ret
  obtain ⟨A2, c2, rfl, -, -, -, -⟩ := own_slice HR.out.1
  have e1 : (([] : List Nd) ++ pickN ns (leavesF ns 5 0)).length = (leavesF ns 5 0).length := by simp [pickN]
  have h1 := HR.out.1
  rw [e1] at h1
  refine ⟨A2, c2, by rw [← e1]; rfl, own_base h1 (by omega), ?_⟩
  have hs := HSZ.out
  have hb := HB0.out
  refine ⟨HR.out.2.os.trans hb.os, HR.out.2.tape.trans hb.tape, HR.out.2.output.trans hb.output, by have := HR.out.2.size; omega, fun j hj => ?_⟩
  rw [HR.out.2.block j (by omega) (by omega) (by simp [Value.ownBlock]), hb.block j hj]

def markV (k s st mn mx : Int) : Value := if k = 6 then .agg #[.int .i64 (-1), .int .i64 0, .int .i64 mn, .int .i64 mx] else .agg #[.int .i64 s, .int .i64 st, .int .i64 0, .int .i64 0]
set_option maxHeartbeats 1600000 in
theorem markOf_any (u : Nd) (w : World) : Calls Try.prog 100 #[u.val] w fun e w' => e = .returned (markV u.kind u.sign u.state u.min u.max) ∧ Below w.heap.size w w' := by
  obtain ⟨kind, depth, sign, turn, mirror, state, mn, mx⟩ := u
  unfold Nd.val
  dsimp only
  by_cases h6 : kind = 6
  · subst h6
    have HF := Lib.hid (show markV 6 sign state mn mx = .agg #[.int .i64 (-1), .int .i64 0, .int .i64 mn, .int .i64 mx] from if_pos rfl)
    go_enter Try.func100, Try.ntmps100
    go_wp2
    refine bodyPost_ret (v := .agg #[.int .i64 (-1), .int .i64 0, .int .i64 mn, .int .i64 mx]) (by simp [results, Try.results100, go_sem]) rfl ⟨by rw [HF.out], two_under _ _ _⟩
  · have hb : (kind == 6) = false := by simpa using h6
    have HF := Lib.hid (show markV kind sign state mn mx = .agg #[.int .i64 sign, .int .i64 state, .int .i64 0, .int .i64 0] from if_neg h6)
    clear h6
    go_enter Try.func100, Try.ntmps100
    go_wp2
    refine bodyPost_ret (v := .agg #[.int .i64 sign, .int .i64 state, .int .i64 0, .int .i64 0]) (by simp [results, Try.results100, go_sem]) rfl ⟨by rw [HF.out], two_under _ _ _⟩

end Go.Proofs.Ytbfedahonfjpfaa
