/-
  Contract of the law of Apart: it returns true (layer 9).
-/
import Derived.Test.YtcpfhaoecggflaaZRap
import Derived.Test.YtcpfhaoecggflaaZWrk
namespace Go.Proofs.Ytcpfhaoecggflaa
open Go.RowKit

set_option maxRecDepth 100000 in
set_option maxHeartbeats 8000000 in
theorem law_ctells (A : Option Addr) (ca : Nat) (a : List (Int × Int)) (B : Option Addr) (cb : Nat) (b : List (Int × Int)) (n d : Int) (w : World) (hA : TlsIn w A a) (hla : a.length ≤ ca) (hca : ca ≤ maxLen) (hB : TlsIn w B b) (hlb : b.length ≤ cb) (hcb : cb ≤ maxLen) :
    Calls Try.prog 7 #[.slice A a.length ca, .slice B b.length cb, .agg #[.int .i64 n, .int .i64 d]] w fun e w' => e = .returned (.bool true) ∧ Below w.heap.size w w' := by
  obtain ⟨W, hW⟩ : ∃ W', W' = w.alloc (.cells #[.int .i64 n, .int .i64 d] 53) := ⟨_, rfl⟩; have szW : W.heap.size = w.heap.size + 1 := (by rw [hW]; simp); have kbW : Below w.heap.size w W := hW ▸ below_alloc _ _; have HBW := Lib.hid (kbW); have D0 := Lib.hid (show W.heap[w.heap.size]? = some (.cells #[.int .i64 n, .int .i64 d] 53 (0, 0)) by rw [hW]; exact heap_alloc_new _ _); have SZW := Lib.hid szW; clear szW kbW
  have HP := Lib.hid (apart_any A B ca cb a b n d W (hA.below HBW.out) (hB.below HBW.out) (Nat.le_trans hla hca) (Nat.le_trans hlb hcb))
  have HR := Lib.hid (fun wx (hb : Below w.heap.size w wx) => rapart_any A B ca cb a b n d wx (hA.below hb) (hB.below hb) (Nat.le_trans hla hca) (Nat.le_trans hlb hcb))
  unfold GotAp at HP HR
  obtain ⟨V, hV⟩ : ∃ V, V = apV a b n d := ⟨_, rfl⟩
  obtain ⟨E, hE⟩ : ∃ E, E = apE a b n d := ⟨_, rfl⟩
  simp only [← hV, ← hE] at HP HR
  obtain ⟨k, hk⟩ : ∃ k, k = a.length := ⟨_, rfl⟩
  obtain ⟨l, hl⟩ : ∃ l, l = b.length := ⟨_, rfl⟩
  rw [← hk, ← hl] at HP ⊢
  rw [← hk, ← hl] at HR
  clear hV hE hk hl hA hla hca hB hlb hcb
  go_enter Try.func7, Try.ntmps7
  go_wp2_with fail
  rw [← hW]; clear hW
  refine HP.out.mono ?_; rintro e w1 ⟨rfl, hb1⟩
  have HB1 := Lib.hid (below_more HBW.out hb1)
  have D0 := Lib.hid (blk_keep hb1 D0.out)
  clear hb1 HP
  have x0 := cell_of_blk D0.out 0; have x1 := cell_of_blk D0.out 1; have hz_x := (Array.getElem?_eq_some_iff.1 D0.out).1; simp at x0 x1
  go_wp2_with fail
  refine (HR.out _ (by first | exact HB1.out | exact below_more HB1.out (below_alloc _ _))).mono ?_; rintro e w2 ⟨rfl, hb2⟩
  have HB2 := Lib.hid (below_more HB1.out (by first | exact hb2 | exact below_more (below_alloc _ _) hb2))
  clear hb2 HR x0 x1 hz_x
  have e1 : (V == V) = true := by simp
  have e3 : (E == E) = true := by simp
  go_wp2_with fail
  refine (works_any _).mono ?_; rintro e w3 ⟨rfl, hb3⟩
  go_wp2
  go_ret
  exact ⟨rfl, below_more HB2.out hb3⟩

end Go.Proofs.Ytcpfhaoecggflaa
