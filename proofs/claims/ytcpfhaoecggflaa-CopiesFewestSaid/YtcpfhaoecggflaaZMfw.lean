/-
  CopiesFewest, for every input: the law returns true, and the input reads as it did.
-/
import Derived.Test.YtcpfhaoecggflaaZLfw
import Derived.Test.YtcpfhaoecggflaaZOpH
namespace Go.Proofs.Ytcpfhaoecggflaa.copiesFewest
open Go.ChangeShapes Go.WideShapes Go.ChangeAt Go.RowKit Go.Deep

set_option maxRecDepth 100000 in
theorem contract (H : Type) (enc : TypeId × Value → H) (W : World) (base : Nat) (args : Array Value) (ds gs : List (DataW H)) (before : List MemPlace)
    (hval : ∀ (j : Nat) t v, Try.f14.params[j]? = some t → args[j]? = some v → Value.okWide Try.prog W .any base t v)
    (hW : DataW.Whole enc Try.prog Try.f14.params.toList Rows.copiesFewestSpec.vars false W args.toList ds gs before)
    (hL : laidMetH Try.prog Rows.copiesFewestRow.laid W) (hsh : W.ShapedOpen Try.prog) :
    Calls Try.prog 14 args W fun e W' => ∃ v, e = .returned v ∧ Rows.copiesFewestSpec.post enc Try.prog Try.f14 false true false false W args v W' := by
  obtain ⟨p, q, hA0, hV, -, -, -⟩ := id hW
  obtain ⟨hgs, -⟩ := trodVars_none hV
  subst hgs
  have hA : DataW.TrodAll enc Try.prog W 0 (fun _ => true) true Try.f14.params.toList args.toList ds p := hA0
  rw [Try.params14] at hA hval
  obtain ⟨v0, vs0, d0, ds0, p0, q0, e10, rfl, -, h0, r0⟩ := trodAll_cons hA
  obtain ⟨v1, vs1, d1, ds1, p1, q1, e11, rfl, -, h1, r1⟩ := trodAll_cons r0
  obtain ⟨v2, vs2, d2, ds2, p2, q2, e12, rfl, -, h2, r2⟩ := trodAll_cons r1
  obtain ⟨e3, rfl, -⟩ := trodAll_nil r2
  obtain rfl : args = #[v0, v1, v2] := by cases args; simp_all
  obtain ⟨A0, cap0, zs0, rfl, hzs0, hlc0, hcm0⟩ := open_trs (hval 0 _ v0 rfl rfl) h0
  obtain ⟨n1, m1, rfl⟩ := open_ch (hval 1 _ v1 rfl rfl) h1
  obtain ⟨A2, cap2, zs2, rfl, hzs2, hlc2, hcm2⟩ := open_line (hval 2 _ v2 rfl rfl) h2
  refine (law_cfewest A0 cap0 zs0 n1 m1 A2 cap2 zs2 W hzs0 hlc0 hcm0 hzs2 hlc2 hcm2).mono fun e W' ⟨he, hb⟩ => ⟨_, he, ?_⟩
  exact post_true hW rfl (by kernel_rfl) rfl rfl rfl rfl hb

/-- the arguments of the witness -/
def wit : Array Value := #[.slice none 0 0, .agg #[.int .i64 0, .int .i64 0], .slice none 0 0]
theorem laid_met (os : Os) : laidMet Try.prog Rows.copiesFewestRow.laid ((World.holding Try.prog os ⟨#[], #[], []⟩).forCall (fun _ _ => 0) ⟨#[], wit, []⟩).memory :=
  laidMet_of_run3 8 (by kernel_rfl) (by kernel_rfl) (by kernel_rfl)
theorem reads (os : Os) {H : Type} (enc : TypeId × Value → H) : ∃ places, DataW.whole enc Try.prog ((World.holding Try.prog os ⟨#[], #[], []⟩).forCall (fun _ _ => 0) ⟨#[], wit, []⟩).memory Try.f14.params.toList Rows.copiesFewestSpec.vars false wit.toList 8 =
    some ([.nil, .agg [.lit (.int .i64 0), .lit (.int .i64 0)], .nil], [], places) :=
  ⟨[], by kernel_rfl⟩

set_option maxRecDepth 100000 in
theorem lifted (os : Os) (started : os.Started) (H : Type) (enc : TypeId × Value → H) (F : Stop.Interp) :
    ReturnsInHanded {} Try.checked os 14 .any ((OpenSpec.ofChange Rows.copiesFewestSpec).preRow enc Try.prog Try.f14 Rows.copiesFewestRow.domain false Rows.copiesFewestRow.laid) (((OpenSpec.ofChange Rows.copiesFewestSpec).at F).post enc Try.prog Try.f14 false true false false) := by
  obtain ⟨places, hx⟩ := reads os enc
  refine returnsInHanded_of_row (C := Try.checked) (s := OpenSpec.ofChange Rows.copiesFewestSpec) own started (by kernel_rfl) Try.func14
    (witness_row_at (enc := enc) (C := Try.checked) false (World.holding Try.prog os ⟨#[], #[], []⟩) wit rfl (by kernel_rfl) (by kernel_rfl) (by kernel_rfl)
      (OpenSpec.preRow_of_cond 8 hx (by kernel_rfl) (fun k hk => by cases hk) (by kernel_rfl) (laid_met os))) ?_
  intro W base args ds gs before hval hW _ _ _ hL hsh _
  exact contract H enc W base args ds gs before hval hW hL hsh

theorem said : Rows.CopiesFewestSaid :=
  OpenClaim.holds_of_cond 14 Try.f14 rfl rfl rfl rfl rfl rfl rfl ⟨rfl, rfl, rfl, rfl, rfl⟩ rfl rfl rfl rfl rfl (by kernel_rfl) Try.func14 (by kernel_rfl)
    (of_decide_eq_true (by kernel_rfl)) (by unfold Func.isWrapper; first | (rw [if_pos (by decide +kernel)]; kernel_rfl) | (rw [if_neg (by decide +kernel)]; exact ⟨rfl, rfl⟩))
    (fun os started H enc _ F => by rw [OpenClaim.pre_eq_preRow]; exact lifted os started H enc F)

end Go.Proofs.Ytcpfhaoecggflaa.copiesFewest
