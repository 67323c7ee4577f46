/-
  Contract of the laws' look at an example: it returns true.
-/
import Derived.Test.YtleihhkacmgofaaGreatDoorParse
import Derived.Test.YtleihhkacmgofaaGreatDoorNam2
namespace Go.Proofs.YtleihhkacmgofaaGreatDoor
open Go.RowKit

/-- the example's text -/
def exText : ByteArray := ⟨#[112, 101, 114, 105, 111, 100, 115, 32, 50, 10, 65, 49, 32, 52, 120, 54, 32, 115, 58, 110, 102, 114, 64, 49, 45, 50, 10, 66, 50, 32, 51, 120, 51, 32, 61, 32, 115, 58, 110, 102, 114, 64, 50, 45, 50, 10]⟩
theorem ex_parse : (parseP exText).2 = (0, 0) ∧ (parseP exText).1.signs.length = 2 := by decide +kernel
theorem ex_name : (nameR (parseP exText).1 1 ⟨#[110, 102, 114]⟩ 2).1.data.toList = [110, 102, 114, 50] ∧ (nameR (parseP exText).1 1 ⟨#[110, 102, 114]⟩ 2).2 = 0 := by decide +kernel

set_option maxHeartbeats 1600000 in
theorem works_any (w : World) (hE : Env w) : Calls Tryz.prog 7 #[] w fun e w' => e = .returned (.bool true) ∧ Below w.heap.size w w' := by
  have HP := Lib.hid (show Calls Tryz.prog 20 #[.string exText] w (GotParse w (parseP exText)) from parse_any exText w hE (by decide))
  have h1 := ex_parse
  have h2 := ex_name
  obtain ⟨⟨li, ln, er⟩, hp⟩ : ∃ p, p = parseP exText := ⟨_, rfl⟩
  rw [← hp] at h1 h2 HP
  dsimp only at h1 h2
  clear hp
  obtain ⟨h11, h12⟩ := h1
  injection h11 with h13 h14
  subst h13 h14
  unfold exText at HP
  have HN := Lib.hid h2
  have HL := Lib.hid h12
  clear h2 h12
  go_enter Tryz.func7, Tryz.ntmps7
  go_wp2_with fail
  refine (HP.out).mono ?_; rintro e w1 ⟨⟨per, ms, A, cap⟩, rfl, hok, hli, hb⟩
  have hli : (⟨per, ms, A, cap⟩ : Lm).li = li := hli
  unfold Lm.val
  dsimp only
  have hn2 : ms.length = 2 := by
    have := HL.out; rw [← hli] at this; simpa [Lm.li, Lm.signs] using this
  have HOK := Lib.hid hok
  have HLI := Lib.hid hli
  have b1 := Lib.hid hb
  have HN2 := Lib.hid hn2
  rw [hn2]
  clear hok hli hb hn2
  have HNM := Lib.hid (fun (w : World) (hE : Env w) (hok : LmOk w ⟨per, ms, A, cap⟩) => show Calls Tryz.prog 21 #[.agg #[.int .i64 per, .slice A 2 cap], .int .i64 1, .string ⟨#[110, 102, 114]⟩, .int .i64 2] w fun e w' => e = .returned (.tuple #[.string ⟨#[110, 102, 114, 50]⟩, .int .i64 0]) ∧ Below w.heap.size w w' by
    have := name_of ⟨per, ms, A, cap⟩ 1 ⟨#[110, 102, 114]⟩ 2 w hE hok (by dsimp only; rw [HN2.out]; decide) (by decide)
    rw [HLI.out] at this
    have e1 : (nameR li 1 ⟨#[110, 102, 114]⟩ 2).1 = ⟨#[110, 102, 114, 50]⟩ := by
      have h := HN.out.1
      generalize (nameR li 1 ⟨#[110, 102, 114]⟩ 2).1 = x at h
      rcases x with ⟨⟨x⟩⟩
      have h' : x = [110, 102, 114, 50] := h
      rw [h']
    rw [e1, HN.out.2] at this
    unfold Lm.val at this
    dsimp only at this
    rw [HN2.out] at this
    exact this)
  go_wp2_with fail
  refine (HNM.out _ (hE.below (b1.out.alloc (by have := b1.out.size; omega) _)) (HOK.out.below (below_alloc _ _))).mono ?_; rintro e w2 ⟨rfl, hb2⟩
  go_wp2
  go_ret
  exact ⟨rfl, (b1.out.alloc (by have := b1.out.size; omega) _).trans (hb2.mono (by have := b1.out.size; simp; omega))⟩

end Go.Proofs.YtleihhkacmgofaaGreatDoor
