/-
  The specification's Parse and the law of Parse: contracts, one behind the other.
-/
import Derived.Test.YthnhpgmohhaeaaaDoorRpname
import Derived.Lib.SplitLaws
import Derived.Test.YthnhpgmohhaeaaaDoorPsr
import Derived.Test.YthnhpgmohhaeaaaDoorPsign
import Derived.Test.YthnhpgmohhaeaaaDoorParse
import Derived.Test.YthnhpgmohhaeaaaDoorSameR
import Derived.Test.YthnhpgmohhaeaaaDoorNmd

/- A text divided at each byte that is c, and what the library's Cut and Split make of it. -/
namespace Go.Proofs.YthnhpgmohhaeaaaDoor
open Go.RowKit

def spl (c : UInt8) : List UInt8 → List (List UInt8)
  | [] => [[]]
  | x :: l => if x = c then [] :: spl c l else match spl c l with
    | [] => [[x]]
    | h :: t => (x :: h) :: t
def splB (s : ByteArray) (c : UInt8) : List ByteArray := (spl c (bytes s)).map str
theorem bytes_str (l : List UInt8) : bytes (str l) = l := by simp [bytes, str]
theorem str_bytes (s : ByteArray) : str (bytes s) = s := by cases s; simp [bytes, str]
theorem spl_none (c : UInt8) : ∀ l : List UInt8, c ∉ l → spl c l = [l]
  | [], _ => rfl
  | x :: l, h => by
    have hx : x ≠ c := fun e => h (by rw [e]; exact List.mem_cons_self)
    have hl : c ∉ l := fun e => h (List.mem_cons_of_mem _ e)
    unfold spl; rw [if_neg hx, spl_none c l hl]
theorem spl_hit (c : UInt8) : ∀ (a r : List UInt8), c ∉ a → spl c (a ++ c :: r) = a :: spl c r
  | [], r, _ => by rw [List.nil_append]; conv => lhs; unfold spl
                   rw [if_pos rfl]
  | x :: a, r, h => by
    have hx : x ≠ c := fun e => h (by rw [e]; exact List.mem_cons_self)
    have ha : c ∉ a := fun e => h (List.mem_cons_of_mem _ e)
    rw [List.cons_append]
    conv => lhs; unfold spl
    rw [if_neg hx, spl_hit c a r ha]
theorem spl_cases (c : UInt8) : ∀ l : List UInt8, c ∉ l ∨ ∃ a r, c ∉ a ∧ l = a ++ c :: r
  | [] => .inl (by simp)
  | x :: l => by
    by_cases hx : x = c
    · exact .inr ⟨[], l, by simp, by rw [hx]; rfl⟩
    · rcases spl_cases c l with h | ⟨a, r, h1, h2⟩
      · exact .inl (fun e => by rcases List.mem_cons.1 e with e | e; exact hx e.symm; exact h e)
      · exact .inr ⟨x :: a, r, fun e => (by rcases List.mem_cons.1 e with e | e; exact hx e.symm; exact h1 e), by rw [h2]; rfl⟩
theorem spl_ne (c : UInt8) (l : List UInt8) : spl c l ≠ [] := by
  rcases spl_cases c l with h | ⟨a, r, h1, h2⟩
  · rw [spl_none c l h]; simp
  · rw [h2, spl_hit c a r h1]; simp
theorem index_hit (c : UInt8) : ∀ (a r : List UInt8), c ∉ a → Lib.index (a ++ c :: r) [c] = (a.length : Int)
  | [], r, _ => by rw [List.nil_append, Lib.index]; simp [List.isPrefixOf]
  | x :: a, r, h => by
    have hx : c ≠ x := fun e => h (by rw [e]; exact List.mem_cons_self)
    have ha : c ∉ a := fun e => h (List.mem_cons_of_mem _ e)
    have ih := index_hit c a r ha
    rw [List.cons_append, Lib.index]
    have hp : ([c] : List UInt8).isPrefixOf (x :: (a ++ c :: r)) = false := by simp [List.isPrefixOf, hx]
    rw [hp, ih]
    have hm : (((a.length : Nat) : Int) == -1) = false := by rw [beq_eq_false_iff_ne]; omega
    rw [hm]
    simp
theorem index_none (c : UInt8) : ∀ (l : List UInt8), c ∉ l → Lib.index l [c] = -1
  | [], _ => by simp [Lib.index]
  | x :: a, h => by
    have hx : c ≠ x := fun e => h (by rw [e]; exact List.mem_cons_self)
    have ha : c ∉ a := fun e => h (List.mem_cons_of_mem _ e)
    have hp : ([c] : List UInt8).isPrefixOf (x :: a) = false := by simp [List.isPrefixOf, hx]
    rw [Lib.index, hp, index_none c a ha]
    simp
theorem cut_hit (c : UInt8) (a r : List UInt8) (h : c ∉ a) : Lib.cut (a ++ c :: r) [c] = (a, r, true) := by
  unfold Lib.cut
  rw [index_hit c a r h, if_pos (by omega)]
  simp
theorem cut_none (c : UInt8) (l : List UInt8) (h : c ∉ l) : Lib.cut l [c] = (l, [], false) := by
  unfold Lib.cut
  rw [index_none c l h, if_neg (by omega)]
theorem cutB_hit {s : ByteArray} {c : UInt8} {a r : List UInt8} (h : c ∉ a) (hs : bytes s = a ++ c :: r) : cutB s ⟨#[c]⟩ = (str a, str r, true) := by
  have := cut_hit c a r h
  unfold cutB
  rw [show s.data.toList = a ++ c :: r from hs, show (⟨#[c]⟩ : ByteArray).data.toList = [c] from rfl, this]
  rfl
theorem cutB_none {s : ByteArray} {c : UInt8} (h : c ∉ bytes s) : cutB s ⟨#[c]⟩ = (s, ⟨#[]⟩, false) := by
  have := cut_none c (bytes s) h
  unfold cutB
  rw [show (⟨#[c]⟩ : ByteArray).data.toList = [c] from rfl, show s.data.toList = bytes s from rfl, this]
  rw [show (⟨(bytes s).toArray⟩ : ByteArray) = s from str_bytes s]
theorem splitK_spl (c : UInt8) : ∀ (n : Nat) (l : List UInt8), l.length ≤ n → Lib.splitK [c] 0 (Lib.count l [c]) l = spl c l := by
  intro n
  induction n with
  | zero =>
    intro l h
    have : l = [] := List.eq_nil_of_length_eq_zero (by omega)
    subst this
    rw [Lib.count_miss (by simp [Lib.index])]; rfl
  | succ n ih =>
    intro l h
    rcases spl_cases c l with h1 | ⟨a, r, h1, h2⟩
    · rw [Lib.count_miss (index_none c l h1), spl_none c l h1]; rfl
    · subst h2
      have hi := index_hit c a r h1
      rw [Lib.count_hit (by simp) hi, spl_hit c a r h1, Nat.add_comm 1]
      unfold Lib.splitK
      rw [hi, if_neg (by rw [beq_iff_eq]; omega)]
      have e1 : (a ++ c :: r).take (((a.length : Nat) : Int).toNat + 0) = a := by simp
      have e2 : (a ++ c :: r).drop (((a.length : Nat) : Int).toNat + [c].length) = r := by
        rw [Int.toNat_natCast, show a.length + [c].length = (a ++ [c]).length by simp, show a ++ c :: r = (a ++ [c]) ++ r by simp, List.drop_left]
      have e3 : (a ++ c :: r).drop (a.length + [c].length) = r := by
        rw [show a.length + [c].length = (a ++ [c]).length by simp, show a ++ c :: r = (a ++ [c]) ++ r by simp, List.drop_left]
      rw [e1, e2, e3, ih r (by simp at h; omega)]
theorem map_bytes_inj : ∀ {a b : List ByteArray}, a.map bytes = b.map bytes → a = b
  | [], [], _ => rfl
  | [], _ :: _, h => by simp at h
  | _ :: _, [], h => by simp at h
  | x :: a, y :: b, h => by
    rw [List.map_cons, List.map_cons] at h
    injection h with h1 h2
    rw [map_bytes_inj h2]
    have : x = y := by rw [← str_bytes x, h1, str_bytes]
    rw [this]
theorem splB_bytes (s : ByteArray) (c : UInt8) : (splB s c).map bytes = spl c (bytes s) := by
  unfold splB
  rw [List.map_map]
  conv => rhs; rw [← List.map_id (spl c (bytes s))]
  apply List.map_congr_left
  intro x _
  exact bytes_str x
theorem splitS_spl (s : ByteArray) (c : UInt8) : splitS s ⟨#[c]⟩ = splB s c := by
  apply map_bytes_inj
  rw [splB_bytes]
  unfold splitS
  have h := Lib.splitB_data ⟨#[c]⟩ 0 (Lib.countB s ⟨#[c]⟩) s
  refine Eq.trans h ?_
  exact splitK_spl c (bytes s).length (bytes s) (Nat.le_refl _)
theorem splB_ne (s : ByteArray) (c : UInt8) : splB s c ≠ [] := by
  unfold splB; intro h; exact spl_ne c _ (List.map_eq_nil_iff.1 h)
/-- no piece holds c -/
theorem spl_free (c : UInt8) : ∀ (n : Nat) (l : List UInt8), l.length ≤ n → ∀ x ∈ spl c l, c ∉ x := by
  intro n
  induction n with
  | zero =>
    intro l h x hx
    have : l = [] := List.eq_nil_of_length_eq_zero (by omega)
    subst this
    have : x = [] := by simpa [spl] using hx
    subst this; simp
  | succ n ih =>
    intro l h x hx
    rcases spl_cases c l with h1 | ⟨a, r, h1, h2⟩
    · rw [spl_none c l h1] at hx
      have : x = l := by simpa using hx
      subst this; exact h1
    · subst h2
      rw [spl_hit c a r h1] at hx
      rcases List.mem_cons.1 hx with e | e
      · subst e; exact h1
      · exact ih r (by simp at h; omega) x e
theorem splB_free {s : ByteArray} {c : UInt8} {x : ByteArray} (h : x ∈ splB s c) : c ∉ bytes x := by
  unfold splB at h
  obtain ⟨y, hy, rfl⟩ := List.mem_map.1 h
  rw [bytes_str]; exact spl_free c _ _ (Nat.le_refl _) y hy
/-- a piece of a piece's bytes are bytes of the text -/
theorem spl_sub (c : UInt8) : ∀ (n : Nat) (l : List UInt8), l.length ≤ n → ∀ x ∈ spl c l, ∀ b ∈ x, b ∈ l := by
  intro n
  induction n with
  | zero =>
    intro l h x hx b hb
    have : l = [] := List.eq_nil_of_length_eq_zero (by omega)
    subst this
    have : x = [] := by simpa [spl] using hx
    subst this; cases hb
  | succ n ih =>
    intro l h x hx b hb
    rcases spl_cases c l with h1 | ⟨a, r, h1, h2⟩
    · rw [spl_none c l h1] at hx
      have : x = l := by simpa using hx
      subst this; exact hb
    · subst h2
      rw [spl_hit c a r h1] at hx
      rcases List.mem_cons.1 hx with e | e
      · subst e; exact List.mem_append_left _ hb
      · exact List.mem_append_right _ (List.mem_cons_of_mem _ (ih r (by simp at h; omega) x e b hb))
theorem splB_sub {s : ByteArray} {c : UInt8} {x : ByteArray} (h : x ∈ splB s c) {b : UInt8} (hb : b ∈ bytes x) : b ∈ bytes s := by
  unfold splB at h
  obtain ⟨y, hy, rfl⟩ := List.mem_map.1 h
  rw [bytes_str] at hb; exact spl_sub c _ _ (Nat.le_refl _) y hy b hb
theorem spl_len (c : UInt8) : ∀ (n : Nat) (l : List UInt8), l.length ≤ n → (spl c l).length ≤ l.length + 1 ∧ ∀ x ∈ spl c l, x.length ≤ l.length := by
  intro n
  induction n with
  | zero =>
    intro l h
    have : l = [] := List.eq_nil_of_length_eq_zero (by omega)
    subst this
    simp [spl]
  | succ n ih =>
    intro l h
    rcases spl_cases c l with h1 | ⟨a, r, h1, h2⟩
    · rw [spl_none c l h1]; simp
    · subst h2
      rw [spl_hit c a r h1]
      have := ih r (by simp at h; omega)
      refine ⟨by simp; omega, fun x hx => ?_⟩
      rcases List.mem_cons.1 hx with e | e
      · subst e; simp
      · have := this.2 x e; simp; omega
theorem splB_len (s : ByteArray) (c : UInt8) : (splB s c).length ≤ s.size + 1 := by
  unfold splB; rw [List.length_map, ← bytes_length]; exact (spl_len c _ _ (Nat.le_refl _)).1
theorem splB_size {s : ByteArray} {c : UInt8} {x : ByteArray} (h : x ∈ splB s c) : x.size ≤ s.size := by
  unfold splB at h
  obtain ⟨y, hy, rfl⟩ := List.mem_map.1 h
  rw [← bytes_length, bytes_str, ← bytes_length]; exact (spl_len c _ _ (Nat.le_refl _)).2 y hy

end Go.Proofs.YthnhpgmohhaeaaaDoor

/- Contracts of the specification's Split, Loose and Number. -/
namespace Go.Proofs.YthnhpgmohhaeaaaDoor
open Go.RowKit

theorem infoStr2 : (Tryd.prog.info? 9).map (fun i => (i.zero, i.size, i.bytes)) = some (some (.string ⟨#[]⟩), 1, 16) := by kernel_rfl
/-- strings that were made -/
def GotStrs (w : World) (R : List ByteArray) (e : Ending) (w' : World) : Prop :=
  ∃ A cap, e = .returned (.slice A R.length cap) ∧ StrsAt w' A R ∧ R.length ≤ cap ∧ cap ≤ maxLen ∧ Below w.heap.size w w'
def SplRow (s : ByteArray) (c : UInt8) (wr : World) (base : Nat) (v : Value) (k i f : Nat) : Prop :=
  ∃ done : List ByteArray, k = done.length ∧ wr.ownsRow base 9 1 v k (done.map Value.string) ∧
    ((i ≤ s.size ∧ f ≤ i ∧ splB s c = done ++ (spl c ((bytes s).drop f)).map str ∧ c ∉ ((bytes s).drop f).take (i - f)) ∨ (i = s.size + 1 ∧ splB s c = done))
theorem str_extract (s : ByteArray) (f i : Nat) : str (((bytes s).drop f).take (i - f)) = s.extract f i := by
  have : bytes (s.extract f i) = ((bytes s).drop f).take (i - f) := by
    unfold bytes
    simp [ByteArray.data_extract, List.extract_eq_take_drop]
  rw [← this, str_bytes]
theorem drop_at (s : ByteArray) (f i : Nat) (hf : f ≤ i) (hi : i < s.size) : (bytes s).drop f = ((bytes s).drop f).take (i - f) ++ s[i] :: (bytes s).drop (i + 1) := by
  have h1 : (bytes s).drop i = s[i] :: (bytes s).drop (i + 1) := by
    have hl : i < (bytes s).length := by rw [bytes_length]; exact hi
    rw [List.drop_eq_getElem_cons hl]
    have := bytes_at s i hi
    rw [List.getElem?_eq_getElem hl] at this
    injection this with this
    rw [this]
  have h2 : ((bytes s).drop f).drop (i - f) = (bytes s).drop i := by rw [List.drop_drop]; congr 1; omega
  conv => lhs; rw [← List.take_append_drop (i - f) ((bytes s).drop f), h2, h1]
theorem SplRow.same {s : ByteArray} {c : UInt8} {wr : World} {base : Nat} {v : Value} {k i f : Nat} (h : SplRow s c wr base v k i f) (hi : i < s.size) (hc : s[i] ≠ c) : SplRow s c wr base v k (i + 1) f := by
  obtain ⟨done, h1, h2, ⟨h3, h4, h5, h6⟩ | ⟨h3, _⟩⟩ := h
  · refine ⟨done, h1, h2, .inl ⟨by omega, by omega, h5, ?_⟩⟩
    have e := drop_at s f i h4 hi
    have hl : (((bytes s).drop f).take (i - f)).length = i - f := by
      rw [List.length_take, List.length_drop, bytes_length]; omega
    rw [e, show i + 1 - f = (((bytes s).drop f).take (i - f) ++ [s[i]]).length by simp [hl]; omega,
      show ((bytes s).drop f).take (i - f) ++ s[i] :: (bytes s).drop (i + 1) = (((bytes s).drop f).take (i - f) ++ [s[i]]) ++ (bytes s).drop (i + 1) by simp, List.take_left]
    intro hm
    rcases List.mem_append.1 hm with hm | hm
    · exact h6 hm
    · exact hc (List.mem_singleton.1 hm).symm
  · omega
theorem SplRow.hit {s : ByteArray} {c : UInt8} {w' : World} {base : Nat} {v' : Value} {k i f : Nat} {done : List ByteArray} (hd : k = done.length)
    (h : (i ≤ s.size ∧ f ≤ i ∧ splB s c = done ++ (spl c ((bytes s).drop f)).map str ∧ c ∉ ((bytes s).drop f).take (i - f)) ∨ (i = s.size + 1 ∧ splB s c = done)) (hi : i < s.size) (hc : s[i] = c)
    (ho : w'.ownsRow base 9 1 v' (k + 1) (done.map Value.string ++ [.string (s.extract f i)])) : SplRow s c w' base v' (k + 1) (i + 1) (i + 1) := by
  rcases h with ⟨h3, h4, h5, h6⟩ | ⟨h3, _⟩
  · refine ⟨done ++ [s.extract f i], by rw [List.length_append, ← hd]; rfl, by rw [List.map_append]; exact ho, .inl ⟨by omega, Nat.le_refl _, ?_, by simp⟩⟩
    have e := drop_at s f i h4 hi
    rw [hc] at e
    rw [h5, e, spl_hit _ _ _ h6, List.map_cons, str_extract]
    simp
  · omega
theorem SplRow.last {s : ByteArray} {c : UInt8} {w' : World} {base : Nat} {v' : Value} {k f : Nat} {done : List ByteArray} (hd : k = done.length)
    (h : (s.size ≤ s.size ∧ f ≤ s.size ∧ splB s c = done ++ (spl c ((bytes s).drop f)).map str ∧ c ∉ ((bytes s).drop f).take (s.size - f)) ∨ (s.size = s.size + 1 ∧ splB s c = done))
    (ho : w'.ownsRow base 9 1 v' (k + 1) (done.map Value.string ++ [.string (s.extract f s.size)])) (g : Nat) : SplRow s c w' base v' (k + 1) (s.size + 1) g := by
  rcases h with ⟨h3, h4, h5, h6⟩ | ⟨h3, _⟩
  · refine ⟨done ++ [s.extract f s.size], by rw [List.length_append, ← hd]; rfl, by rw [List.map_append]; exact ho, .inr ⟨rfl, ?_⟩⟩
    have e : ((bytes s).drop f).take (s.size - f) = (bytes s).drop f := by
      rw [List.take_of_length_le]; rw [List.length_drop, bytes_length]; omega
    have hs := str_extract s f s.size
    rw [e] at h6 hs
    rw [h5, spl_none _ _ h6, List.map_cons, hs]
    rfl
  · omega

set_option maxHeartbeats 1600000 in
set_option maxRecDepth 100000 in
theorem rsplit_any (s : ByteArray) (c : UInt8) (w : World) (hs : s.size ≤ 100000) : Calls Tryd.prog 63 #[.string s, .int .u8 c.toNat] w (GotStrs w (splB s c)) := by
  obtain ⟨iv, hiv, hzv, hsv, hbv⟩ := info_hid infoStr2
  go_enter Tryd.func63, Tryd.ntmps63
  go_wp2
  go_loopw [5, 6, 7] (fun v fr i wr => ∃ k f j : Nat, j ≤ s.size + 1 ∧ k ≤ j ∧ f ≤ j ∧ i = .int .i64 j ∧ fr = .int .i64 f ∧ Hid (Below w.heap.size w wr) ∧ Hid (SplRow s c wr w.heap.size v k j f)) (fun _ _ i _ => s.size + 1 - (intOf i).toNat)
  case atStart => exact ⟨0, 0, 0, by omega, Nat.le_refl _, Nat.le_refl _, rfl, rfl, Lib.hid (Below.refl _ _), Lib.hid ⟨[], rfl, by simpa using World.ownsRow_nil _ _ _ _, .inl ⟨by omega, Nat.le_refl _, by simp [splB], by simp⟩⟩⟩
  case round =>
    obtain ⟨k, f, j, hj, hkj, hfj, rfl, rfl, hb, hrow⟩ := hrel
    by_cases hlt : j ≤ s.size
    · by_cases heq : j = s.size
      · subst heq
        obtain ⟨done, hd, hown, hcase⟩ := hrow.out
        have HD := Lib.hid hd
        have HOWN := Lib.hid hown
        have HCASE := Lib.hid hcase
        clear hd hown hcase
        go_wp2_with (first
          | (at_builtin; refine wpList_append_src _ rfl (.tmp 25) (.tmp 30) 58 rfl w.heap.size 9 iv (.string ⟨#[]⟩) 1 16 Tryd.underlying58 hiv.out hzv.out hsv.out hbv.out rfl (by decide) u5 k (done.map Value.string) rfl ?own2 (some ⟨wr.heap.size, 0, none⟩) 1 1 [.string (s.extract f s.size)] rfl ?l2 ?n2 ?c2 ?o2 ?m2 ?b2 ?s2 (k + 1) rfl ?_))
        case own2 => exact HOWN.out.alloc _
        case l2 => rfl
        case n2 => intro h; cases h
        case o2 =>
          intro z hz
          rw [List.mem_singleton.1 hz]; rfl
        case c2 =>
          intro ad had i u' hj
          injection had with had
          subst had
          have := new_cells wr _ 9 i u' hj
          simpa using this
        case m2 => unfold maxLen; omega
        case b2 => omega
        case s2 => have := hb.out.size; simp; omega
        · intro A2 c2 w11 own3 hg3 hwh
          have B11 := Lib.hid ((hb.out.alloc (by have := hb.out.size; omega) (.cells #[.string (s.extract f s.size)] 9)).grown hg3 (by have := hb.out.size; simp; omega) (fun g hg => (HOWN.out.lt g hg).1))
          have R11 := Lib.hid (SplRow.last HD.out HCASE.out own3 (s.size + 1))
          clear own3 hg3 hwh
          go_wp2
          go_roundw
          case rel => exact ⟨k + 1, s.size + 1, s.size + 1, by omega, by omega, by omega, by go_num, by go_num, B11, R11⟩
          case measure => simp [intOf]
      · have hlt2 : j < s.size := by omega
        have hne : ((j : Int) == (s.size : Int)) = false := by rw [beq_eq_false_iff_ne]; omega
        by_cases hc : ((s[j].toNat : Int) == (c.toNat : Int)) = true
        · have hcc : s[j] = c := by
            have : (s[j].toNat : Int) = c.toNat := by simpa using hc
            exact UInt8.toNat_inj.1 (by omega)
          obtain ⟨done, hd, hown, hcase⟩ := hrow.out
          have HD := Lib.hid hd
          have HOWN := Lib.hid hown
          have HCASE := Lib.hid hcase
          have HCC := Lib.hid hcc
          clear hd hown hcase hcc
          go_wp2_with (first
            | (at_builtin; refine wpList_append_src _ rfl (.tmp 25) (.tmp 30) 58 rfl w.heap.size 9 iv (.string ⟨#[]⟩) 1 16 Tryd.underlying58 hiv.out hzv.out hsv.out hbv.out rfl (by decide) u5 k (done.map Value.string) rfl ?own2 (some ⟨wr.heap.size, 0, none⟩) 1 1 [.string (s.extract f j)] rfl ?l2 ?n2 ?c2 ?o2 ?m2 ?b2 ?s2 (k + 1) rfl ?_))
          case own2 => exact HOWN.out.alloc _
          case l2 => rfl
          case n2 => intro h; cases h
          case o2 =>
            intro z hz
            rw [List.mem_singleton.1 hz]; rfl
          case c2 =>
            intro ad had i u' hj
            injection had with had
            subst had
            have := new_cells wr _ 9 i u' hj
            simpa using this
          case m2 => unfold maxLen; omega
          case b2 => omega
          case s2 => have := hb.out.size; simp; omega
          · intro A2 c2 w11 own3 hg3 hwh
            have B11 := Lib.hid ((hb.out.alloc (by have := hb.out.size; omega) (.cells #[.string (s.extract f j)] 9)).grown hg3 (by have := hb.out.size; simp; omega) (fun g hg => (HOWN.out.lt g hg).1))
            have R11 := Lib.hid (SplRow.hit HD.out HCASE.out hlt2 HCC.out own3)
            clear own3 hg3 hwh
            go_wp2
            go_roundw
            case rel => exact ⟨k + 1, j + 1, j + 1, by omega, by omega, by omega, by go_num, by go_num, B11, R11⟩
            case measure => simp [intOf]; omega
        · have hc : ((s[j].toNat : Int) == (c.toNat : Int)) = false := by simpa using hc
          have RN := Lib.hid (SplRow.same hrow.out hlt2 (fun e => by rw [e] at hc; simp at hc))
          go_wp2
          go_roundw
          case rel => exact ⟨k, f, j + 1, by omega, by omega, by omega, by go_num, by go_num, hb, RN⟩
          case measure => simp [intOf]; omega
    · obtain rfl : j = s.size + 1 := by omega
      obtain ⟨done, hd, hown, ⟨h3, _⟩ | ⟨_, h5⟩⟩ := hrow.out
      · omega
      obtain ⟨A, cap, hv, hle, hcap, hcel, hnil⟩ := own_slice hown
      subst hv
      have HF := Lib.hid (show GotStrs w (splB s c) (.returned (.slice A k cap)) wr from by
        rw [h5]
        refine ⟨A, cap, by rw [hd], fun q x hq => ?_, by rw [← hd]; exact hle, hcap, hb.out⟩
        have hql := (List.getElem?_eq_some_iff.1 hq).1
        cases hA : A with
        | none => have := hnil hA; omega
        | some ad =>
          obtain ⟨g, rfl, _, hg, hc⟩ := hcel ad hA
          exact ⟨g, 0, rfl, hg, by rw [Nat.zero_add]; exact hc q _ (by rw [List.getElem?_map, hq]; rfl)⟩)
      clear hown hcel hnil h5 hd
      go_wp2
      go_ret
      exact HF.out

end Go.Proofs.YthnhpgmohhaeaaaDoor

/- Contracts of the specification's Loose, Number and two. -/
namespace Go.Proofs.YthnhpgmohhaeaaaDoor
open Go.RowKit

set_option maxHeartbeats 800000 in
theorem rloose_any (s : ByteArray) (w : World) (hs : s.size ≤ maxLen) (hnl : (10 : UInt8) ∉ bytes s) :
    Calls Tryd.prog 85 #[.string s] w fun e w' => e = .returned (.bool (nameP s)) ∧ w = w' := by
  unfold maxLen at hs
  have A10 := Lib.hid (show ∀ (k : Nat) (h : k < s.size), ((s[k].toNat : Int) == 10) = false from fun k h => by
    rw [beq_eq_false_iff_ne]; intro e
    exact hnl (List.mem_of_getElem? (by rw [bytes_at s k h]; congr 1; apply UInt8.toNat_inj.1; show s[k].toNat = 10; omega)))
  clear hnl
  go_enter Tryd.func85, Tryd.ntmps85
  go_wp2
  go_loop [3] (fun i => ∃ k : Nat, k ≤ s.size ∧ i = .int .i64 k ∧ Hid (((bytes s).take k).all looseB = true)) (fun i => s.size - (intOf i).toNat)
  case atStart => exact ⟨0, Nat.zero_le _, rfl, Lib.hid (by simp)⟩
  case round =>
    obtain ⟨k, hk, rfl, hall⟩ := hrel
    by_cases hlt : k < s.size
    · have hat := Lib.hid (bytes_at s k hlt)
      by_cases a1 : ((s[k].toNat : Int) == 32) = true
      · have hf := Lib.hid (show nameP s = false by unfold nameP; rw [all_false_of looseB _ _ _ hat.out (by simp [looseB, a1])]; rfl)
        go_wp2
        go_ret
        exact ⟨of_bool hf.out.symm, rfl⟩
      have a1 : ((s[k].toNat : Int) == 32) = false := by simpa using a1
      by_cases a2 : ((s[k].toNat : Int) == 64) = true
      · have hf := Lib.hid (show nameP s = false by unfold nameP; rw [all_false_of looseB _ _ _ hat.out (by simp [looseB, a2])]; rfl)
        go_wp2
        go_ret
        exact ⟨of_bool hf.out.symm, rfl⟩
      have a2 : ((s[k].toNat : Int) == 64) = false := by simpa using a2
      by_cases a3 : ((s[k].toNat : Int) == 58) = true
      · have hf := Lib.hid (show nameP s = false by unfold nameP; rw [all_false_of looseB _ _ _ hat.out (by simp [looseB, a3])]; rfl)
        go_wp2
        go_ret
        exact ⟨of_bool hf.out.symm, rfl⟩
      have a3 : ((s[k].toNat : Int) == 58) = false := by simpa using a3
      have a4 : ((s[k].toNat : Int) == 10) = false := A10.out k hlt
      have hal := Lib.hid (all_step s k hlt hall.out (show looseB s[k] = true by simp [looseB, a1, a2, a3, a4]))
      go_wp2
      go_round
      case rel => exact ⟨k + 1, by omega, by go_num, hal⟩
      case measure => simp [intOf]; omega
    · obtain rfl : k = s.size := by omega
      have hf := Lib.hid (show nameP s = !s.toList.isEmpty by
        have := hall.out; rw [take_full] at this
        unfold nameP; rw [this, ByteArray.toList_eq]; rfl)
      go_wp2
      go_ret
      exact ⟨of_bool hf.out.symm, rfl⟩


set_option maxHeartbeats 1600000 in
theorem rnum_any (s : ByteArray) (w : World) (hs : s.size ≤ maxLen) :
    Calls Tryd.prog 64 #[.string s, .int .i64 3] w fun e w' => e = .returned (.tuple #[.int .i64 (numP s).1, .bool (numP s).2]) ∧ w = w' := by
  unfold maxLen at hs
  by_cases h1 : withinB s.size 3 = true
  case neg =>
    have h1 : withinB s.size 3 = false := by simpa using h1
    have hf := Lib.hid (num_no s (by rw [h1]; rfl))
    by_cases hz : s.size < 1
    · have hz' : (s.size : Int) < 1 := by omega
      go_enter Tryd.func64, Tryd.ntmps64
      go_wp2
      go_ret2
      exact ⟨ret_ib hf.out.symm, rfl⟩
    · have hz2 : (3 : Int) < s.size := by simp [withinB] at h1; omega
      have hz1 : (1 : Int) ≤ s.size := by omega
      clear hz h1
      go_enter Tryd.func64, Tryd.ntmps64
      go_wp2
      go_ret2
      exact ⟨ret_ib hf.out.symm, rfl⟩
  have hw : 1 ≤ s.size ∧ s.size ≤ 3 := by simp [withinB] at h1; omega
  obtain ⟨hw0, hw3⟩ := hw
  have hat0 := Lib.hid (show (bytes s).head? = some s[0] by rw [List.head?_eq_getElem?]; exact bytes_at s 0 hw0)
  by_cases h2 : ((s[0].toNat : Int) == 48) = true
  case pos =>
    have h2' := Lib.hid (show s[0] = 48 by
      have h2i : (s[0].toNat : Int) = 48 := by simpa using h2
      have : s[0].toNat = (48 : UInt8).toNat := by show s[0].toNat = 48; omega
      exact UInt8.toNat_inj.1 this)
    by_cases hz : s.size = 1
    case neg =>
      have hz1 : (1 : Int) < s.size := by omega
      have h3 : (s.toList == [48]) = false := by
        rw [beq_eq_false_iff_ne]; intro e
        rw [ByteArray.toList_eq] at e
        have := bytes_length s
        unfold bytes at this; rw [e] at this; simp at this; omega
      have hf := Lib.hid (num_no s (by rw [hat0.out, h2'.out]; simp [strEq, ByteArray.toList_eq] at h3 ⊢; simp [h3]))
      go_enter Tryd.func64, Tryd.ntmps64
      go_wp2
      go_ret2
      exact ⟨ret_ib hf.out.symm, rfl⟩
    have h3 : (s.toList == [48]) = true := by
      rw [beq_iff_eq, ByteArray.toList_eq]
      have h4 : (bytes s).length = 1 := by rw [bytes_length]; exact hz
      have h5 := hat0.out
      show bytes s = [48]
      match hbs : bytes s, h4, h5 with
      | [x], _, h5 => simp at h5; rw [h5, h2'.out]
    have hz1 : (s.size : Int) ≤ 1 := by omega
    clear hz
    have hgo := Lib.hid (show (withinB s.size 3 && !((bytes s).head? == some 48 && !strEq s ⟨#[48]⟩)) = true by rw [h1]; simp [strEq, ByteArray.toList_eq] at h3 ⊢; simp [h3])
    go_enter Tryd.func64, Tryd.ntmps64
    go_wp2
    go_loop [6, 7] (fun n i => ∃ k : Nat, k ≤ s.size ∧ i = .int .i64 k ∧ n = .int .i64 (numV ((bytes s).take k)) ∧ Hid (((bytes s).take k).all digB = true)) (fun _ i => s.size - (intOf i).toNat)
    case atStart => exact ⟨0, Nat.zero_le _, rfl, by simp [numV], Lib.hid (by simp)⟩
    case round =>
      obtain ⟨k, hk, rfl, rfl, hall⟩ := hrel
      by_cases hlt : k < s.size
      · have hat := Lib.hid (bytes_at s k hlt)
        by_cases hd : digB s[k] = true
        · have hbd := numV_bd ((bytes s).take k) hall.out (by rw [List.length_take]; omega)
          have hdb : (48 : Int) ≤ (s[k].toNat : Int) ∧ (s[k].toNat : Int) ≤ 57 := by simp [digB] at hd; omega
          obtain ⟨hd1, hd2⟩ := hdb
          obtain ⟨hb1, hb2⟩ := hbd
          have hst := Lib.hid (show numV ((bytes s).take (k + 1)) = 10 * numV ((bytes s).take k) + ((s[k].toNat : Int) - 48) by rw [take_snoc s k hlt, numV_snoc, Int.mul_comm])
          have hal := Lib.hid (all_step s k hlt hall.out hd)
          go_wp2_with (first | (go_at_call 56; refine (bdig _ _).mono ?_; rintro e w' ⟨rfl, rfl⟩))
          go_round
          case rel => exact ⟨k + 1, by omega, by go_num, by rw [hst.out], hal⟩
          case measure => simp [intOf]; omega
        · have hd : digB s[k] = false := by simpa using hd
          have hf := Lib.hid (num_no s (by rw [all_false_of digB _ _ _ hat.out hd, Bool.and_false]))
          go_wp2_with (first | (go_at_call 56; refine (bdig _ _).mono ?_; rintro e w' ⟨rfl, rfl⟩))
          go_ret2
          exact ⟨ret_ib hf.out.symm, rfl⟩
      · obtain rfl : k = s.size := by omega
        have hf := Lib.hid (show numP s = (numV ((bytes s).take s.size), true) by
          rw [take_full]
          have := hall.out; rw [take_full] at this
          unfold numP; rw [if_pos (by rw [hgo.out, this]; rfl)])
        go_wp2
        go_ret2
        exact ⟨ret_ib hf.out.symm, rfl⟩
  have h2 : ((s[0].toNat : Int) == 48) = false := by simpa using h2
  have hgo := Lib.hid (show (withinB s.size 3 && !((bytes s).head? == some 48 && !strEq s ⟨#[48]⟩)) = true by
    have : (s[0] == 48) = false := by
      rw [beq_eq_false_iff_ne]; intro e
      rw [e] at h2; simp at h2
    rw [h1, hat0.out]; simp [this])
  go_enter Tryd.func64, Tryd.ntmps64
  go_wp2
  go_loop [6, 7] (fun n i => ∃ k : Nat, k ≤ s.size ∧ i = .int .i64 k ∧ n = .int .i64 (numV ((bytes s).take k)) ∧ Hid (((bytes s).take k).all digB = true)) (fun _ i => s.size - (intOf i).toNat)
  case atStart => exact ⟨0, Nat.zero_le _, rfl, by simp [numV], Lib.hid (by simp)⟩
  case round =>
    obtain ⟨k, hk, rfl, rfl, hall⟩ := hrel
    by_cases hlt : k < s.size
    · have hat := Lib.hid (bytes_at s k hlt)
      by_cases hd : digB s[k] = true
      · have hbd := numV_bd ((bytes s).take k) hall.out (by rw [List.length_take]; omega)
        have hdb : (48 : Int) ≤ (s[k].toNat : Int) ∧ (s[k].toNat : Int) ≤ 57 := by simp [digB] at hd; omega
        obtain ⟨hd1, hd2⟩ := hdb
        obtain ⟨hb1, hb2⟩ := hbd
        have hst := Lib.hid (show numV ((bytes s).take (k + 1)) = 10 * numV ((bytes s).take k) + ((s[k].toNat : Int) - 48) by rw [take_snoc s k hlt, numV_snoc, Int.mul_comm])
        have hal := Lib.hid (all_step s k hlt hall.out hd)
        go_wp2_with (first | (go_at_call 56; refine (bdig _ _).mono ?_; rintro e w' ⟨rfl, rfl⟩))
        go_round
        case rel => exact ⟨k + 1, by omega, by go_num, by rw [hst.out], hal⟩
        case measure => simp [intOf]; omega
      · have hd : digB s[k] = false := by simpa using hd
        have hf := Lib.hid (num_no s (by rw [all_false_of digB _ _ _ hat.out hd, Bool.and_false]))
        go_wp2_with (first | (go_at_call 56; refine (bdig _ _).mono ?_; rintro e w' ⟨rfl, rfl⟩))
        go_ret2
        exact ⟨ret_ib hf.out.symm, rfl⟩
    · obtain rfl : k = s.size := by omega
      have hf := Lib.hid (show numP s = (numV ((bytes s).take s.size), true) by
        rw [take_full]
        have := hall.out; rw [take_full] at this
        unfold numP; rw [if_pos (by rw [hgo.out, this]; rfl)])
      go_wp2
      go_ret2
      exact ⟨ret_ib hf.out.symm, rfl⟩


theorem rnum_is (s : ByteArray) (w : World) (hs : s.size ≤ maxLen) (r : Int × Bool) (h : numP s = r) :
    Calls Tryd.prog 64 #[.string s, .int .i64 3] w fun e w' => e = .returned (.tuple #[.int .i64 r.1, .bool r.2]) ∧ w = w' := by
  rw [← h]; exact rnum_any s w hs
theorem rloose_is (s : ByteArray) (w : World) (hs : s.size ≤ maxLen) (hnl : (10 : UInt8) ∉ bytes s) (r : Bool) (h : nameP s = r) : Calls Tryd.prog 85 #[.string s] w fun e w' => e = .returned (.bool r) ∧ w = w' := by
  rw [← h]; exact rloose_any s w hs hnl

/-- two numbers with a byte between them -/
def pairR (s : ByteArray) (c : UInt8) : Int × Int × Bool :=
  match splB s c with
  | [x, y] => ((numP x).1, (numP y).1, (numP x).2 && (numP y).2)
  | _ => (0, 0, false)
theorem num_digits {s : ByteArray} (h : (numP s).2 = true) : (bytes s).all digB = true := by
  unfold numP at h
  split at h
  · rename_i h1
    simp only [Bool.and_eq_true] at h1
    exact h1.2
  · cases h
theorem num_free {s : ByteArray} {c : UInt8} (h : (numP s).2 = true) (hc : digB c = false) : c ∉ bytes s := fun hm => by
  have := List.all_eq_true.1 (num_digits h) c hm
  rw [hc] at this; cases this
theorem num_false {s : ByteArray} (h : (numP s).2 = false) : (numP s).1 = 0 := by
  unfold numP at h ⊢
  split at h
  · cases h
  · rename_i h1; rw [if_neg h1]
/-- what both make of a pair -/
theorem pair_eq (s : ByteArray) (c : UInt8) (hc : digB c = false) : (pairR s c).2.2 = (pairP s ⟨#[c]⟩).2.2 ∧ ((pairR s c).2.2 = true → pairR s c = pairP s ⟨#[c]⟩) := by
  rcases spl_cases c (bytes s) with h | ⟨a, r, h1, h2⟩
  · have e1 : splB s c = [s] := by unfold splB; rw [spl_none c _ h]; simp [str_bytes]
    have e2 : pairR s c = (0, 0, false) := by unfold pairR; rw [e1]
    have e3 : (pairP s ⟨#[c]⟩).2.2 = false := by
      unfold pairP
      rw [cutB_none h]
      have : (numP (⟨#[]⟩ : ByteArray)).2 = false := by decide
      rw [this, Bool.and_false]; rfl
    rw [e2, e3]; exact ⟨rfl, fun h => by cases h⟩
  · rcases spl_cases c r with g | ⟨b, q, g1, g2⟩
    · have e1 : splB s c = [str a, str r] := by unfold splB; rw [h2, spl_hit c a r h1, spl_none c r g]; rfl
      have e2 : pairR s c = ((numP (str a)).1, (numP (str r)).1, (numP (str a)).2 && (numP (str r)).2) := by unfold pairR; rw [e1]
      have e3 := cutB_hit h1 h2
      rw [e2]
      unfold pairP
      rw [e3]
      dsimp only
      cases hb : ((numP (str a)).2 && (numP (str r)).2) with
      | true => exact ⟨rfl, fun _ => rfl⟩
      | false => exact ⟨rfl, fun h => by cases h⟩
    · have hn : (numP (str r)).2 = false := by
        cases hh : (numP (str r)).2 with
        | false => rfl
        | true =>
          have := num_free hh hc
          rw [bytes_str, g2] at this
          exact absurd (by simp) this
      have e2 : pairR s c = (0, 0, false) := by
        unfold pairR splB
        rw [h2, spl_hit c a r h1, g2, spl_hit c b q g1]
        cases hq : spl c q with
        | nil => exact absurd hq (spl_ne c q)
        | cons => rfl
      have e3 : (pairP s ⟨#[c]⟩).2.2 = false := by
        unfold pairP
        rw [cutB_hit h1 h2]
        rw [hn, Bool.and_false]; rfl
      rw [e2, e3]; exact ⟨rfl, fun h => by cases h⟩

set_option maxHeartbeats 800000 in
theorem rtwo_any (s : ByteArray) (c : UInt8) (w : World) (hs : s.size ≤ 100000) :
    Calls Tryd.prog 86 #[.string s, .int .u8 c.toNat] w fun e w' => e = .returned (.tuple #[.int .i64 (pairR s c).1, .int .i64 (pairR s c).2.1, .bool (pairR s c).2.2]) ∧ Below w.heap.size w w' := by
  have HS := Lib.hid (fun w => rsplit_any s c w hs)
  have HSZ := Lib.hid (fun x (h : x ∈ splB s c) => show x.size ≤ maxLen from Nat.le_trans (splB_size h) (by unfold maxLen; omega))
  have HF := Lib.hid (show pairR s c = (match splB s c with
    | [x, y] => ((numP x).1, (numP y).1, (numP x).2 && (numP y).2)
    | _ => (0, 0, false)) from rfl)
  obtain ⟨R, hR⟩ : ∃ R, R = splB s c := ⟨_, rfl⟩
  rw [← hR] at HS HSZ HF
  clear hR
  by_cases hl : R.length = 2
  case neg =>
    have HG := Lib.hid (show pairR s c = (0, 0, false) by
      rw [HF.out]
      match R, hl with
      | [], _ => rfl
      | [_], _ => rfl
      | [_, _], h => exact absurd rfl h
      | _ :: _ :: _ :: _, _ => rfl)
    obtain ⟨n, hn⟩ : ∃ n, n = R.length := ⟨_, rfl⟩
    have hne : ((n : Int) == 2) = false := by rw [beq_eq_false_iff_ne]; omega
    have hne2 : ((n : Int) != 2) = true := by unfold bne; rw [hne]; rfl
    have HNN := Lib.hid hn
    clear hl hn
    go_enter Tryd.func86, Tryd.ntmps86
    go_wp2_with fail
    refine (HS.out _).mono ?_; rintro e w1 ⟨A, cap, rfl, hst, hle, hcap, hb1⟩
    rw [← HNN.out] at hle ⊢
    unfold maxLen at hcap
    go_wp2
    refine bodyPost_ret (v := .tuple #[.int .i64 0, .int .i64 0, .bool false]) (by simp [results, Tryd.results86, go_sem]) rfl ?_
    exact ⟨ret_iib HG.out.symm, hb1⟩
  match R, hl with
  | [x, y], _ =>
    obtain ⟨⟨xa, xb⟩, hx⟩ : ∃ q, q = numP x := ⟨_, rfl⟩
    obtain ⟨⟨ya, yb⟩, hy⟩ : ∃ q, q = numP y := ⟨_, rfl⟩
    have HX := Lib.hid (fun w => rnum_is x w (HSZ.out x (by simp)) _ hx.symm)
    have HY := Lib.hid (fun w => rnum_is y w (HSZ.out y (by simp)) _ hy.symm)
    have HG := Lib.hid (show pairR s c = (xa, ya, xb && yb) by rw [HF.out]; dsimp only; rw [← hx, ← hy])
    clear hx hy hl
    go_enter Tryd.func86, Tryd.ntmps86
    go_wp2_with fail
    refine (HS.out _).mono ?_; rintro e w1 ⟨A, cap, rfl, hst, hle, hcap, hb1⟩
    obtain ⟨b, o, hA, hb, hc0⟩ := hst 0 x rfl
    obtain ⟨b', o', hA', hb', hc1⟩ := hst 1 y rfl
    have e1 := hA.symm.trans hA'
    injection e1 with e1
    injection e1 with e1 e2
    subst hA
    subst e1 e2
    have B1 := Lib.hid hb1
    clear hst hA' hb1 hb'
    unfold maxLen at hcap
    simp only [List.length_cons, List.length_nil, Nat.zero_add, Nat.reduceAdd, Nat.add_zero] at hle hc0 hc1 ⊢
    go_wp2_with fail
    refine (HX.out _).mono ?_; rintro e w' ⟨rfl, rfl⟩
    go_wp2_with fail
    refine (HY.out _).mono ?_; rintro e w' ⟨rfl, rfl⟩
    cases xb with
    | false =>
      go_wp2
      refine bodyPost_ret (v := .tuple #[.int .i64 xa, .int .i64 ya, .bool false]) (by simp [results, Tryd.results86, go_sem]) rfl ?_
      exact ⟨ret_iib HG.out.symm, B1.out⟩
    | true =>
      go_wp2
      refine bodyPost_ret (v := .tuple #[.int .i64 xa, .int .i64 ya, .bool yb]) (by simp [results, Tryd.results86, go_sem]) rfl ?_
      exact ⟨ret_iib (by rw [HG.out]; rfl), B1.out⟩

end Go.Proofs.YthnhpgmohhaeaaaDoor

/- The word of a value: what both readings make of it. -/
namespace Go.Proofs.YthnhpgmohhaeaaaDoor
open Go.RowKit

/-- what the specification makes of the word of a value -/
def valueQ (s : ByteArray) : Va × Bool :=
  match splB s 64 with
  | [x, y] => match splB x 58 with
    | [k, z] => if k.size = 1 ∧ nameP z = true then (⟨(kindP k).1, z, (pairR y 45).1, (pairR y 45).2.1⟩, (pairR y 45).2.2 && (kindP k).2) else (zeroVa, false)
    | _ => (zeroVa, false)
  | _ => (zeroVa, false)
structure GoodV (k z y : List UInt8) : Prop where
  kind : (kindP (str k)).2 = true
  name : nameP (str z) = true
  pair : (pairP (str y) ⟨#[45]⟩).2.2 = true
theorem kind_one {k : List UInt8} (h : (kindP (str k)).2 = true) : k = [115] ∨ k = [119] ∨ k = [99] := by
  have hb : ∀ c : UInt8, strEq ⟨#[c]⟩ (str k) = true → k = [c] := fun c h => by
    rw [strEq_iff] at h
    have h : ([c] : List UInt8) = (str k).data.toList := by simpa using h
    simpa [str] using h.symm
  unfold kindP at h
  split at h
  · rename_i h1; exact .inl (hb _ h1)
  · split at h
    · rename_i h1; exact .inr (.inl (hb _ h1))
    · split at h
      · rename_i h1; exact .inr (.inr (hb _ h1))
      · cases h
theorem name_free {z : ByteArray} {c : UInt8} (h : nameP z = true) (hc : looseB c = false) : c ∉ bytes z := fun hm => by
  unfold nameP at h
  simp only [Bool.and_eq_true] at h
  have := List.all_eq_true.1 h.1 c hm
  rw [hc] at this; cases this
theorem pair_free {y : ByteArray} {c : UInt8} (h : (pairP y ⟨#[45]⟩).2.2 = true) (hd : digB c = false) (h45 : c ≠ 45) : c ∉ bytes y := by
  unfold pairP at h
  split at h
  · rename_i h1
    simp only [Bool.and_eq_true] at h1
    rcases spl_cases 45 (bytes y) with g | ⟨a, r, g1, g2⟩
    · rw [cutB_none g] at h1
      have h2 := h1.2
      dsimp only at h2
      exact absurd h2 (by decide)
    · rw [cutB_hit g1 g2] at h1
      have n1 := num_free h1.1 hd
      have n2 := num_free h1.2 hd
      rw [bytes_str] at n1 n2
      rw [g2]
      intro hm
      rcases List.mem_append.1 hm with hm | hm
      · exact n1 hm
      · rcases List.mem_cons.1 hm with hm | hm
        · exact h45 hm
        · exact n2 hm
  · cases h
theorem GoodV.k58 {k z y : List UInt8} (h : GoodV k z y) : (58 : UInt8) ∉ k := by
  rcases kind_one h.kind with e | e | e <;> rw [e] <;> decide
theorem GoodV.k64 {k z y : List UInt8} (h : GoodV k z y) : (64 : UInt8) ∉ k := by
  rcases kind_one h.kind with e | e | e <;> rw [e] <;> decide
theorem GoodV.z58 {k z y : List UInt8} (h : GoodV k z y) : (58 : UInt8) ∉ z := by have := name_free (c := 58) h.name (by decide); rwa [bytes_str] at this
theorem GoodV.z64 {k z y : List UInt8} (h : GoodV k z y) : (64 : UInt8) ∉ z := by have := name_free (c := 64) h.name (by decide); rwa [bytes_str] at this
theorem GoodV.y64 {k z y : List UInt8} (h : GoodV k z y) : (64 : UInt8) ∉ y := by have := pair_free (c := 64) h.pair (by decide) (by decide); rwa [bytes_str] at this
theorem valueP_of {s : ByteArray} {k z y : List UInt8} (h : GoodV k z y) (e : bytes s = k ++ 58 :: (z ++ 64 :: y)) :
    valueP s = (⟨(kindP (str k)).1, str z, (pairP (str y) ⟨#[45]⟩).1, (pairP (str y) ⟨#[45]⟩).2.1⟩, true) := by
  have e1 := cutB_hit h.k58 e
  have e2 : cutB (str (z ++ 64 :: y)) ⟨#[64]⟩ = (str z, str y, true) := cutB_hit h.z64 (bytes_str _)
  unfold valueP
  rw [e1]
  dsimp only
  rw [e2]
  dsimp only
  rw [h.kind, h.name, h.pair]
  rfl
theorem valueQ_of {s : ByteArray} {k z y : List UInt8} (h : GoodV k z y) (e : bytes s = k ++ 58 :: (z ++ 64 :: y)) :
    valueQ s = (⟨(kindP (str k)).1, str z, (pairP (str y) ⟨#[45]⟩).1, (pairP (str y) ⟨#[45]⟩).2.1⟩, true) := by
  have h64 : (64 : UInt8) ∉ k ++ 58 :: z := fun hm => by
    rcases List.mem_append.1 hm with hm | hm
    · exact h.k64 hm
    · rcases List.mem_cons.1 hm with hm | hm
      · cases hm
      · exact h.z64 hm
  have e1 : splB s 64 = [str (k ++ 58 :: z), str y] := by
    unfold splB
    rw [e, show k ++ 58 :: (z ++ 64 :: y) = (k ++ 58 :: z) ++ 64 :: y by simp, spl_hit 64 _ _ h64, spl_none 64 y h.y64]; rfl
  have e2 : splB (str (k ++ 58 :: z)) 58 = [str k, str z] := by
    unfold splB
    rw [bytes_str, spl_hit 58 _ _ h.k58, spl_none 58 z h.z58]; rfl
  have e3 : (str k).size = 1 := by
    rw [← bytes_length, bytes_str]
    rcases kind_one h.kind with e | e | e <;> rw [e] <;> rfl
  have hp := pair_eq (str y) 45 (by decide)
  have hp2 := hp.2 (by rw [hp.1]; exact h.pair)
  unfold valueQ
  rw [e1]
  dsimp only
  rw [e2]
  dsimp only
  rw [if_pos ⟨e3, h.name⟩, hp2, h.pair, h.kind]
  rfl
theorem good_of_P {s : ByteArray} (h : (valueP s).2 = true) : ∃ k z y, GoodV k z y ∧ bytes s = k ++ 58 :: (z ++ 64 :: y) := by
  unfold valueP at h
  dsimp only at h
  split at h
  · rename_i h1
    simp only [Bool.and_eq_true] at h1
    obtain ⟨⟨hk, hn⟩, hp⟩ := h1
    rcases spl_cases 58 (bytes s) with g | ⟨a, r, g1, g2⟩
    · rw [cutB_none g] at hn
      dsimp only at hn
      exact absurd hn (by decide)
    · rw [cutB_hit g1 g2] at hk hn hp
      dsimp only at hk hn hp
      rcases spl_cases 64 r with f | ⟨z, y, f1, f2⟩
      · rw [cutB_none (by rw [bytes_str]; exact f)] at hp
        dsimp only at hp
        exact absurd hp (by decide)
      · have e2 : cutB (str r) ⟨#[64]⟩ = (str z, str y, true) := cutB_hit f1 (by rw [bytes_str, f2])
        rw [e2] at hn hp
        exact ⟨a, z, y, ⟨hk, hn, hp⟩, by rw [g2, f2]⟩
  · cases h
theorem two_pieces {s : ByteArray} {c : UInt8} {x y : ByteArray} (h : splB s c = [x, y]) : bytes s = bytes x ++ c :: bytes y ∧ c ∉ bytes x ∧ c ∉ bytes y := by
  have hx : c ∉ bytes x := splB_free (s := s) (c := c) (by rw [h]; simp)
  have hy : c ∉ bytes y := splB_free (s := s) (c := c) (by rw [h]; simp)
  refine ⟨?_, hx, hy⟩
  have hb := splB_bytes s c
  rw [h] at hb
  rcases spl_cases c (bytes s) with g | ⟨a, r, g1, g2⟩
  · rw [spl_none c _ g] at hb; simp at hb
  · rw [g2, spl_hit c a r g1] at hb
    rcases spl_cases c r with f | ⟨b, q, f1, f2⟩
    · rw [spl_none c r f] at hb
      simp at hb
      rw [g2, hb.1, hb.2]
    · rw [f2, spl_hit c b q f1] at hb
      have := congrArg List.length hb
      simp at this
      exact absurd this (spl_ne c q)
theorem good_of_Q {s : ByteArray} (h : (valueQ s).2 = true) : ∃ k z y, GoodV k z y ∧ bytes s = k ++ 58 :: (z ++ 64 :: y) := by
  unfold valueQ at h
  split at h
  · rename_i x y hxy
    split at h
    · rename_i k z hkz
      split at h
      · rename_i h1
        simp only [Bool.and_eq_true] at h
        obtain ⟨e1, _, _⟩ := two_pieces hxy
        obtain ⟨e2, _, _⟩ := two_pieces hkz
        have hp := pair_eq y 45 (by decide)
        refine ⟨bytes k, bytes z, bytes y, ⟨by rw [str_bytes]; exact h.2, by rw [str_bytes]; exact h1.2, by rw [str_bytes, ← hp.1]; exact h.1⟩, ?_⟩
        rw [e1, e2]; simp
      · cases h
    · cases h
  · cases h
theorem value_eq (s : ByteArray) : (valueQ s).2 = (valueP s).2 ∧ ((valueQ s).2 = true → valueQ s = valueP s) := by
  have key : ∀ k z y, GoodV k z y → bytes s = k ++ 58 :: (z ++ 64 :: y) → valueQ s = valueP s := fun k z y g e => by rw [valueQ_of g e, valueP_of g e]
  cases hq : (valueQ s).2 with
  | true =>
    obtain ⟨k, z, y, g, e⟩ := good_of_Q hq
    have := key k z y g e
    exact ⟨by rw [← this, hq], fun _ => this⟩
  | false =>
    cases hp : (valueP s).2 with
    | true =>
      obtain ⟨k, z, y, g, e⟩ := good_of_P hp
      have := key k z y g e
      rw [this, hp] at hq; cases hq
    | false => exact ⟨rfl, fun h => by cases h⟩

end Go.Proofs.YthnhpgmohhaeaaaDoor

/- Contract of the specification's value. -/
namespace Go.Proofs.YthnhpgmohhaeaaaDoor
open Go.RowKit

theorem valueQ_len {s : ByteArray} {R : List ByteArray} (h : splB s 64 = R) (hl : R.length ≠ 2) : valueQ s = (zeroVa, false) := by
  unfold valueQ
  rw [h]
  match R, hl with
  | [], _ => rfl
  | [_], _ => rfl
  | [_, _], h => exact absurd rfl h
  | _ :: _ :: _ :: _, _ => rfl
theorem valueQ_len2 {s x y : ByteArray} {R : List ByteArray} (h : splB s 64 = [x, y]) (h2 : splB x 58 = R) (hl : R.length ≠ 2) : valueQ s = (zeroVa, false) := by
  unfold valueQ
  rw [h]
  dsimp only
  rw [h2]
  match R, hl with
  | [], _ => rfl
  | [_], _ => rfl
  | [_, _], h => exact absurd rfl h
  | _ :: _ :: _ :: _, _ => rfl
theorem valueQ_two {s x y k z : ByteArray} (h : splB s 64 = [x, y]) (h2 : splB x 58 = [k, z]) : valueQ s = if k.size = 1 ∧ nameP z = true then (⟨(kindP k).1, z, (pairR y 45).1, (pairR y 45).2.1⟩, (pairR y 45).2.2 && (kindP k).2) else (zeroVa, false) := by
  unfold valueQ
  rw [h]
  dsimp only
  rw [h2]
theorem strs_two {w : World} {A : Option Addr} {x y : ByteArray} (h : StrsAt w A [x, y]) : ∃ b o, A = some ⟨b, o, none⟩ ∧ b < w.heap.size ∧ w.cell? ⟨b, o, none⟩ = some (.string x) ∧ w.cell? ⟨b, o + 1, none⟩ = some (.string y) := by
  obtain ⟨b, o, e, hb, h0⟩ := h 0 x rfl
  obtain ⟨b', o', e', _, h1⟩ := h 1 y rfl
  rw [e] at e'
  injection e' with e'
  injection e' with e1 e2
  subst e1 e2
  exact ⟨b, o, e, hb, h0, h1⟩
theorem list_two {R : List ByteArray} (h : R.length = 2) : ∃ x y, R = [x, y] := by
  match R, h with
  | [x, y], _ => exact ⟨x, y, rfl⟩
theorem below_set4 {B : Nat} {w W : World} (h : Below B w W) {g : Nat} (hg : B ≤ g) (a b c d : Value) : Below B w ((((W.setCell ⟨g, 0, none⟩ a).setCell ⟨g, 1, none⟩ b).setCell ⟨g, 2, none⟩ c).setCell ⟨g, 3, none⟩ d) :=
  (((h.setCell (p := ⟨g, 0, none⟩) hg _).setCell (p := ⟨g, 1, none⟩) hg _).setCell (p := ⟨g, 2, none⟩) hg _).setCell (p := ⟨g, 3, none⟩) hg _

/-- the kind that the loop has set before round j -/
def kU (c : UInt8) (j : Nat) : Int := if 2 ≤ j ∧ (115 : Int) = c.toNat then 1 else if 3 ≤ j ∧ (119 : Int) = c.toNat then 2 else if 4 ≤ j ∧ (99 : Int) = c.toNat then 3 else 0
theorem kU_kind (k : ByteArray) (h : k.size = 1) (h0 : 0 < k.size) : (kindP k).1 = kU k[0] 4 ∧ (kindP k).2 = decide (0 < kU k[0] 4) := by
  have hb : bytes k = [k[0]] := by
    have h4 : (bytes k).length = 1 := by rw [bytes_length]; exact h
    have h5 := bytes_at k 0 h0
    match hbs : bytes k, h4 with
    | [x], _ => rw [hbs] at h5; simp at h5; rw [h5]
  have hs : ∀ c : UInt8, strEq ⟨#[c]⟩ k = decide ((c.toNat : Int) = k[0].toNat) := fun c => by
    rw [Bool.eq_iff_iff, strEq_iff, beq_iff_eq, decide_eq_true_eq, show k.data.toList = [k[0]] from hb]
    constructor
    · intro e
      have : c = k[0] := by simpa using e
      rw [this]
    · intro e
      have : c = k[0] := UInt8.toNat_inj.1 (by omega)
      rw [this]
  unfold kindP kU
  rw [hs, hs, hs]
  simp only [decide_eq_true_eq]
  rw [show (115 : UInt8).toNat = 115 from rfl, show (119 : UInt8).toNat = 119 from rfl, show (99 : UInt8).toNat = 99 from rfl]
  (repeat' split) <;> simp_all
theorem kU_one (c : UInt8) : kU c 1 = 0 := by unfold kU; rw [if_neg (by omega), if_neg (by omega), if_neg (by omega)]

set_option maxHeartbeats 1600000 in
set_option maxRecDepth 100000 in
theorem rvalue_any (s : ByteArray) (w : World) (hs : s.size ≤ 100000) (hnl : (10 : UInt8) ∉ bytes s) :
    Calls Tryd.prog 87 #[.string s] w fun e w' => e = .returned (.tuple #[(valueQ s).1.val, .bool (valueQ s).2]) ∧ Below w.heap.size w w' := by
  have hB0 := Lib.hid (heap_alloc_new w (.cells #[.int .i64 0, .string ⟨#[]⟩, .int .i64 0, .int .i64 0] 60))
  have hb0 := Lib.hid (below_alloc w (.cells #[.int .i64 0, .string ⟨#[]⟩, .int .i64 0, .int .i64 0] 60))
  obtain ⟨R, hR⟩ : ∃ R, splB s 64 = R := ⟨_, rfl⟩
  have A1 := Lib.hid (fun w => show Calls Tryd.prog 63 #[.string s, .int .u8 64] w (GotStrs w R) by rw [← hR]; exact rsplit_any s 64 w hs)
  have HSZ := Lib.hid (fun x (h : x ∈ R) => show x.size ≤ 100000 from Nat.le_trans (splB_size (s := s) (c := 64) (by rw [hR]; exact h)) hs)
  have HNL := Lib.hid (fun x (h : x ∈ R) => show (10 : UInt8) ∉ bytes x from fun hm => hnl (splB_sub (s := s) (c := 64) (by rw [hR]; exact h) hm))
  by_cases hl : R.length = 2
  case neg =>
    have HV := Lib.hid (valueQ_len hR hl)
    obtain ⟨n, hn⟩ : ∃ n, n = R.length := ⟨_, rfl⟩
    have hne : ((n : Int) == 2) = false := by rw [beq_eq_false_iff_ne]; omega
    have hne2 : ((n : Int) != 2) = true := by unfold bne; rw [hne]; rfl
    have HNN := Lib.hid hn
    clear hl hn hR hnl
    go_enter Tryd.func87, Tryd.ntmps87
    go_wp2_with fail
    refine (A1.out _).mono ?_; rintro e w1 ⟨A, cap, rfl, hst, hle, hcap, hb1⟩
    rw [← HNN.out] at hle ⊢
    have b1 := Lib.hid (below_more hb0.out hb1)
    have B1 := Lib.hid (blk_below hb1 hB0.out)
    unfold maxLen at hcap
    clear hb1 hst
    have f0 := free_of_blk B1.out 0
    have f1 := free_of_blk B1.out 1
    have f2 := free_of_blk B1.out 2
    have f3 := free_of_blk B1.out 3
    have q0 := cell_of_blk B1.out 0
    have q1 := cell_of_blk B1.out 1
    have q2 := cell_of_blk B1.out 2
    have q3 := cell_of_blk B1.out 3
    simp at q0 q1 q2 q3
    go_wp2
    refine bodyPost_ret (v := .tuple #[zeroVa.val, .bool false]) (by simp [results, Tryd.results87, go_sem, q0, q1, q2, q3, zeroVa, Va.val]) rfl ⟨ret_vb (by rw [HV.out]), ?_⟩
    exact below_set4 b1.out (Nat.le_refl _) _ _ _ _
  obtain ⟨x, y, rfl⟩ := list_two hl
  obtain ⟨R2, hR2⟩ : ∃ R, splB x 58 = R := ⟨_, rfl⟩
  have hxs := HSZ.out x (by simp)
  have hys := HSZ.out y (by simp)
  have A2 := Lib.hid (fun w => show Calls Tryd.prog 63 #[.string x, .int .u8 58] w (GotStrs w R2) by rw [← hR2]; exact rsplit_any x 58 w hxs)
  have A5 := Lib.hid (fun w => show Calls Tryd.prog 86 #[.string y, .int .u8 45] w _ from rtwo_any y 45 w hys)
  have HSZ2 := Lib.hid (fun z (h : z ∈ R2) => show z.size ≤ 100000 from Nat.le_trans (splB_size (s := x) (c := 58) (by rw [hR2]; exact h)) hxs)
  have HNL2 := Lib.hid (fun z (h : z ∈ R2) => show (10 : UInt8) ∉ bytes z from fun hm => HNL.out x (by simp) (splB_sub (s := x) (c := 58) (by rw [hR2]; exact h) hm))
  by_cases hl2 : R2.length = 2
  case neg =>
    have HV := Lib.hid (valueQ_len2 hR hR2 hl2)
    obtain ⟨n, hn⟩ : ∃ n, n = R2.length := ⟨_, rfl⟩
    have hne : ((n : Int) == 2) = false := by rw [beq_eq_false_iff_ne]; omega
    have hne2 : ((n : Int) != 2) = true := by unfold bne; rw [hne]; rfl
    have HNN := Lib.hid hn
    clear hl hn hR hR2 hl2 hnl
    go_enter Tryd.func87, Tryd.ntmps87
    go_wp2_with fail
    refine (A1.out _).mono ?_; rintro e w1 ⟨A, cap, rfl, hst, hle, hcap, hb1⟩
    obtain ⟨b, o, rfl, hb, hc0, hc1⟩ := strs_two hst
    have b1 := Lib.hid (below_more hb0.out hb1)
    have B1 := Lib.hid (blk_below hb1 hB0.out)
    unfold maxLen at hcap
    clear hb1 hst
    simp only [List.length_cons, List.length_nil, Nat.zero_add, Nat.reduceAdd] at hle ⊢
    go_wp2_with fail
    refine (A2.out _).mono ?_; rintro e w2 ⟨A', cap', rfl, hst2, hle2, hcap2, hb2⟩
    rw [← HNN.out] at hle2 ⊢
    have b2 := Lib.hid (below_more b1.out hb2)
    have B2 := Lib.hid (blk_below hb2 B1.out)
    unfold maxLen at hcap2
    clear hb2 hst2
    have f0 := free_of_blk B2.out 0
    have f1 := free_of_blk B2.out 1
    have f2 := free_of_blk B2.out 2
    have f3 := free_of_blk B2.out 3
    have q0 := cell_of_blk B2.out 0
    have q1 := cell_of_blk B2.out 1
    have q2 := cell_of_blk B2.out 2
    have q3 := cell_of_blk B2.out 3
    simp at q0 q1 q2 q3
    go_wp2
    refine bodyPost_ret (v := .tuple #[zeroVa.val, .bool false]) (by simp [results, Tryd.results87, go_sem, q0, q1, q2, q3, zeroVa, Va.val]) rfl ⟨ret_vb (by rw [HV.out]), ?_⟩
    exact below_set4 b2.out (Nat.le_refl _) _ _ _ _
  obtain ⟨k, z, rfl⟩ := list_two hl2
  have HQ := Lib.hid (valueQ_two hR hR2)
  have hks := HSZ2.out k (by simp)
  have hzs := HSZ2.out z (by simp)
  obtain ⟨nb, hnb⟩ : ∃ n, nameP z = n := ⟨_, rfl⟩
  have A4 := Lib.hid (fun w => rloose_is z w (le_max hzs) (HNL2.out z (by simp)) nb hnb)
  have HNB := Lib.hid hnb
  clear hnl hl hl2 hR hR2 hnb
  go_enter Tryd.func87, Tryd.ntmps87
  go_wp2_with fail
  refine (A1.out _).mono ?_; rintro e w1 ⟨A, cap, rfl, hst, hle, hcap, hb1⟩
  obtain ⟨b, o, rfl, hb, hc0, hc1⟩ := strs_two hst
  have b1 := Lib.hid (below_more hb0.out hb1)
  have B1 := Lib.hid (blk_below hb1 hB0.out)
  have HC1 := Lib.hid hc1
  unfold maxLen at hcap
  clear hb1 hst
  simp only [List.length_cons, List.length_nil, Nat.zero_add, Nat.reduceAdd] at hle ⊢
  go_wp2_with fail
  refine (A2.out _).mono ?_; rintro e w2 ⟨A', cap', rfl, hst2, hle2, hcap2, hb2⟩
  obtain ⟨b', o', rfl, hb', hd0, hd1⟩ := strs_two hst2
  have b2 := Lib.hid (below_more b1.out hb2)
  have B2 := Lib.hid (blk_below hb2 B1.out)
  have hy1 : w2.cell? ⟨b, o + 1, none⟩ = some (.string y) := (hb2.cell (p := ⟨b, _, none⟩) hb).trans HC1.out
  have hbb : b < w2.heap.size := by have := hb2.size; omega
  unfold maxLen at hcap2
  clear hb2 hst2 hc0 hc1
  simp only [List.length_cons, List.length_nil, Nat.zero_add, Nat.reduceAdd] at hle2 ⊢
  have f0 := free_of_blk B2.out 0
  have f1 := free_of_blk B2.out 1
  have f2 := free_of_blk B2.out 2
  have f3 := free_of_blk B2.out 3
  have q0 := cell_of_blk B2.out 0
  have q1 := cell_of_blk B2.out 1
  have q2 := cell_of_blk B2.out 2
  have q3 := cell_of_blk B2.out 3
  simp at q0 q1 q2 q3
  by_cases hk1 : k.size = 1
  case neg =>
    have HV := Lib.hid (show valueQ s = (zeroVa, false) by rw [HQ.out, if_neg (fun h => hk1 h.1)])
    have hne : ((k.size : Int) == 1) = false := by rw [beq_eq_false_iff_ne]; omega
    have hne2 : ((k.size : Int) != 1) = true := by unfold bne; rw [hne]; rfl
    go_wp2
    refine bodyPost_ret (v := .tuple #[zeroVa.val, .bool false]) (by simp [results, Tryd.results87, go_sem, q0, q1, q2, q3, zeroVa, Va.val]) rfl ⟨ret_vb (by rw [HV.out]), ?_⟩
    exact below_set4 b2.out (Nat.le_refl _) _ _ _ _
  have hkeq : ((k.size : Int) == 1) = true := by rw [beq_iff_eq]; omega
  have hkne : ((k.size : Int) != 1) = false := by unfold bne; rw [hkeq]; rfl
  have hk0 : 0 < k.size := by omega
  have HK1 := Lib.hid hk1
  clear hk1
  cases nb with
  | false =>
    have HV := Lib.hid (show valueQ s = (zeroVa, false) by rw [HQ.out, if_neg (fun h => by have := h.2; rw [HNB.out] at this; cases this)])
    go_wp2_with fail
    refine (A4.out _).mono ?_; rintro e w' ⟨rfl, rfl⟩
    go_wp2
    refine bodyPost_ret (v := .tuple #[zeroVa.val, .bool false]) (by simp [results, Tryd.results87, go_sem, q0, q1, q2, q3, zeroVa, Va.val]) rfl ⟨ret_vb (by rw [HV.out]), ?_⟩
    exact below_set4 b2.out (Nat.le_refl _) _ _ _ _
  | true =>
    go_wp2_with fail
    refine (A4.out _).mono ?_; rintro e w' ⟨rfl, rfl⟩
    go_wp2
    have GB := Lib.hid (heap_alloc_new w2 (.cells #[.int .i64 0, .string z, .int .i64 0, .int .i64 0] 60))
    have b3 := Lib.hid (below_alloc w2 (.cells #[.int .i64 0, .string z, .int .i64 0, .int .i64 0] 60))
    generalize w2.alloc (.cells #[.int .i64 0, .string z, .int .i64 0, .int .i64 0] 60) = w3 at GB b3 ⊢
    have HD0 := Lib.hid hd0
    have HY1 := Lib.hid hy1
    clear f0 f1 f2 f3 q0 q1 q2 q3 hd1 hd0 hy1
    go_loopw [7] (fun i wr => ∃ j : Nat, 1 ≤ j ∧ j ≤ 4 ∧ i = .int .i64 j ∧ Hid (Below w2.heap.size w2 wr) ∧ Hid (wr.heap[w2.heap.size]? = some (.cells #[.int .i64 (kU k[0] j), .string z, .int .i64 0, .int .i64 0] 60 (0, 0)))) (fun i _ => 4 - (intOf i).toNat)
    case atStart => exact ⟨1, Nat.le_refl _, by omega, rfl, b3, Lib.hid (by rw [GB.out, kU_one])⟩
    case round =>
      obtain ⟨j, hj1, hj4, rfl, hb, hblk⟩ := hrel
      have g0 := free_of_blk hblk.out 0
      have hd0 := (hb.out.cell (p := ⟨b', _, none⟩) hb').trans HD0.out
      have hgl : w2.heap.size < wr.heap.size := (Array.getElem?_eq_some_iff.1 hblk.out).1
      have hbw : b' < wr.heap.size := by omega
      have gc0 := cell_of_blk hblk.out 0
      simp at gc0
      rcases (show j = 1 ∨ j = 2 ∨ j = 3 ∨ j = 4 by omega) with rfl | rfl | rfl | rfl
      · obtain ⟨q, hq⟩ : ∃ q, (((⟨#[32, 115, 119, 99]⟩ : ByteArray)[1].toNat : Int) == (k[0].toNat : Int)) = q := ⟨_, rfl⟩
        have HQ2 := Lib.hid (show ((115 : Int) == (k[0].toNat : Int)) = q from hq)
        cases q with
        | true =>
          have hst := Lib.hid (show kU k[0] 2 = 1 by have := HQ2.out; simp at this; unfold kU; (repeat' split) <;> omega)
          go_wp2_with fail
          refine wp_region_later (by kernel_rfl) (by kernel_rfl) ?_; (repeat (first | go_big_quiet_step (fail) | quiet_step (fail))); refine wpQuiet_nil ?_; rintro _ ⟨s, rfl⟩
          go_wp2
          have NB := Lib.hid (show (s.w.setCell ⟨w2.heap.size, 0, none⟩ (.int .i64 1)).heap[w2.heap.size]? = some (.cells #[.int .i64 (kU k[0] 2), .string z, .int .i64 0, .int .i64 0] 60 (0, 0)) from by
            rw [hst.out]
            have h0 := blk_keep s.below hblk.out
            have := heap_setCell_same s.w w2.heap.size 0 (.int .i64 1) _ _ h0
            rw [this]; rfl)
          have BB := Lib.hid ((hb.out.trans (s.below.mono hb.out.size)).setCell (p := ⟨w2.heap.size, 0, none⟩) (Nat.le_refl _) (.int .i64 1))
          go_roundw
          case rel => exact ⟨2, by omega, by omega, rfl, BB, NB⟩
          case measure => simp [intOf]
        | false =>
          have hst := Lib.hid (show kU k[0] 2 = kU k[0] 1 by have := HQ2.out; simp at this; unfold kU; (repeat' split) <;> omega)
          go_wp2_with fail
          refine wp_region_later (by kernel_rfl) (by kernel_rfl) ?_; (repeat (first | go_big_quiet_step (fail) | quiet_step (fail))); refine wpQuiet_nil ?_; rintro _ ⟨s, rfl⟩
          go_wp2
          have NB := Lib.hid (show s.w.heap[w2.heap.size]? = some (.cells #[.int .i64 (kU k[0] 2), .string z, .int .i64 0, .int .i64 0] 60 (0, 0)) from by
            rw [hst.out]
            exact blk_keep s.below hblk.out)
          have BB := Lib.hid (hb.out.trans (s.below.mono hb.out.size))
          go_roundw
          case rel => exact ⟨2, by omega, by omega, rfl, BB, NB⟩
          case measure => simp [intOf]
      · obtain ⟨q, hq⟩ : ∃ q, (((⟨#[32, 115, 119, 99]⟩ : ByteArray)[2].toNat : Int) == (k[0].toNat : Int)) = q := ⟨_, rfl⟩
        have HQ2 := Lib.hid (show ((119 : Int) == (k[0].toNat : Int)) = q from hq)
        cases q with
        | true =>
          have hst := Lib.hid (show kU k[0] 3 = 2 by have := HQ2.out; simp at this; unfold kU; (repeat' split) <;> omega)
          go_wp2_with fail
          refine wp_region_later (by kernel_rfl) (by kernel_rfl) ?_; (repeat (first | go_big_quiet_step (fail) | quiet_step (fail))); refine wpQuiet_nil ?_; rintro _ ⟨s, rfl⟩
          go_wp2
          have NB := Lib.hid (show (s.w.setCell ⟨w2.heap.size, 0, none⟩ (.int .i64 2)).heap[w2.heap.size]? = some (.cells #[.int .i64 (kU k[0] 3), .string z, .int .i64 0, .int .i64 0] 60 (0, 0)) from by
            rw [hst.out]
            have h0 := blk_keep s.below hblk.out
            have := heap_setCell_same s.w w2.heap.size 0 (.int .i64 2) _ _ h0
            rw [this]; rfl)
          have BB := Lib.hid ((hb.out.trans (s.below.mono hb.out.size)).setCell (p := ⟨w2.heap.size, 0, none⟩) (Nat.le_refl _) (.int .i64 2))
          go_roundw
          case rel => exact ⟨3, by omega, by omega, rfl, BB, NB⟩
          case measure => simp [intOf]
        | false =>
          have hst := Lib.hid (show kU k[0] 3 = kU k[0] 2 by have := HQ2.out; simp at this; unfold kU; (repeat' split) <;> omega)
          go_wp2_with fail
          refine wp_region_later (by kernel_rfl) (by kernel_rfl) ?_; (repeat (first | go_big_quiet_step (fail) | quiet_step (fail))); refine wpQuiet_nil ?_; rintro _ ⟨s, rfl⟩
          go_wp2
          have NB := Lib.hid (show s.w.heap[w2.heap.size]? = some (.cells #[.int .i64 (kU k[0] 3), .string z, .int .i64 0, .int .i64 0] 60 (0, 0)) from by
            rw [hst.out]
            exact blk_keep s.below hblk.out)
          have BB := Lib.hid (hb.out.trans (s.below.mono hb.out.size))
          go_roundw
          case rel => exact ⟨3, by omega, by omega, rfl, BB, NB⟩
          case measure => simp [intOf]
      · obtain ⟨q, hq⟩ : ∃ q, (((⟨#[32, 115, 119, 99]⟩ : ByteArray)[3].toNat : Int) == (k[0].toNat : Int)) = q := ⟨_, rfl⟩
        have HQ2 := Lib.hid (show ((99 : Int) == (k[0].toNat : Int)) = q from hq)
        cases q with
        | true =>
          have hst := Lib.hid (show kU k[0] 4 = 3 by have := HQ2.out; simp at this; unfold kU; (repeat' split) <;> omega)
          go_wp2_with fail
          refine wp_region_later (by kernel_rfl) (by kernel_rfl) ?_; (repeat (first | go_big_quiet_step (fail) | quiet_step (fail))); refine wpQuiet_nil ?_; rintro _ ⟨s, rfl⟩
          go_wp2
          have NB := Lib.hid (show (s.w.setCell ⟨w2.heap.size, 0, none⟩ (.int .i64 3)).heap[w2.heap.size]? = some (.cells #[.int .i64 (kU k[0] 4), .string z, .int .i64 0, .int .i64 0] 60 (0, 0)) from by
            rw [hst.out]
            have h0 := blk_keep s.below hblk.out
            have := heap_setCell_same s.w w2.heap.size 0 (.int .i64 3) _ _ h0
            rw [this]; rfl)
          have BB := Lib.hid ((hb.out.trans (s.below.mono hb.out.size)).setCell (p := ⟨w2.heap.size, 0, none⟩) (Nat.le_refl _) (.int .i64 3))
          go_roundw
          case rel => exact ⟨4, by omega, by omega, rfl, BB, NB⟩
          case measure => simp [intOf]
        | false =>
          have hst := Lib.hid (show kU k[0] 4 = kU k[0] 3 by have := HQ2.out; simp at this; unfold kU; (repeat' split) <;> omega)
          go_wp2_with fail
          refine wp_region_later (by kernel_rfl) (by kernel_rfl) ?_; (repeat (first | go_big_quiet_step (fail) | quiet_step (fail))); refine wpQuiet_nil ?_; rintro _ ⟨s, rfl⟩
          go_wp2
          have NB := Lib.hid (show s.w.heap[w2.heap.size]? = some (.cells #[.int .i64 (kU k[0] 4), .string z, .int .i64 0, .int .i64 0] 60 (0, 0)) from by
            rw [hst.out]
            exact blk_keep s.below hblk.out)
          have BB := Lib.hid (hb.out.trans (s.below.mono hb.out.size))
          go_roundw
          case rel => exact ⟨4, by omega, by omega, rfl, BB, NB⟩
          case measure => simp [intOf]
      · have hy1 := (hb.out.cell (p := ⟨b, _, none⟩) hbb).trans HY1.out
        have hbb' : b < wr.heap.size := by omega
        go_wp2_with fail
        obtain ⟨⟨p0, p1, pb⟩, hp⟩ : ∃ p, p = pairR y 45 := ⟨_, rfl⟩
        obtain ⟨K, hK⟩ : ∃ K, K = kU k[0] 4 := ⟨_, rfl⟩
        have HV := Lib.hid (show valueQ s = (⟨K, z, p0, p1⟩, pb && decide (0 < K)) by
          rw [HQ.out, if_pos ⟨HK1.out, HNB.out⟩, ← hp, hK, (kU_kind k HK1.out hk0).1, (kU_kind k HK1.out hk0).2]; rfl)
        have A6 := Lib.hid (fun w => show Calls Tryd.prog 86 #[.string y, .int .u8 45] w (fun e w' => e = .returned (.tuple #[.int .i64 p0, .int .i64 p1, .bool pb]) ∧ Below w.heap.size w w') by
          have := A5.out w; rw [← hp] at this; exact this)
        rw [← hK] at hblk gc0
        refine (A6.out _).mono ?_; rintro e w4 ⟨rfl, hb4⟩
        have b24 := Lib.hid (hb.out.trans (hb4.mono hb.out.size))
        have b4 := Lib.hid (below_more b2.out b24.out)
        have BR := Lib.hid (blk_below b24.out B2.out)
        have BV := Lib.hid (blk_below hb4 hblk.out)
        have hlv : w2.heap.size < w4.heap.size := (Array.getElem?_eq_some_iff.1 BV.out).1
        have hlr : w.heap.size < w2.heap.size := (Array.getElem?_eq_some_iff.1 B2.out).1
        clear hp hK A5 A6 hb4 gc0 g0 hd0 hy1 hbw hgl
        have f0 := free_of_blk BR.out 0
        have f1 := free_of_blk BR.out 1
        have f2 := free_of_blk BR.out 2
        have f3 := free_of_blk BR.out 3
        have q0 := cell_of_blk BR.out 0
        have q1 := cell_of_blk BR.out 1
        have q2 := cell_of_blk BR.out 2
        have q3 := cell_of_blk BR.out 3
        simp at q0 q1 q2 q3
        have m0 := free_of_blk BV.out 0
        have m1 := free_of_blk BV.out 1
        have m2 := free_of_blk BV.out 2
        have m3 := free_of_blk BV.out 3
        have v0 := cell_of_blk BV.out 0
        have v1 := cell_of_blk BV.out 1
        have v2 := cell_of_blk BV.out 2
        have v3 := cell_of_blk BV.out 3
        simp at v0 v1 v2 v3
        cases pb with
        | true =>
          go_wp2_with fail
          go_region
          all_goals go_wp2
          all_goals refine bodyPost_ret (v := .tuple #[Va.val ⟨K, z, p0, p1⟩, .bool (decide (0 < K))]) (by simp [results, Tryd.results87, go_sem, q0, q1, q2, q3, Va.val]) rfl ⟨ret_vb (by rw [HV.out]; simp), ?_⟩
          all_goals exact (below_set4 (((b4.out.setCell (p := ⟨w2.heap.size, 2, none⟩) (Nat.le_of_lt hlr) _).setCell (p := ⟨w2.heap.size, 3, none⟩) (Nat.le_of_lt hlr) _)) (Nat.le_refl _) _ _ _ _).drew
        | false =>
          go_wp2_with fail
          go_region
          all_goals go_wp2
          all_goals refine bodyPost_ret (v := .tuple #[Va.val ⟨K, z, p0, p1⟩, .bool false]) (by simp [results, Tryd.results87, go_sem, q0, q1, q2, q3, Va.val]) rfl ⟨ret_vb (by rw [HV.out]; simp), ?_⟩
          all_goals exact (below_set4 (((b4.out.setCell (p := ⟨w2.heap.size, 2, none⟩) (Nat.le_of_lt hlr) _).setCell (p := ⟨w2.heap.size, 3, none⟩) (Nat.le_of_lt hlr) _)) (Nat.le_refl _) _ _ _ _).drew

end Go.Proofs.YthnhpgmohhaeaaaDoor

/- Contract of the specification's line. -/
namespace Go.Proofs.YthnhpgmohhaeaaaDoor
open Go.RowKit

/-- what the loop over the fields behind a size has read before field i -/
def LineInv (r : List ByteArray) (i : Nat) (even : Bool) (done : List Va) : Prop :=
  (i = 2 ∧ even = false ∧ done = []) ∨ (3 ≤ i ∧ even = (restP r).1 ∧ valsP (restP r).2 = (valsP (r.drop (i - 2))).map (done ++ ·))
theorem LineInv.eq {r : List ByteArray} {x : ByteArray} (hx : r[0]? = some x) (h : strEq x ⟨#[61]⟩ = true) : LineInv r 3 true [] := by
  cases r with
  | nil => simp at hx
  | cons y r =>
    have : y = x := by simpa using hx
    subst this
    refine .inr ⟨Nat.le_refl _, ?_, ?_⟩
    · rw [restP_fst, h]
    · rw [restP_cons, if_pos h]; simp
theorem LineInv.val {r : List ByteArray} {i : Nat} {even : Bool} {done : List Va} {x : ByteArray} (hi : LineInv r i even done) (hx : r[i - 2]? = some x) (hn : i = 2 → strEq x ⟨#[61]⟩ = false) (hok : (valueP x).2 = true) :
    LineInv r (i + 1) even (done ++ [(valueP x).1]) := by
  rcases hi with ⟨rfl, rfl, rfl⟩ | ⟨h3, he, hv⟩
  · cases r with
    | nil => simp at hx
    | cons y r =>
      have : y = x := by simpa using hx
      subst this
      have hne := hn rfl
      refine .inr ⟨Nat.le_refl _, by rw [restP_fst, hne], ?_⟩
      rw [restP_cons, if_neg (by rw [hne]; decide)]
      show valsP (y :: r) = (valsP r).map _
      rw [valsP, if_pos hok]; rfl
  · refine .inr ⟨by omega, he, ?_⟩
    obtain ⟨hk, e⟩ := List.getElem?_eq_some_iff.1 hx
    rw [hv, List.drop_eq_getElem_cons hk, e, valsP, if_pos hok, Option.map_map, show i - 2 + 1 = i + 1 - 2 by omega]
    congr 1
    funext l
    simp
theorem LineInv.bad {r : List ByteArray} {i : Nat} {even : Bool} {done : List Va} {x : ByteArray} (hi : LineInv r i even done) (hx : r[i - 2]? = some x) (hn : i = 2 → strEq x ⟨#[61]⟩ = false) (hok : (valueP x).2 = false) :
    valsP (restP r).2 = none := by
  rcases hi with ⟨rfl, rfl, rfl⟩ | ⟨h3, he, hv⟩
  · cases r with
    | nil => simp at hx
    | cons y r =>
      have : y = x := by simpa using hx
      subst this
      have hne := hn rfl
      rw [restP_cons, if_neg (by rw [hne]; decide)]
      show valsP (y :: r) = none
      rw [valsP, if_neg (by rw [hok]; decide)]
  · obtain ⟨hk, e⟩ := List.getElem?_eq_some_iff.1 hx
    rw [hv, List.drop_eq_getElem_cons hk, e, valsP, if_neg (by rw [hok]; decide)]; rfl
theorem LineInv.fin {r : List ByteArray} {i : Nat} {even : Bool} {done : List Va} (hi : LineInv r i even done) (h : i = r.length + 2) : valsP (restP r).2 = some done ∧ even = (restP r).1 := by
  rcases hi with ⟨h2, rfl, rfl⟩ | ⟨h3, he, hv⟩
  · have : r = [] := List.eq_nil_of_length_eq_zero (by omega)
    subst this
    exact ⟨rfl, rfl⟩
  · refine ⟨?_, he⟩
    rw [hv, h, Nat.add_sub_cancel, List.drop_length]; simp [valsP]

/-- what holds at the head of a round -/
structure LineRel (w1 wr : World) (code : ByteArray) (wide high : Int) (even : Bool) (k : Nat) (v : Value) (done : List Va) : Prop where
  below : Below w1.heap.size w1 wr
  b0 : wr.heap[w1.heap.size]? = some (.cells #[.string code, .int .i64 wide, .int .i64 high, .bool even, v] 63 (0, 0))
  own : wr.ownsRow (w1.heap.size + 1) 60 4 v k (done.flatMap Va.cells)
  len : done.length = k
  text : ∀ d ∈ done, d.text.size ≤ maxLen

theorem LineRel.step {w1 wr w2 w3 : World} {code : ByteArray} {wide high : Int} {even : Bool} {A2 : Option Addr} {k c2 : Nat} {v : Value} {done : List Va} {u : Va} {box blk : Obj}
    (h : LineRel w1 wr code wide high even k v done) (hb : Below wr.heap.size wr w2)
    (own2 : w3.ownsRow (w1.heap.size + 1) 60 4 (.slice A2 (k + 1) c2) (k + 1) (done.flatMap Va.cells ++ Va.cells u))
    (hg2 : ((w2.alloc box).alloc blk).grownBy w3 v.ownBlock) (hu : u.text.size ≤ maxLen) :
    LineRel w1 (w3.setCell ⟨w1.heap.size, 4, none⟩ (.slice A2 (k + 1) c2)) code wide high even (k + 1) (.slice A2 (k + 1) c2) (done ++ [u]) := by
  have hlt0 : w1.heap.size < wr.heap.size := (Array.getElem?_eq_some_iff.1 h.b0).1
  have s1 : wr.heap.size ≤ w2.heap.size := hb.size
  have hvb : ∀ g, v.ownBlock = some g → w1.heap.size + 1 ≤ g ∧ g < wr.heap.size := fun g hg => h.own.lt g hg
  refine ⟨?_, ?_, ?_, ?_, ?_⟩
  · have b1 := ((h.below.trans (hb.mono (by omega))).alloc (by omega) box).alloc (by simp; omega) blk
    exact (b1.grown hg2 (by simp; omega) (fun g hg => by have := hvb g hg; omega)).setCell (by dsimp only; omega) _
  · have hbk : w3.heap[w1.heap.size]? = some (.cells #[.string code, .int .i64 wide, .int .i64 high, .bool even, v] 63 (0, 0)) := by
      rw [hg2.block _ (by simp; omega) (fun e => by have := hvb _ e.symm; omega), heap_alloc_other _ _ _ (by simp; omega), heap_alloc_other _ _ _ (by omega), hb.block _ hlt0]; exact h.b0
    rw [heap_setCell_same _ _ _ _ _ _ hbk]; rfl
  · have := ownsRow_of_block (w' := w3.setCell ⟨w1.heap.size, 4, none⟩ (.slice A2 (k + 1) c2)) own2 (fun g hg => heap_setCell_other _ _ _ _ (by
      have := (own2.lt g hg).1; dsimp only; omega))
    simpa using this
  · simp [h.len]
  · intro d hd
    rcases List.mem_append.1 hd with hd | hd
    · exact h.text d hd
    · simp at hd; subst hd; exact hu
theorem LineRel.ok {w1 wr : World} {code : ByteArray} {wide high : Int} {even : Bool} {A' : Option Addr} {k c' : Nat} {done : List Va}
    (h : LineRel w1 wr code wide high even k (.slice A' k c') done) (hc : code.size ≤ maxLen) : SmOk wr ⟨⟨code, wide, high, even, done⟩, A', c'⟩ ∧ (∀ b o, A' = some ⟨b, o, none⟩ → w1.heap.size + 1 ≤ b ∧ b < wr.heap.size) := by
  obtain ⟨A1, c1, e1, h1, h2, hA, hAn⟩ := own_slice h.own
  injection e1 with e1 e2 e3
  subst e1 e3
  refine ⟨⟨vals_of_cells hA (fun e => by rw [h.len]; exact hAn e) h.text, by dsimp only; rw [h.len]; exact h1, h2, hc⟩, fun b o e => ?_⟩
  obtain ⟨g, eg, hg0, hg1, _⟩ := hA _ e
  injection eg with eg _
  omega
theorem LineRel.even {w1 wr : World} {code : ByteArray} {wide high : Int} {even : Bool} {k : Nat} {v : Value} {done : List Va} (h : LineRel w1 wr code wide high even k v done) :
    LineRel w1 (wr.setCell ⟨w1.heap.size, 3, none⟩ (.bool true)) code wide high true k v done := by
  refine ⟨h.below.setCell (Nat.le_refl _) _, ?_, ?_, h.len, h.text⟩
  · rw [heap_setCell_same _ _ _ _ _ _ h.b0]; rfl
  · exact ownsRow_of_block h.own (fun g hg => heap_setCell_other _ _ _ _ (by have := (h.own.lt g hg).1; dsimp only; omega))
theorem signF_none {c z : ByteArray} {r : List ByteArray} (h : valsP (restP r).2 = none) : signF (c :: z :: r) = (zeroSg, false) := by
  unfold signF
  dsimp only
  rw [h]
  split <;> rfl
theorem signF_some {c z : ByteArray} {r : List ByteArray} {vs : List Va} (hc : nameP c = true) (hz : (pairP z ⟨#[120]⟩).2.2 = true) (h : valsP (restP r).2 = some vs) :
    signF (c :: z :: r) = (⟨c, (pairP z ⟨#[120]⟩).1, (pairP z ⟨#[120]⟩).2.1, (restP r).1, vs⟩, true) := by
  unfold signF
  dsimp only
  rw [h, hc, hz]
  rfl

end Go.Proofs.YthnhpgmohhaeaaaDoor

/- Contract of the specification's line: the walk. -/
namespace Go.Proofs.YthnhpgmohhaeaaaDoor
open Go.RowKit

set_option maxHeartbeats 3200000 in
set_option maxRecDepth 100000 in
theorem rline_any (s : ByteArray) (w : World) (hs : s.size ≤ 100000) (hnl : (10 : UInt8) ∉ bytes s) : Calls Tryd.prog 65 #[.string s] w (GotSign w (signP s)) := by
  have hB0 := Lib.hid (heap_alloc_new w (.cells #[.string ⟨#[]⟩, .int .i64 0, .int .i64 0, .bool false, .slice none 0 0] 63))
  have hb0 := Lib.hid (below_alloc w (.cells #[.string ⟨#[]⟩, .int .i64 0, .int .i64 0, .bool false, .slice none 0 0] 63))
  obtain ⟨R, hR⟩ : ∃ R, splB s 32 = R := ⟨_, rfl⟩
  have hsp : signP s = signF R := by unfold signP; rw [splitS_spl, hR]
  have HS := Lib.hid (fun w => show Calls Tryd.prog 63 #[.string s, .int .u8 32] w (GotStrs w R) by rw [← hR]; exact rsplit_any s 32 w hs)
  have HSZ := Lib.hid (fun x (h : x ∈ R) => show x.size ≤ 100000 from Nat.le_trans (splB_size (s := s) (c := 32) (by rw [hR]; exact h)) hs)
  have HNL := Lib.hid (fun x (h : x ∈ R) => show (10 : UInt8) ∉ bytes x from fun hm => hnl (splB_sub (s := s) (c := 32) (by rw [hR]; exact h) hm))
  have hRl : R.length ≤ 100001 := by have := splB_len s 32; rw [hR] at this; omega
  have hRn : R ≠ [] := by rw [← hR]; exact splB_ne s 32
  clear hR hnl
  match R, hRn, hRl, hsp, HS, HSZ, HNL with
  | [], h, _, _, _, _, _ => exact absurd rfl h
  | [c], _, _, hsp, HS, HSZ, HNL =>
    have HSP1 := Lib.hid (show signP s = (zeroSg, false) from hsp)
    clear hsp hRn hRl
    go_enter Tryd.func65, Tryd.ntmps65
    go_wp2_with fail
    refine (HS.out _).mono ?_; rintro e w1 ⟨A, cap, rfl, hst, hle, hcap, hb1⟩
    have b1 := Lib.hid (below_more hb0.out hb1)
    have B1 := Lib.hid (blk_below hb1 hB0.out)
    unfold maxLen at hcap
    clear hb1 hst
    simp only [List.length_cons, List.length_nil, Nat.zero_add, Nat.reduceAdd] at hle ⊢
    have q0 := cell_of_blk B1.out 0
    have q1 := cell_of_blk B1.out 1
    have q2 := cell_of_blk B1.out 2
    have q3 := cell_of_blk B1.out 3
    have q4 := cell_of_blk B1.out 4
    simp at q0 q1 q2 q3 q4
    have f0 := free_of_blk B1.out 0
    have f1 := free_of_blk B1.out 1
    have f2 := free_of_blk B1.out 2
    have f3 := free_of_blk B1.out 3
    have f4 := free_of_blk B1.out 4
    go_wp2_with fail
    refine bodyPost_ret (v := .tuple #[Sm.val ⟨zeroSg, none, 0⟩, .bool false]) (by simp [results, Tryd.results65, go_sem, q0, q1, q2, q3, q4, zeroSg, Sm.val]) rfl ⟨⟨zeroSg, none, 0⟩, ret_sb rfl (by rw [HSP1.out]), by rw [HSP1.out], smok_zero _, fun _ _ h => (by cases h), ?_⟩
    exact below_set5 b1.out _ _ _ _ _
  | c :: z :: r, _, hRl, hsp, HS, HSZ, HNL =>
    obtain ⟨nb, hnb⟩ : ∃ n, nameP c = n := ⟨_, rfl⟩
    have hcs := HSZ.out c (by simp)
    have hzs := HSZ.out z (by simp)
    have A4 := Lib.hid (fun w => rloose_is c w (le_max hcs) (HNL.out c (by simp)) nb hnb)
    have HNB := Lib.hid hnb
    have HPE := Lib.hid (pair_eq z 120 (by decide))
    obtain ⟨⟨p0, p1, pb⟩, hp⟩ : ∃ p, p = pairR z 120 := ⟨_, rfl⟩
    have A5 := Lib.hid (fun w => show Calls Tryd.prog 86 #[.string z, .int .u8 120] w (fun e w' => e = .returned (.tuple #[.int .i64 p0, .int .i64 p1, .bool pb]) ∧ Below w.heap.size w w') by
      have := rtwo_any z 120 w hzs; rw [← hp] at this; exact this)
    have HPB := Lib.hid hp
    have HSP := Lib.hid hsp
    obtain ⟨N, hN⟩ : ∃ N, N = (c :: z :: r).length := ⟨_, rfl⟩
    have HN := Lib.hid (show N = r.length + 2 by rw [hN]; simp)
    have hN2 : 2 ≤ N := by have := HN.out; omega
    rw [← hN] at hRl
    have HNN := Lib.hid hN
    clear hsp hnb hp hN hRn hzs
    go_enter Tryd.func65, Tryd.ntmps65
    go_wp2_with fail
    refine (HS.out _).mono ?_; rintro e w1 ⟨A, cap, rfl, hst, hle, hcap, hb1⟩
    rw [← HNN.out] at hle ⊢
    have b1 := Lib.hid (below_more hb0.out hb1)
    have B1 := Lib.hid (blk_below hb1 hB0.out)
    have STR := Lib.hid hst
    obtain ⟨b, o, rfl, hb, hc0⟩ := hst 0 c rfl
    obtain ⟨b', o', hA', hb', hc1⟩ := hst 1 z rfl
    injection hA' with hA'
    injection hA' with e1 e2
    subst e1 e2
    rw [Nat.add_zero] at hc0
    unfold maxLen at hcap
    have hw1 : w.heap.size < w1.heap.size := (Array.getElem?_eq_some_iff.1 B1.out).1
    clear hb1 hst hb'
    have q0 := cell_of_blk B1.out 0
    have q1 := cell_of_blk B1.out 1
    have q2 := cell_of_blk B1.out 2
    have q3 := cell_of_blk B1.out 3
    have q4 := cell_of_blk B1.out 4
    simp at q0 q1 q2 q3 q4
    have f0 := free_of_blk B1.out 0
    have f1 := free_of_blk B1.out 1
    have f2 := free_of_blk B1.out 2
    have f3 := free_of_blk B1.out 3
    have f4 := free_of_blk B1.out 4
    cases nb with
    | false =>
      have HF := Lib.hid (show signP s = (zeroSg, false) by rw [HSP.out]; unfold signF; dsimp only; rw [HNB.out]; rfl)
      go_wp2_with fail
      refine (A4.out _).mono ?_; rintro e w' ⟨rfl, rfl⟩
      go_wp2_with fail
      refine bodyPost_ret (v := .tuple #[Sm.val ⟨zeroSg, none, 0⟩, .bool false]) (by simp [results, Tryd.results65, go_sem, q0, q1, q2, q3, q4, zeroSg, Sm.val]) rfl ⟨⟨zeroSg, none, 0⟩, ret_sb rfl (by rw [HF.out]), by rw [HF.out], smok_zero _, fun _ _ h => (by cases h), ?_⟩
      exact below_set5 b1.out _ _ _ _ _
    | true =>
    go_wp2_with fail
    refine (A4.out _).mono ?_; rintro e w' ⟨rfl, rfl⟩
    go_wp2_with fail
    have GB := Lib.hid (heap_alloc_new w1 (.cells #[.string c, .int .i64 0, .int .i64 0, .bool false, .slice none 0 0] 63))
    have ba := Lib.hid (below_alloc w1 (.cells #[.string c, .int .i64 0, .int .i64 0, .bool false, .slice none 0 0] 63))
    generalize w1.alloc (.cells #[.string c, .int .i64 0, .int .i64 0, .bool false, .slice none 0 0] 63) = w2 at GB ba ⊢
    refine (A5.out _).mono ?_; rintro e w3 ⟨rfl, hb3⟩
    have B13 := Lib.hid (ba.out.trans (hb3.mono ba.out.size))
    have b3 := Lib.hid (below_more b1.out B13.out)
    have BR := Lib.hid (blk_below B13.out B1.out)
    have BG := Lib.hid (blk_below hb3 GB.out)
    clear hb3 GB ba q0 q1 q2 q3 q4 f0 f1 f2 f3 f4 hc0 hc1
    have q0 := cell_of_blk BR.out 0
    have q1 := cell_of_blk BR.out 1
    have q2 := cell_of_blk BR.out 2
    have q3 := cell_of_blk BR.out 3
    have q4 := cell_of_blk BR.out 4
    simp at q0 q1 q2 q3 q4
    have f0 := free_of_blk BR.out 0
    have f1 := free_of_blk BR.out 1
    have f2 := free_of_blk BR.out 2
    have f3 := free_of_blk BR.out 3
    have f4 := free_of_blk BR.out 4
    have hl3 : w1.heap.size < w3.heap.size := (Array.getElem?_eq_some_iff.1 BG.out).1
    cases pb with
    | false =>
      have HF := Lib.hid (show signP s = (zeroSg, false) by
        have := HPE.out.1; rw [← HPB.out] at this
        rw [HSP.out]; unfold signF; dsimp only; rw [← this, Bool.and_false]; rfl)
      go_wp2_with fail
      refine bodyPost_ret (v := .tuple #[Sm.val ⟨zeroSg, none, 0⟩, .bool false]) (by simp [results, Tryd.results65, go_sem, q0, q1, q2, q3, q4, zeroSg, Sm.val]) rfl ⟨⟨zeroSg, none, 0⟩, ret_sb rfl (by rw [HF.out]), by rw [HF.out], smok_zero _, fun _ _ h => (by cases h), ?_⟩
      exact below_set5 b3.out _ _ _ _ _
    | true =>
    have hpe := HPE.out.2 (by rw [← HPB.out])
    rw [← HPB.out] at hpe
    have HPP := Lib.hid hpe
    clear hpe
    have m1 := free_of_blk BG.out 1
    have m2 := free_of_blk BG.out 2
    have v1 := cell_of_blk BG.out 1
    have v2 := cell_of_blk BG.out 2
    simp at v1 v2
    have REL0 := Lib.hid (show LineRel w1 ((w3.setCell ⟨w1.heap.size, 1, none⟩ (.int .i64 p0)).setCell ⟨w1.heap.size, 2, none⟩ (.int .i64 p1)) c p0 p1 false 0 (.slice none 0 0) [] from by
      refine ⟨(B13.out.setCell (Nat.le_refl _) _).setCell (Nat.le_refl _) _, ?_, by simpa using World.ownsRow_nil _ _ _ _, rfl, fun d h => by cases h⟩
      rw [heap_setCell_same _ _ _ _ _ _ (heap_setCell_same _ _ _ _ _ _ BG.out)]; rfl)
    clear BR q0 q1 q2 q3 q4 f0 f1 f2 f3 f4
    obtain ⟨iv, hiv, hzv, hsv, hbv⟩ := info_hid infoVa
    go_wp2
    go_loopw [9] (fun i wr => ∃ j : Nat, 2 ≤ j ∧ j ≤ N ∧ i = .int .i64 j ∧ ∃ (ev : Bool) (k : Nat) (v : Value) (done : List Va), k + 2 ≤ j ∧ Hid (LineRel w1 wr c p0 p1 ev k v done) ∧ Hid (LineInv r j ev done)) (fun i _ => N - (intOf i).toNat)
    case atStart => exact ⟨2, Nat.le_refl _, hN2, rfl, false, 0, .slice none 0 0, [], Nat.le_refl _, REL0, Lib.hid (.inl ⟨rfl, rfl, rfl⟩)⟩
    case round =>
      obtain ⟨j, hj2, hjN, rfl, ev, k, v, done, hkj, HR, HI⟩ := hrel
      have hlt0 : w1.heap.size < wr.heap.size := (Array.getElem?_eq_some_iff.1 HR.out.b0).1
      by_cases hlt : j < N
      · have hget : r[j - 2]? = some (r[j - 2]'(by have := HN.out; omega)) := List.getElem?_eq_getElem _
        obtain ⟨x, hx⟩ : ∃ x, x = r[j - 2]'(by have := HN.out; omega) := ⟨_, rfl⟩
        rw [← hx] at hget
        have GET := Lib.hid hget
        have hmem : x ∈ c :: z :: r := List.mem_cons_of_mem _ (List.mem_cons_of_mem _ (List.mem_of_getElem? hget))
        have hgj : (c :: z :: r)[j]? = some x := by
          obtain ⟨q, rfl⟩ : ∃ q, j = q + 2 := ⟨j - 2, by omega⟩
          simpa using hget
        obtain ⟨b2, o2, e2, hbl, hcl⟩ := STR.out j x hgj
        injection e2 with e2
        injection e2 with e2 e3
        subst e2 e3
        have hxc : wr.cell? ⟨b, o + j, none⟩ = some (.string x) := (HR.out.below.cell (p := ⟨b, _, none⟩) hb).trans hcl
        have hbw : b < wr.heap.size := by omega
        have hxs := HSZ.out x hmem
        have hxn := HNL.out x hmem
        have HVE := Lib.hid (value_eq x)
        obtain ⟨⟨⟨uk, ut, uf, uto⟩, ub⟩, hu⟩ : ∃ u, u = valueQ x := ⟨_, rfl⟩
        have A6 := Lib.hid (fun w => show Calls Tryd.prog 87 #[.string x] w (fun e w' => e = .returned (.tuple #[.agg #[.int .i64 uk, .string ut, .int .i64 uf, .int .i64 uto], .bool ub]) ∧ Below w.heap.size w w') by
          have := rvalue_any x w hxs hxn; rw [← hu] at this; exact this)
        have HU := Lib.hid hu
        have HXS := Lib.hid (le_max hxs)
        clear hu hx hget hmem hgj hcl hbl hxs hxn
        by_cases hev : j = 2 ∧ strEq x ⟨#[61]⟩ = true
        · obtain ⟨rfl, hxe⟩ := hev
          have hxe' : (x.toList == [61]) = true := by rw [strEq] at hxe; simpa using hxe
          have hdn : done = [] ∧ ev = false := by
            rcases HI.out with ⟨_, h1, h2⟩ | ⟨h, _⟩
            · exact ⟨h2, h1⟩
            · omega
          obtain ⟨rfl, rfl⟩ := hdn
          have EV := Lib.hid HR.out.even
          have INV := Lib.hid (show LineInv r 3 true [] from LineInv.eq (x := x) (by have := GET.out; simpa using this) hxe)
          have BG4 := Lib.hid HR.out.b0
          have g3 := cell_of_blk BG4.out 3
          simp at g3
          have gf := free_of_blk BG4.out 3
          go_wp2
          go_roundw
          case rel => exact ⟨3, by omega, by omega, rfl, true, k, v, [], by omega, EV, INV⟩
          case measure => simp [intOf]; omega
        · have HN2 := Lib.hid (show j = 2 → strEq x ⟨#[61]⟩ = false from fun e => by
            cases h : strEq x ⟨#[61]⟩ with
            | false => rfl
            | true => exact absurd ⟨e, h⟩ hev)
          have hcase : (((j : Int) == 2) = true ∧ (x.toList == [61]) = false) ∨ ((j : Int) == 2) = false := by
            by_cases e : j = 2
            · left
              refine ⟨by rw [beq_iff_eq]; omega, ?_⟩
              have := HN2.out e; rw [strEq] at this; simpa using this
            · right; rw [beq_eq_false_iff_ne]; omega
          have HQ2 := Lib.hid (show (valueQ x).2 = ub by rw [← HU.out])
          have BRR := Lib.hid (blk_below HR.out.below B1.out)
          clear hev
          rcases hcase with ⟨hj1, hj3⟩ | hj1
          all_goals go_wp2_with fail
          all_goals (refine (A6.out _).mono ?_; rintro e w4 ⟨rfl, hb4⟩)
          all_goals
            have HB4 := Lib.hid hb4
            have BR4 := Lib.hid (blk_below hb4 BRR.out)
            have BG4 := Lib.hid (blk_below hb4 HR.out.b0)
            have hlt4 : w.heap.size < w4.heap.size := (Array.getElem?_eq_some_iff.1 BR4.out).1
            have hlt5 : w1.heap.size < w4.heap.size := (Array.getElem?_eq_some_iff.1 BG4.out).1
            have hb04 := Lib.hid (below_more b1.out (HR.out.below.trans (HB4.out.mono (Nat.le_of_lt hlt0))))
            clear hb4
            have q0 := cell_of_blk BR4.out 0
            have q1 := cell_of_blk BR4.out 1
            have q2 := cell_of_blk BR4.out 2
            have q3 := cell_of_blk BR4.out 3
            have q4 := cell_of_blk BR4.out 4
            simp at q0 q1 q2 q3 q4
            have f0 := free_of_blk BR4.out 0
            have f1 := free_of_blk BR4.out 1
            have f2 := free_of_blk BR4.out 2
            have f3 := free_of_blk BR4.out 3
            have f4 := free_of_blk BR4.out 4
            cases ub with
            | false =>
              have HF := Lib.hid (show signP s = (zeroSg, false) by
                rw [HSP.out]; exact signF_none (HI.out.bad GET.out HN2.out (by rw [← HVE.out.1, HQ2.out])))
              go_wp2_with fail
              refine bodyPost_ret (v := .tuple #[Sm.val ⟨zeroSg, none, 0⟩, .bool false]) (by simp [results, Tryd.results65, go_sem, q0, q1, q2, q3, q4, zeroSg, Sm.val, hlt4]) rfl ⟨⟨zeroSg, none, 0⟩, ret_sb rfl (by rw [HF.out]), by rw [HF.out], smok_zero _, fun _ _ h => (by cases h), ?_⟩
              exact Below.alloc (below_set5 hb04.out _ _ _ _ _) (by simp; omega) _
            | true =>
              have HVP := Lib.hid (show valueP x = (⟨uk, ut, uf, uto⟩, true) by rw [← HVE.out.2 HQ2.out, ← HU.out])
              have HTX := Lib.hid (show ut.size ≤ maxLen by
                have := value_text x; rw [HVP.out] at this; exact Nat.le_trans this HXS.out)
              have g4 := cell_of_blk BG4.out 4
              simp at g4
              clear q0 q1 q2 q3 q4 f0 f1 f2 f3 f4
              go_wp2_with (first
                | (at_builtin; refine wpList_append_src _ rfl (.tmp 72) (.tmp 74) 34 rfl (w1.heap.size + 1) 60 iv (.agg #[.int .i64 0, .string ⟨#[]⟩, .int .i64 0, .int .i64 0]) 4 40 Tryd.underlying34 hiv.out hzv.out hsv.out hbv.out rfl (by decide) v k (done.flatMap Va.cells) rfl ?own2 (some ⟨w4.heap.size + 1, 0, none⟩) 1 1 (Va.cells ⟨uk, ut, uf, uto⟩) rfl ?l2 ?n2 ?c2 ?o2 ?m2 ?b2 ?s2 (k + 1) rfl ?_))
              case own2 => exact ((ownsRow_of_block HR.out.own (fun g hg => HB4.out.block g (HR.out.own.lt g hg).2)).alloc _).alloc _
              case l2 => rfl
              case n2 => intro h; cases h
              case o2 => intro u hu; simp [Va.cells] at hu; rcases hu with rfl | rfl | rfl | rfl <;> rfl
              case c2 =>
                intro ad had j u' hj
                injection had with had
                subst had
                have := new_cells (w4.alloc (.cells #[.int .i64 uk, .string ut, .int .i64 uf, .int .i64 uto] 60)) (Va.cells ⟨uk, ut, uf, uto⟩) 60 j u' hj
                simpa [Va.cells] using this
              case m2 => unfold maxLen; omega
              case b2 => omega
              case s2 => simp; omega
              · intro A2 c2 w5 own2 hg2 hat
                have k3 : w5.heap[w1.heap.size]? = some (.cells #[.string c, .int .i64 p0, .int .i64 p1, .bool ev, v] 63 (0, 0)) := by
                  rw [hg2.block _ (by simp; omega) (fun e => by have := (HR.out.own.lt _ e.symm).1; omega), heap_alloc_other _ _ _ (by simp; omega), heap_alloc_other _ _ _ (by omega)]; exact BG4.out
                have p4 := cell_of_blk k3 4
                have pf := free_of_blk k3 4
                simp at p4
                have STEP := Lib.hid (LineRel.step (u := ⟨uk, ut, uf, uto⟩) HR.out HB4.out own2 hg2 HTX.out)
                have INV := Lib.hid (show LineInv r (j + 1) ev (done ++ [⟨uk, ut, uf, uto⟩]) from by
                  have := HI.out.val GET.out HN2.out (by rw [HVP.out])
                  rw [HVP.out] at this; exact this)
                clear own2 hg2 hat k3 g4
                go_wp2
                go_roundw
                case rel => exact ⟨j + 1, by omega, by omega, by go_num, ev, k + 1, .slice A2 (k + 1) c2, done ++ [⟨uk, ut, uf, uto⟩], by omega, STEP, INV⟩
                case measure => simp [intOf]; omega
      · obtain rfl : j = N := by omega
        have BRR := Lib.hid (blk_below HR.out.below B1.out)
        have BG4 := Lib.hid HR.out.b0
        have q0 := cell_of_blk BRR.out 0
        have q1 := cell_of_blk BRR.out 1
        have q2 := cell_of_blk BRR.out 2
        have q3 := cell_of_blk BRR.out 3
        have q4 := cell_of_blk BRR.out 4
        simp at q0 q1 q2 q3 q4
        have f0 := free_of_blk BRR.out 0
        have f1 := free_of_blk BRR.out 1
        have f2 := free_of_blk BRR.out 2
        have f3 := free_of_blk BRR.out 3
        have f4 := free_of_blk BRR.out 4
        have v0 := cell_of_blk BG4.out 0
        have v1 := cell_of_blk BG4.out 1
        have v2 := cell_of_blk BG4.out 2
        have v3 := cell_of_blk BG4.out 3
        have v4 := cell_of_blk BG4.out 4
        simp at v0 v1 v2 v3 v4
        have mm0 := free_of_blk BG4.out 0
        have mm1 := free_of_blk BG4.out 1
        have mm2 := free_of_blk BG4.out 2
        have mm3 := free_of_blk BG4.out 3
        have mm4 := free_of_blk BG4.out 4
        obtain ⟨Av, cv, hv, -, -, -, -⟩ := own_slice HR.out.own
        subst hv
        obtain ⟨hfin, hfe⟩ := HI.out.fin HN.out
        have HF := Lib.hid (show signP s = (⟨c, p0, p1, ev, done⟩, true) by
          have h2 := HPE.out.1
          rw [← HPB.out] at h2
          rw [HSP.out, signF_some HNB.out h2.symm hfin, ← HPP.out, hfe])
        clear hfin hfe
        have HOKS := Lib.hid (LineRel.ok HR.out (le_max hcs))
        have HLEN := Lib.hid HR.out.len
        have hwr := Lib.hid (below_more b1.out HR.out.below)
        go_wp2_with fail
        refine bodyPost_ret (v := .tuple #[Sm.val ⟨⟨c, p0, p1, ev, done⟩, Av, cv⟩, .bool true]) (by simp [results, Tryd.results65, go_sem, q0, q1, q2, q3, q4, Sm.val, HLEN.out]) rfl ⟨⟨⟨c, p0, p1, ev, done⟩, Av, cv⟩, ret_sb rfl (by rw [HF.out]), by rw [HF.out], ?_, fun b o e => ⟨by have := (HOKS.out.2 b o e).1; omega, by simp; exact (HOKS.out.2 b o e).2⟩, ?_⟩
        · exact smok_of_blocks HOKS.out.1 (by simp) (fun b o e _ => by
            have := (HOKS.out.2 b o e).1
            rw [heap_setCell_other _ _ _ _ (by dsimp only; omega), heap_setCell_other _ _ _ _ (by dsimp only; omega), heap_setCell_other _ _ _ _ (by dsimp only; omega), heap_setCell_other _ _ _ _ (by dsimp only; omega), heap_setCell_other _ _ _ _ (by dsimp only; omega)])
        · exact below_set5 hwr.out _ _ _ _ _

end Go.Proofs.YthnhpgmohhaeaaaDoor

/- A list's text as its lines: what both readings make of them. -/
namespace Go.Proofs.YthnhpgmohhaeaaaDoor
open Go.RowKit

def consL (s : Sg) : List Sg ⊕ Int → List Sg ⊕ Int
  | .inl ss => .inl (s :: ss)
  | .inr b => .inr b
/-- the lines behind the first one, the last piece among them -/
def linesL : List ByteArray → Int → List Sg ⊕ Int
  | [], _ => .inl []
  | [x], n => if (bytes x).isEmpty then .inl [] else .inr n
  | x :: y :: r, n => if (signP x).2 then consL (signP x).1 (linesL (y :: r) (n + 1)) else .inr n
def headR (x : ByteArray) : Int × Bool :=
  match splB x 32 with
  | [a, b] => if strEq a ⟨#[112, 101, 114, 105, 111, 100, 115]⟩ then numP b else (0, false)
  | _ => (0, false)
def allL : List ByteArray → Li × Int
  | x :: y :: r => if (headR x).2 then (match linesL (y :: r) 2 with
    | .inl ss => (⟨(headR x).1, ss⟩, 0)
    | .inr b => (⟨0, []⟩, b)) else (⟨0, []⟩, 1)
  | _ => (⟨0, []⟩, 1)
theorem splB_one {t : ByteArray} {c : UInt8} (h : c ∉ bytes t) : splB t c = [t] := by
  unfold splB; rw [spl_none c _ h]; simp [str_bytes]
theorem splB_cons {t : ByteArray} {c : UInt8} {a r : List UInt8} (h : c ∉ a) (e : bytes t = a ++ c :: r) : splB t c = str a :: splB (str r) c := by
  unfold splB; rw [e, spl_hit c a r h, bytes_str]; rfl
theorem linesP_L : ∀ (f : Nat) (t : ByteArray) (n : Int), t.size < f → linesP f t n = linesL (splB t 10) n
  | 0, t, n, h => by omega
  | f + 1, t, n, h => by
    rw [linesP]
    by_cases he : (bytes t).isEmpty = true
    · rw [if_pos he]
      have : (10 : UInt8) ∉ bytes t := by rw [List.isEmpty_iff] at he; rw [he]; simp
      rw [splB_one this, linesL, if_pos he]
    · rw [if_neg he]
      rcases spl_cases 10 (bytes t) with g | ⟨a, r, g1, g2⟩
      · rw [cutB_none g, splB_one g, linesL, if_neg he]; rfl
      · rw [cutB_hit g1 g2, splB_cons g1 g2]
        dsimp only
        have hr : (str r).size < f := by
          have h1 : (str r).size = r.length := by rw [← bytes_length, bytes_str]
          have h2 : t.size = a.length + (r.length + 1) := by rw [← bytes_length, g2, List.length_append, List.length_cons]
          omega
        rw [linesP_L f (str r) (n + 1) hr]
        obtain ⟨y, q, hq⟩ : ∃ y q, splB (str r) 10 = y :: q := by
          cases hh : splB (str r) 10 with
          | nil => exact absurd hh (splB_ne _ _)
          | cons y q => exact ⟨y, q, rfl⟩
        rw [hq, linesL]
        by_cases hs : (signP (str a)).2 = true
        · rw [hs]
          simp only [Bool.and_self, if_true]
          cases linesL (y :: q) (n + 1) <;> rfl
        · have hs : (signP (str a)).2 = false := by simpa using hs
          rw [hs]; rfl
theorem prefix_split (P a r : List UInt8) (c : UInt8) (hP : c ∉ P) (ha : c ∉ a) : (P ++ [c]).isPrefixOf (a ++ c :: r) = true ↔ a = P := by
  induction P generalizing a with
  | nil =>
    cases a with
    | nil => simp [List.isPrefixOf]
    | cons x a =>
      have hx : c ≠ x := fun e => ha (by rw [e]; exact List.mem_cons_self)
      simp [List.isPrefixOf, hx]
  | cons p P ih =>
    have hp : p ≠ c := fun e => hP (by rw [e]; exact List.mem_cons_self)
    have hP' : c ∉ P := fun e => hP (List.mem_cons_of_mem _ e)
    cases a with
    | nil => simp [List.isPrefixOf, hp]
    | cons x a =>
      have ha' : c ∉ a := fun e => ha (List.mem_cons_of_mem _ e)
      have := ih a hP' ha'
      simp only [List.cons_append, List.isPrefixOf, Bool.and_eq_true, beq_iff_eq, this, List.cons.injEq]
      constructor
      · rintro ⟨rfl, rfl⟩; exact ⟨rfl, rfl⟩
      · rintro ⟨rfl, rfl⟩; exact ⟨rfl, rfl⟩
theorem prefix_mem (P l : List UInt8) (c : UInt8) (h : (P ++ [c]).isPrefixOf l = true) : c ∈ l := by
  induction P generalizing l with
  | nil =>
    cases l with
    | nil => simp [List.isPrefixOf] at h
    | cons x l => simp [List.isPrefixOf] at h; rw [h]; exact List.mem_cons_self
  | cons p P ih =>
    cases l with
    | nil => simp [List.isPrefixOf] at h
    | cons x l =>
      simp only [List.cons_append, List.isPrefixOf, Bool.and_eq_true] at h
      exact List.mem_cons_of_mem _ (ih l h.2)
theorem num_zero {s : ByteArray} (h : (numP s).2 = false) : numP s = (0, false) := by
  have := num_false h
  exact Prod.ext this h
theorem head_eq (x : ByteArray) : headP x = headR x := by
  have hP : (32 : UInt8) ∉ ([112, 101, 114, 105, 111, 100, 115] : List UInt8) := by decide
  unfold headP
  rcases spl_cases 32 (bytes x) with g | ⟨a, r, g1, g2⟩
  · have h1 : Lib.hasPrefix x.data.toList [112, 101, 114, 105, 111, 100, 115, 32] = false := by
      cases h : Lib.hasPrefix x.data.toList [112, 101, 114, 105, 111, 100, 115, 32] with
      | false => rfl
      | true => exact absurd (prefix_mem [112, 101, 114, 105, 111, 100, 115] _ 32 h) g
    rw [h1]
    unfold headR
    rw [splB_one g]; rfl
  · have hx : x.data.toList = a ++ 32 :: r := g2
    have hpre := prefix_split [112, 101, 114, 105, 111, 100, 115] a r 32 hP g1
    have hs : splB x 32 = str a :: splB (str r) 32 := splB_cons g1 g2
    have hae : strEq (str a) ⟨#[112, 101, 114, 105, 111, 100, 115]⟩ = decide (a = [112, 101, 114, 105, 111, 100, 115]) := by
      rw [Bool.eq_iff_iff, strEq_iff, beq_iff_eq, decide_eq_true_eq, show (str a).data.toList = a from bytes_str a]
    by_cases ha : a = [112, 101, 114, 105, 111, 100, 115]
    · have h1 : Lib.hasPrefix x.data.toList [112, 101, 114, 105, 111, 100, 115, 32] = true := by rw [hx]; exact hpre.2 ha
      have h2 : Lib.trimPrefix x.data.toList [112, 101, 114, 105, 111, 100, 115, 32] = r := by
        unfold Lib.trimPrefix
        rw [h1, if_pos rfl, hx, ha]; rfl
      rw [h1, if_pos rfl, h2]
      unfold headR
      rw [hs]
      rcases spl_cases 32 r with f | ⟨b, q, f1, f2⟩
      · rw [splB_one (by rw [bytes_str]; exact f)]
        dsimp only
        rw [hae, decide_eq_true ha, if_pos rfl]; rfl
      · rw [splB_cons f1 (by rw [bytes_str, f2])]
        have hn : (numP (str r)).2 = false := by
          cases hh : (numP (str r)).2 with
          | false => rfl
          | true =>
            have := num_free (c := 32) hh (by decide)
            rw [bytes_str, f2] at this
            exact absurd (by simp) this
        show numP (str r) = _
        rw [num_zero hn]
        cases hq : splB (str q) 32 with
        | nil => exact absurd hq (splB_ne _ _)
        | cons => rfl
    · have h1 : Lib.hasPrefix x.data.toList [112, 101, 114, 105, 111, 100, 115, 32] = false := by
        cases h : Lib.hasPrefix x.data.toList [112, 101, 114, 105, 111, 100, 115, 32] with
        | false => rfl
        | true => rw [hx] at h; exact absurd (hpre.1 h) ha
      rw [h1]
      unfold headR
      rw [hs]
      cases hq : splB (str r) 32 with
      | nil => exact absurd hq (splB_ne _ _)
      | cons y q =>
        cases q with
        | nil => dsimp only; rw [hae, decide_eq_false ha]; rfl
        | cons => rfl
theorem allP_L (t : ByteArray) : allP t = allL (splB t 10) := by
  unfold allP
  rcases spl_cases 10 (bytes t) with g | ⟨a, r, g1, g2⟩
  · rw [cutB_none g, splB_one g]; rfl
  · rw [cutB_hit g1 g2, splB_cons g1 g2]
    dsimp only
    have hr : (str r).size < t.size + 1 := by
      have h1 : (str r).size = r.length := by rw [← bytes_length, bytes_str]
      have h2 : t.size = a.length + (r.length + 1) := by rw [← bytes_length, g2, List.length_append, List.length_cons]
      omega
    rw [linesP_L _ (str r) 2 hr, head_eq]
    obtain ⟨y, q, hq⟩ : ∃ y q, splB (str r) 10 = y :: q := by
      cases hh : splB (str r) 10 with
      | nil => exact absurd hh (splB_ne _ _)
      | cons y q => exact ⟨y, q, rfl⟩
    rw [hq, allL, Bool.true_and]
    rfl
theorem goOn_cons (cs : List Sg) (s : Sg) (x : List Sg ⊕ Int) : goOn cs (consL s x) = goOn (cs ++ [s]) x := by
  cases x <;> simp [goOn, consL]

def ofSum (per : Int) : List Sg ⊕ Int → Li × Int
  | .inl ss => (⟨per, ss⟩, 0)
  | .inr b => (⟨0, []⟩, b)
theorem allL_cons (x y : ByteArray) (r : List ByteArray) : allL (x :: y :: r) = if (headR x).2 then ofSum (headR x).1 (linesL (y :: r) 2) else (⟨0, []⟩, 1) := by
  unfold allL
  dsimp only
  cases linesL (y :: r) 2 <;> rfl
/-- what holds before line i -/
def LsInv (ls : List ByteArray) (i : Nat) (per : Int) (done : List Sg) : Prop :=
  (i = 0 ∧ per = 0 ∧ done = []) ∨ (1 ≤ i ∧ allL ls = ofSum per (goOn done (linesL (ls.drop i) ((i : Int) + 1))))
theorem LsInv.head_bad {ls : List ByteArray} {x y : ByteArray} {r : List ByteArray} (h : ls.drop 0 = x :: y :: r) (hb : (headR x).2 = false) : allL ls = (⟨0, []⟩, 1) := by
  rw [List.drop_zero] at h
  rw [h, allL_cons, hb]; rfl
theorem LsInv.head_ok {ls : List ByteArray} {x y : ByteArray} {r : List ByteArray} (h : ls.drop 0 = x :: y :: r) (hb : (headR x).2 = true) : LsInv ls 1 (headR x).1 [] := by
  rw [List.drop_zero] at h
  refine .inr ⟨Nat.le_refl _, ?_⟩
  rw [h, allL_cons, hb, if_pos rfl, sum_inj]; rfl
theorem LsInv.bad {ls : List ByteArray} {i : Nat} {per : Int} {done : List Sg} {x y : ByteArray} {r : List ByteArray} (hi : LsInv ls i per done) (h1 : 1 ≤ i) (h : ls.drop i = x :: y :: r) (hb : (signP x).2 = false) : allL ls = (⟨0, []⟩, (i : Int) + 1) := by
  rcases hi with ⟨h0, _⟩ | ⟨_, ha⟩
  · omega
  · rw [ha, h, linesL, hb]; rfl
theorem LsInv.ok {ls : List ByteArray} {i : Nat} {per : Int} {done : List Sg} {x y : ByteArray} {r : List ByteArray} (hi : LsInv ls i per done) (h1 : 1 ≤ i) (h : ls.drop i = x :: y :: r) (hb : (signP x).2 = true) : LsInv ls (i + 1) per (done ++ [(signP x).1]) := by
  rcases hi with ⟨h0, _⟩ | ⟨_, ha⟩
  · omega
  · refine .inr ⟨by omega, ?_⟩
    have h2 : ls.drop (i + 1) = y :: r := by
      rw [← List.drop_drop, h]; rfl
    rw [ha, h, linesL, hb, if_pos rfl, goOn_cons, h2]
    congr 2
theorem LsInv.last {ls : List ByteArray} {i : Nat} {per : Int} {done : List Sg} {x : ByteArray} (hi : LsInv ls i per done) (h : ls.drop i = [x]) (hb : (bytes x).isEmpty = false) : allL ls = (⟨0, []⟩, (i : Int) + 1) := by
  rcases hi with ⟨rfl, _⟩ | ⟨_, ha⟩
  · rw [List.drop_zero] at h; rw [h]; rfl
  · rw [ha, h, linesL, hb]; rfl
theorem LsInv.fin {ls : List ByteArray} {i : Nat} {per : Int} {done : List Sg} {x : ByteArray} (hi : LsInv ls i per done) (h1 : 1 ≤ i) (h : ls.drop i = [x]) (hb : (bytes x).isEmpty = true) : allL ls = (⟨per, done⟩, 0) := by
  rcases hi with ⟨h0, _⟩ | ⟨_, ha⟩
  · omega
  · rw [ha, h, linesL, hb, if_pos rfl]; simp [goOn, ofSum]

/-- lines that were made -/
def GotLn (w : World) (L : List ByteArray) (b : Bool) (e : Ending) (w' : World) : Prop :=
  ∃ A cap, e = .returned (.tuple #[.slice A L.length cap, .bool b]) ∧ StrsAt w' A L ∧ L.length ≤ cap ∧ cap ≤ maxLen ∧ Below w.heap.size w w'
theorem StrsAt.pre {w : World} {A : Option Addr} {L M : List ByteArray} (h : StrsAt w A (L ++ M)) : StrsAt w A L := fun k s hk => h k s (by
  rw [List.getElem?_append_left (List.getElem?_eq_some_iff.1 hk).1]; exact hk)

set_option maxHeartbeats 800000 in
theorem rlines_any (t : ByteArray) (L : List ByteArray) (z : ByteArray) (h : splB t 10 = L ++ [z]) (w : World) (hs : t.size ≤ 100000) :
    Calls Tryd.prog 62 #[.string t] w (GotLn w (if z.size = 0 then L else L ++ [z]) (decide (z.size = 0))) := by
  have HS := Lib.hid (fun w => show Calls Tryd.prog 63 #[.string t, .int .u8 10] w (GotStrs w (L ++ [z])) by rw [← h]; exact rsplit_any t 10 w hs)
  have hlen := splB_len t 10
  rw [h, List.length_append] at hlen
  have hl1 : (L ++ [z]).length = L.length + 1 := by simp
  obtain ⟨n, hn⟩ : ∃ n, n = L.length := ⟨_, rfl⟩
  rw [← hn] at hl1 hlen
  have hn1 : n ≤ 100000 := by simp at hlen; omega
  have HL1 := Lib.hid hl1
  have HN := Lib.hid hn
  clear h hlen hl1 hn
  by_cases hz : z.size = 0
  · have he0 : z.toList = [] := by rw [ByteArray.toList_eq]; exact List.eq_nil_of_length_eq_zero (by rw [Array.length_toList]; exact hz)
    have he1 : z.toList.isEmpty = true := by rw [he0]; rfl
    rw [if_pos hz, decide_eq_true hz]
    clear hz
    go_enter Tryd.func62, Tryd.ntmps62
    go_wp2_with fail
    refine (HS.out _).mono ?_; rintro e w1 ⟨A, cap, rfl, hst, hle, hcap, hb1⟩
    rw [HL1.out] at hle ⊢
    obtain ⟨b, o, rfl, hb, hc⟩ := hst n z (by rw [HN.out]; simp)
    have HF := Lib.hid (show GotLn w L true (.returned (.tuple #[.slice (some ⟨b, o, none⟩) n cap, .bool true])) w1 from ⟨_, _, by rw [HN.out], hst.pre, by rw [← HN.out]; omega, hcap, hb1⟩)
    unfold maxLen at hcap
    clear hst hb1
    go_wp2
    go_ret2
    exact HF.out
  · have he1 : z.toList.isEmpty = false := by
      rw [ByteArray.toList_eq, List.isEmpty_eq_false_iff]; intro e
      have := congrArg List.length e; rw [Array.length_toList] at this; exact hz this
    have he0 : (z.toList == []) = false := by
      rw [beq_eq_false_iff_ne]; intro e; rw [e] at he1; cases he1
    rw [if_neg hz, decide_eq_false hz]
    clear hz
    go_enter Tryd.func62, Tryd.ntmps62
    go_wp2_with fail
    refine (HS.out _).mono ?_; rintro e w1 ⟨A, cap, rfl, hst, hle, hcap, hb1⟩
    rw [HL1.out] at hle ⊢
    obtain ⟨b, o, rfl, hb, hc⟩ := hst n z (by rw [HN.out]; simp)
    have HF := Lib.hid (show GotLn w (L ++ [z]) false (.returned (.tuple #[.slice (some ⟨b, o, none⟩) (n + 1) cap, .bool false])) w1 from ⟨_, _, by rw [HL1.out], hst, by rw [HL1.out]; exact hle, hcap, hb1⟩)
    unfold maxLen at hcap
    clear hst hb1
    go_wp2
    go_ret2
    exact HF.out

end Go.Proofs.YthnhpgmohhaeaaaDoor

/- Contract of the specification's Parse. -/
namespace Go.Proofs.YthnhpgmohhaeaaaDoor
open Go.RowKit

structure LnOk (ls L : List ByteArray) (ended : Bool) : Prop where
  mid : ∀ (i : Nat) (x : ByteArray), L[i]? = some x → (i + 1 < L.length ∨ ended = true) → ∃ y q, ls.drop i = x :: y :: q
  last : ∀ (i : Nat) (x : ByteArray), L[i]? = some x → i + 1 = L.length → ended = false → ls.drop i = [x] ∧ (bytes x).isEmpty = false
  fin : ended = true → ∃ z, ls.drop L.length = [z] ∧ (bytes z).isEmpty = true
  sub : ∀ x ∈ L, x ∈ ls
  pos : ended = false → 1 ≤ L.length
theorem empty_iff (z : ByteArray) : (bytes z).isEmpty = decide (z.size = 0) := by
  rw [← bytes_length]
  cases bytes z <;> simp
theorem drop_get {ls : List ByteArray} {i : Nat} {x : ByteArray} (h : ls[i]? = some x) : ls.drop i = x :: ls.drop (i + 1) := by
  obtain ⟨hk, rfl⟩ := List.getElem?_eq_some_iff.1 h
  exact List.drop_eq_getElem_cons hk
theorem drop_more {ls : List ByteArray} {i : Nat} {x : ByteArray} (h : ls[i]? = some x) (h1 : i + 1 < ls.length) : ∃ y q, ls.drop i = x :: y :: q := by
  rw [drop_get h, List.drop_eq_getElem_cons h1]; exact ⟨_, _, rfl⟩
theorem lnOk_ended (L : List ByteArray) (z : ByteArray) (hz : z.size = 0) : LnOk (L ++ [z]) L true where
  mid := fun i x hx _ => by
    have hi := (List.getElem?_eq_some_iff.1 hx).1
    exact drop_more (by rw [List.getElem?_append_left hi]; exact hx) (by simp; omega)
  last := fun _ _ _ _ h => by cases h
  fin := fun _ => ⟨z, by simp, by rw [empty_iff, decide_eq_true hz]⟩
  sub := fun x hx => List.mem_append_left _ hx
  pos := fun h => by cases h
theorem lnOk_open (L : List ByteArray) (z : ByteArray) (hz : z.size ≠ 0) : LnOk (L ++ [z]) (L ++ [z]) false where
  mid := fun i x hx h => by
    rcases h with h | h
    · exact drop_more hx h
    · cases h
  last := fun i x hx h _ => by
    have h1 : i = L.length := by simp at h; omega
    subst h1
    have hxz : x = z := by simpa using hx.symm
    subst hxz
    exact ⟨by simp, by rw [empty_iff, decide_eq_false hz]⟩
  fin := fun h => by cases h
  sub := fun x hx => hx
  pos := fun _ => by simp
theorem LinesRel.per {w1 wr w2 : World} (h : LinesRel w1 wr 0 0 (.slice none 0 0) []) (hb : Below wr.heap.size wr w2) (per : Int) : LinesRel w1 (w2.setCell ⟨w1.heap.size, 0, none⟩ (.int .i64 per)) per 0 (.slice none 0 0) [] := by
  have hlt := (Array.getElem?_eq_some_iff.1 h.b0).1
  refine ⟨(h.below.trans (hb.mono (Nat.le_of_lt hlt))).setCell (Nat.le_refl _) _, ?_, World.ownsRow_nil _ _ _ _, rfl, fun m hm => (by cases hm), fun m hm => (by cases hm)⟩
  rw [heap_setCell_same _ _ _ _ _ _ (blk_keep hb h.b0)]; rfl
theorem headR_len {x : ByteArray} {R : List ByteArray} (h : splB x 32 = R) (hl : R.length ≠ 2) : (headR x).2 = false := by
  unfold headR
  rw [h]
  match R, hl with
  | [], _ => rfl
  | [_], _ => rfl
  | [_, _], h => exact absurd rfl h
  | _ :: _ :: _ :: _, _ => rfl
theorem headR_two {x a b : ByteArray} (h : splB x 32 = [a, b]) : headR x = if strEq a ⟨#[112, 101, 114, 105, 111, 100, 115]⟩ then numP b else (0, false) := by
  unfold headR; rw [h]

set_option maxHeartbeats 6400000 in
set_option maxRecDepth 100000 in
theorem rparse_any (t : ByteArray) (w : World) (hs : t.size ≤ 100000) : Calls Tryd.prog 35 #[.string t] w (GotParse w (parseP t)) := by
  have hB0 := Lib.hid (heap_alloc_new w (.cells #[.int .i64 0, .slice none 0 0] 24))
  have hb0 := Lib.hid (below_alloc w (.cells #[.int .i64 0, .slice none 0 0] 24))
  by_cases h1 : t.size ≤ 65536
  case neg =>
    have HF := Lib.hid (show parseP t = (⟨0, []⟩, 0, 2) by unfold parseP; rw [if_pos (by omega)])
    have q0 := cell_of_blk hB0.out 0
    have q1 := cell_of_blk hB0.out 1
    simp at q0 q1
    go_enter Tryd.func35, Tryd.ntmps35
    go_wp2_with fail
    refine bodyPost_ret (v := .tuple #[Lm.val zeroLm, .int .i64 0, .int .i64 2]) (by simp [results, Tryd.results35, go_sem, q0, q1, zeroLm, Lm.val]) rfl ⟨zeroLm, ret_p rfl (by rw [HF.out]) (by rw [HF.out]), lmok_zero _, by rw [HF.out]; rfl, ?_⟩
    first | exact hb0.out | exact below_set2 hb0.out _ _
  obtain ⟨L0, z, hLz⟩ : ∃ L z, splB t 10 = L ++ [z] := by
    rcases snoc_cases (splB t 10) with h | h
    · exact absurd h (splB_ne _ _)
    · exact h
  obtain ⟨ls, hls⟩ : ∃ ls, ls = splB t 10 := ⟨_, rfl⟩
  obtain ⟨LL, ended, HOK, HLN⟩ : ∃ LL ended, Hid (LnOk ls LL ended) ∧ Hid (∀ w, Calls Tryd.prog 62 #[.string t] w (GotLn w LL ended)) := by
    by_cases hz : z.size = 0
    · refine ⟨L0, true, Lib.hid (by rw [hls, hLz]; exact lnOk_ended L0 z hz), Lib.hid fun w => ?_⟩
      have := rlines_any t L0 z hLz w hs
      rw [if_pos hz, decide_eq_true hz] at this; exact this
    · refine ⟨L0 ++ [z], false, Lib.hid (by rw [hls, hLz]; exact lnOk_open L0 z hz), Lib.hid fun w => ?_⟩
      have := rlines_any t L0 z hLz w hs
      rw [if_neg hz, decide_eq_false hz] at this; exact this
  have HERR := Lib.hid (show ∀ ln : Int, allL ls = (⟨0, []⟩, ln) → 0 < ln → parseP t = (⟨0, []⟩, ln, 4) from fun ln h h0 => by
    unfold parseP; rw [if_neg (by omega), allP_L, ← hls, h, if_pos h0])
  have HFIN := Lib.hid (show ∀ (per : Int) (done : List Sg), allL ls = (⟨per, done⟩, 0) → parseP t = if checkErr ⟨per, done⟩ ≠ 0 then (⟨0, []⟩, 0, checkErr ⟨per, done⟩) else (⟨per, done⟩, 0, 0) from fun per done h => by
    unfold parseP; rw [if_neg (by omega), allP_L, ← hls, h, if_neg (Int.lt_irrefl 0)])
  have HSZ := Lib.hid (fun x (h : x ∈ LL) => show x.size ≤ 100000 from Nat.le_trans (splB_size (s := t) (c := 10) (by rw [← hls]; exact HOK.out.sub x h)) hs)
  have HNL := Lib.hid (fun x (h : x ∈ LL) => show (10 : UInt8) ∉ bytes x from splB_free (s := t) (c := 10) (by rw [← hls]; exact HOK.out.sub x h))
  obtain ⟨n, hn⟩ : ∃ n, n = LL.length := ⟨_, rfl⟩
  have hn1 : n ≤ 100001 := by
    have h2 := splB_len t 10
    rw [hLz, List.length_append] at h2
    have h3 : LL.length ≤ (L0 ++ [z]).length := by
      cases he : ended with
      | true =>
        obtain ⟨z', hz', _⟩ := HOK.out.fin he
        have := congrArg List.length hz'
        rw [List.length_drop, hls, hLz] at this; simp at this ⊢; omega
      | false =>
        have hp := HOK.out.pos he
        have hx : LL[LL.length - 1]? = some LL[LL.length - 1] := List.getElem?_eq_getElem (by omega)
        have := congrArg List.length (HOK.out.last (LL.length - 1) _ hx (by omega) he).1
        rw [List.length_drop, hls, hLz] at this; simp at this ⊢; omega
    rw [List.length_append] at h3
    simp at h2 h3; omega
  have HN := Lib.hid hn
  have HPOS := Lib.hid HOK.out.pos
  rw [← hn] at HPOS
  clear hLz hls hn
  go_enter Tryd.func35, Tryd.ntmps35
  go_wp2_with fail
  refine (HLN.out _).mono ?_; rintro e w1 ⟨A, cap, rfl, hst, hle, hcap, hb1⟩
  rw [← HN.out] at hle ⊢
  have STR := Lib.hid hst
  have b1 := Lib.hid (below_more hb0.out hb1)
  have B1 := Lib.hid (blk_below hb1 hB0.out)
  unfold maxLen at hcap
  have hw1 : w.heap.size < w1.heap.size := (Array.getElem?_eq_some_iff.1 B1.out).1
  clear hb1 hst HLN
  have q0 := cell_of_blk B1.out 0
  have q1 := cell_of_blk B1.out 1
  simp at q0 q1
  have f0 := free_of_blk B1.out 0
  have f1 := free_of_blk B1.out 1
  by_cases hn0 : n = 0
  · have hend : ended = true := by
      cases he : ended with
      | true => rfl
      | false => have := HPOS.out he; omega
    have HF := Lib.hid (show parseP t = (⟨0, []⟩, 1, 4) by
      obtain ⟨z', hz', hz2⟩ := HOK.out.fin hend
      rw [← HN.out, hn0, List.drop_zero] at hz'
      exact HERR.out 1 (by rw [hz']; rfl) (by decide))
    have hn0' : ((n : Int) == 0) = true := by rw [beq_iff_eq]; omega
    clear hn0
    go_wp2_with fail
    refine bodyPost_ret (v := .tuple #[Lm.val zeroLm, .int .i64 1, .int .i64 4]) (by simp [results, Tryd.results35, go_sem, q0, q1, zeroLm, Lm.val]) rfl ⟨zeroLm, ret_p rfl (by rw [HF.out]) (by rw [HF.out]), lmok_zero _, by rw [HF.out]; rfl, ?_⟩
    first | exact below_set2 b1.out _ _ | exact b1.out
  have hn0' : ((n : Int) == 0) = false := by rw [beq_eq_false_iff_ne]; omega
  have hnp : 1 ≤ n := by omega
  obtain ⟨is, his, hzs, hss, hbs⟩ := info_hid infoSg
  clear q0 q1 f0 f1 hn0
  go_wp2
  have REL0 := Lib.hid (show LinesRel w1 (w1.alloc (.cells #[.int .i64 0, .slice none 0 0] 24)) 0 0 (.slice none 0 0) [] from
    ⟨below_alloc _ _, heap_alloc_new _ _, World.ownsRow_nil _ _ _ _, rfl, fun m hm => (by cases hm), fun m hm => (by cases hm)⟩)
  generalize w1.alloc (.cells #[.int .i64 0, .slice none 0 0] 24) = w2 at REL0 ⊢
  go_loopw [8] (fun i wr => ∃ j : Nat, j ≤ n ∧ i = .int .i64 j ∧ ∃ (per : Int) (k : Nat) (v : Value) (cs : List Sm), k ≤ j ∧ Hid (j = 0 → per = 0 ∧ k = 0 ∧ v = .slice none 0 0 ∧ cs = []) ∧ Hid (LinesRel w1 wr per k v cs) ∧ Hid (LsInv ls j per (cs.map (·.s))) ∧ Hid (ended = false → j < n)) (fun i _ => n - (intOf i).toNat)
  case atStart => exact ⟨0, Nat.zero_le _, rfl, 0, 0, .slice none 0 0, [], Nat.le_refl _, Lib.hid (fun _ => ⟨rfl, rfl, rfl, rfl⟩), REL0, Lib.hid (.inl ⟨rfl, rfl, rfl⟩), Lib.hid (fun _ => by omega)⟩
  case round =>
    obtain ⟨j, hjn, rfl, per, k, v, cs, hkj, HZ, HR, HI, HEN⟩ := hrel
    have hlt0 : w1.heap.size < wr.heap.size := (Array.getElem?_eq_some_iff.1 HR.out.b0).1
    have BRR := Lib.hid (blk_below HR.out.below B1.out)
    have hbr := Lib.hid (below_more b1.out HR.out.below)
    by_cases hlt : j < n
    · have hget : LL[j]? = some (LL[j]'(by have := HN.out; omega)) := List.getElem?_eq_getElem _
      obtain ⟨x, hx⟩ : ∃ x, x = LL[j]'(by have := HN.out; omega) := ⟨_, rfl⟩
      rw [← hx] at hget
      have GET := Lib.hid hget
      have hxm := List.mem_of_getElem? hget
      have hxs := HSZ.out x hxm
      have HXN := Lib.hid (HNL.out x hxm)
      obtain ⟨b, o, rfl, hb, hc⟩ := STR.out j x hget
      have hxc : wr.cell? ⟨b, o + j, none⟩ = some (.string x) := (HR.out.below.cell (p := ⟨b, _, none⟩) hb).trans hc
      have hbw : b < wr.heap.size := by omega
      clear hx hget hxm hc
      by_cases hbad : j + 1 = n ∧ ended = false
      · obtain ⟨hj1, rfl⟩ := hbad
        have hlast := HOK.out.last j x GET.out (by rw [← HN.out]; exact hj1) rfl
        have HF := Lib.hid (HERR.out _ (HI.out.last hlast.1 hlast.2) (by omega))
        have hg : ((j : Int) == (n : Int) - 1) = true := by rw [beq_iff_eq]; omega
        clear hj1 hlast
        have q0 := cell_of_blk BRR.out 0
        have q1 := cell_of_blk BRR.out 1
        simp at q0 q1
        have f0 := free_of_blk BRR.out 0
        have f1 := free_of_blk BRR.out 1
        go_wp2_with fail
        refine bodyPost_ret (v := .tuple #[Lm.val zeroLm, .int .i64 ((j : Int) + 1), .int .i64 4]) (by simp [results, Tryd.results35, go_sem, q0, q1, zeroLm, Lm.val]) rfl ⟨zeroLm, ret_p rfl (by rw [HF.out]) (by rw [HF.out]), lmok_zero _, by rw [HF.out]; rfl, ?_⟩
        exact below_set2 hbr.out _ _
      · have hmid : ∃ y q, ls.drop j = x :: y :: q := HOK.out.mid j x GET.out (by
          rw [← HN.out]
          cases he : ended with
          | true => exact .inr rfl
          | false => left; rcases Nat.lt_or_ge (j + 1) n with h | h; exact h; exact absurd ⟨by omega, he⟩ hbad)
        obtain ⟨y, q, hyq⟩ := hmid
        have HYQ := Lib.hid hyq
        have hcase : (ended = true ∧ ((j : Int) == (n : Int) - 1) = true) ∨ (ended = true ∧ ((j : Int) == (n : Int) - 1) = false) ∨ (ended = false ∧ ((j : Int) == (n : Int) - 1) = false) := by
          cases he : ended with
          | true =>
            by_cases e : j + 1 = n
            · exact .inl ⟨rfl, by rw [beq_iff_eq]; omega⟩
            · exact .inr (.inl ⟨rfl, by rw [beq_eq_false_iff_ne]; omega⟩)
          | false => exact .inr (.inr ⟨rfl, by rw [beq_eq_false_iff_ne]; intro e; exact hbad ⟨by omega, he⟩⟩)
        have HEN1 := Lib.hid (show ended = false → j + 1 < n from fun he => by
          rcases Nat.lt_or_ge (j + 1) n with h | h
          · exact h
          · exact absurd ⟨by omega, he⟩ hbad)
        clear hyq hbad
        by_cases hj0 : j = 0
        · obtain ⟨rfl, rfl, rfl, rfl⟩ := HZ.out hj0
          have HJ0 := Lib.hid hj0
          have hjb : ((j : Int) == 0) = true := by rw [beq_iff_eq]; omega
          have hx0 : wr.cell? ⟨b, o, none⟩ = some (.string x) := by rw [hj0, Nat.add_zero] at hxc; exact hxc
          have HYQ0 := Lib.hid (show ls.drop 0 = x :: y :: q by rw [← hj0]; exact HYQ.out)
          clear hj0 hxc
          obtain ⟨R, hR⟩ : ∃ R, splB x 32 = R := ⟨_, rfl⟩
          have A1 := Lib.hid (fun w => show Calls Tryd.prog 63 #[.string x, .int .u8 32] w (GotStrs w R) by rw [← hR]; exact rsplit_any x 32 w hxs)
          have HBAD := Lib.hid (fun h => HERR.out 1 (LsInv.head_bad HYQ0.out h) (by decide))
          have HGOOD := Lib.hid (fun h => LsInv.head_ok HYQ0.out h)
          have HRS := Lib.hid (fun y (h : y ∈ R) => show y.size ≤ maxLen from le_max (Nat.le_trans (splB_size (s := x) (c := 32) (by rw [hR]; exact h)) hxs))
          by_cases hl : R.length = 2
          case neg =>
            have HF := Lib.hid (HBAD.out (headR_len hR hl))
            obtain ⟨m, hm⟩ : ∃ m, m = R.length := ⟨_, rfl⟩
            have hne : ((m : Int) == 2) = false := by rw [beq_eq_false_iff_ne]; omega
            have hne2 : ((m : Int) != 2) = true := by unfold bne; rw [hne]; rfl
            have HMM := Lib.hid hm
            clear hl hm hR
            rcases hcase with ⟨rfl, hg⟩ | ⟨rfl, hg⟩ | ⟨rfl, hg⟩
            all_goals go_wp2_with fail
            all_goals (refine (A1.out _).mono ?_; rintro e w3 ⟨A', cap', rfl, hst', hle', hcap', hb3⟩)
            all_goals
              rw [← HMM.out] at hle' ⊢
              have BR3 := Lib.hid (blk_below hb3 BRR.out)
              have hbr3 := Lib.hid (below_more hbr.out hb3)
              unfold maxLen at hcap'
              clear hst' hb3
              have q0 := cell_of_blk BR3.out 0
              have q1 := cell_of_blk BR3.out 1
              simp at q0 q1
              have f0 := free_of_blk BR3.out 0
              have f1 := free_of_blk BR3.out 1
              go_wp2_with fail
              refine bodyPost_ret (v := .tuple #[Lm.val zeroLm, .int .i64 1, .int .i64 4]) (by simp [results, Tryd.results35, go_sem, q0, q1, zeroLm, Lm.val]) rfl ⟨zeroLm, ret_p rfl (by rw [HF.out]) (by rw [HF.out]), lmok_zero _, by rw [HF.out]; rfl, ?_⟩
              exact below_set2 hbr3.out _ _
          obtain ⟨a, b2, rfl⟩ := list_two hl
          have HH := Lib.hid (headR_two hR)
          have A3 := Lib.hid (fun w => rnum_is b2 w (HRS.out b2 (by simp)) (numP b2) rfl)
          obtain ⟨eq, heq⟩ : ∃ e, (a.toList == [112, 101, 114, 105, 111, 100, 115]) = e := ⟨_, rfl⟩
          have HEQ := Lib.hid (show strEq a ⟨#[112, 101, 114, 105, 111, 100, 115]⟩ = eq by
            rw [← heq, strEq, ByteArray.toList_eq ⟨#[112, 101, 114, 105, 111, 100, 115]⟩])
          clear hl hR
          rcases hcase with ⟨rfl, hg⟩ | ⟨rfl, hg⟩ | ⟨rfl, hg⟩
          all_goals go_wp2_with fail
          all_goals (refine (A1.out _).mono ?_; rintro e w3 ⟨A', cap', rfl, hst', hle', hcap', hb3⟩)
          all_goals
            obtain ⟨b4, o4, rfl, hb4, hd0, hd1⟩ := strs_two hst'
            have BR3 := Lib.hid (blk_below hb3 BRR.out)
            have hbr3 := Lib.hid (below_more hbr.out hb3)
            have H3 := Lib.hid hb3
            have BG3 := Lib.hid (blk_below hb3 HR.out.b0)
            unfold maxLen at hcap'
            clear hst' hb3
            simp only [List.length_cons, List.length_nil, Nat.zero_add, Nat.reduceAdd] at hle' ⊢
            have q0 := cell_of_blk BR3.out 0
            have q1 := cell_of_blk BR3.out 1
            simp at q0 q1
            have f0 := free_of_blk BR3.out 0
            have f1 := free_of_blk BR3.out 1
            have g0 := cell_of_blk BG3.out 0
            simp at g0
            have gf := free_of_blk BG3.out 0
            have hgl : w1.heap.size < w3.heap.size := (Array.getElem?_eq_some_iff.1 BG3.out).1
            cases eq with
            | false =>
              have HF := Lib.hid (HBAD.out (by rw [HH.out, HEQ.out]; rfl))
              go_wp2_with fail
              refine bodyPost_ret (v := .tuple #[Lm.val zeroLm, .int .i64 1, .int .i64 4]) (by simp [results, Tryd.results35, go_sem, q0, q1, zeroLm, Lm.val]) rfl ⟨zeroLm, ret_p rfl (by rw [HF.out]) (by rw [HF.out]), lmok_zero _, by rw [HF.out]; rfl, ?_⟩
              exact below_set2 hbr3.out _ _
            | true =>
              go_wp2_with fail
              refine (A3.out _).mono ?_; rintro e w' ⟨rfl, rfl⟩
              obtain ⟨⟨nv, nb⟩, hnv⟩ : ∃ p, p = numP b2 := ⟨_, rfl⟩
              have HNV := Lib.hid hnv
              rw [← hnv]
              clear hnv
              dsimp only
              cases nb with
              | false =>
                have HF := Lib.hid (HBAD.out (by rw [HH.out, HEQ.out, if_pos rfl, ← HNV.out]))
                go_wp2_with fail
                refine bodyPost_ret (v := .tuple #[Lm.val zeroLm, .int .i64 1, .int .i64 4]) (by simp [results, Tryd.results35, go_sem, q0, q1, zeroLm, Lm.val]) rfl ⟨zeroLm, ret_p rfl (by rw [HF.out]) (by rw [HF.out]), lmok_zero _, by rw [HF.out]; rfl, ?_⟩
                exact below_set2 hbr3.out _ _
              | true =>
                have STEP := Lib.hid (HR.out.per H3.out nv)
                have INV := Lib.hid (show LsInv ls (j + 1) nv (([] : List Sm).map (·.s)) from by
                  have h5 := HGOOD.out (by rw [HH.out, HEQ.out, if_pos rfl, ← HNV.out])
                  rw [HH.out, HEQ.out, if_pos rfl, ← HNV.out] at h5
                  rw [HJ0.out]; exact h5)
                clear q0 q1 f0 f1
                go_wp2
                go_roundw
                case rel => exact ⟨j + 1, by omega, by go_num, nv, 0, .slice none 0 0, [], by omega, Lib.hid (fun h => absurd h (by omega)), STEP, INV, HEN1⟩
                case measure => simp [intOf]; omega
        · have hjb : ((j : Int) == 0) = false := by rw [beq_eq_false_iff_ne]; omega
          have hj1 : 1 ≤ j := by omega
          obtain ⟨⟨sg, sb⟩, hsg⟩ : ∃ p, p = signP x := ⟨_, rfl⟩
          have A2 := Lib.hid (fun w => show Calls Tryd.prog 65 #[.string x] w (GotSign w (sg, sb)) by rw [hsg]; exact rline_any x w hxs HXN.out)
          have HBAD := Lib.hid (fun (h : (signP x).2 = false) => HERR.out _ (HI.out.bad hj1 HYQ.out h) (by omega))
          have HGOOD := Lib.hid (fun (h : (signP x).2 = true) => HI.out.ok hj1 HYQ.out h)
          have HSG := Lib.hid hsg
          clear hsg hj0
          rcases hcase with ⟨rfl, hg⟩ | ⟨rfl, hg⟩ | ⟨rfl, hg⟩
          · go_wp2_with fail
            refine (A2.out _).mono ?_; rintro e w3 ⟨⟨⟨mc, mw, mh, me, mv⟩, mA, mcap⟩, rfl, hms, hmok, hmA, hb3⟩
            have BR3 := Lib.hid (blk_below hb3 BRR.out)
            have hbr3 := Lib.hid (below_more hbr.out hb3)
            have HB3 := Lib.hid hb3
            have HMS := Lib.hid hms
            have HMOK := Lib.hid hmok
            have HMA := Lib.hid hmA
            have BG3 := Lib.hid (blk_below hb3 HR.out.b0)
            have hlt3 : w.heap.size < w3.heap.size := (Array.getElem?_eq_some_iff.1 BR3.out).1
            have hlt4 : w1.heap.size < w3.heap.size := (Array.getElem?_eq_some_iff.1 BG3.out).1
            have hne3 : w.heap.size ≠ w3.heap.size := by omega
            clear hb3 hms hmok hmA hxc
            unfold Sm.val
            dsimp only
            have q0 := cell_of_blk BR3.out 0
            have q1 := cell_of_blk BR3.out 1
            simp at q0 q1
            have f0 := free_of_blk BR3.out 0
            have f1 := free_of_blk BR3.out 1
            cases sb with
            | false =>
              have HF := Lib.hid (HBAD.out (by rw [← HSG.out]))
              go_wp2_with fail
              refine bodyPost_ret (v := .tuple #[Lm.val zeroLm, .int .i64 ((j : Int) + 1), .int .i64 4]) (by simp [results, Tryd.results35, go_sem, q0, q1, zeroLm, Lm.val, hlt3]) rfl ⟨zeroLm, ret_p rfl (by rw [HF.out]) (by rw [HF.out]), lmok_zero _, by rw [HF.out]; rfl, ?_⟩
              exact Below.alloc (below_set2 hbr3.out _ _) (by simp; omega) _
            | true =>
              have g1 := cell_of_blk BG3.out 1
              simp at g1
              clear q0 q1 f0 f1
              go_wp2_with (first
                | (at_builtin; refine wpList_append_src _ rfl (.tmp 89) (.tmp 91) 22 rfl (w1.heap.size + 1) 63 is (.agg #[.string ⟨#[]⟩, .int .i64 0, .int .i64 0, .bool false, .slice none 0 0]) 5 64 Tryd.underlying22 his.out hzs.out hss.out hbs.out rfl (by decide) v k (cs.flatMap Sm.cells) rfl ?own2a (some ⟨w3.heap.size + 1, 0, none⟩) 1 1 (Sm.cells ⟨⟨mc, mw, mh, me, mv⟩, mA, mcap⟩) rfl ?l2a ?n2a ?c2a sm_one ?m2a ?b2a ?s2a (k + 1) rfl ?_))
              case own2a => exact (((ownsRow_of_block HR.out.own (fun g hg => HB3.out.block g (HR.out.own.lt g hg).2)).alloc _).alloc _)
              case l2a => rfl
              case c2a =>
                first
                  | (intro j u' hj; exact hj)
                  | (intro ad had j u' hj
                     injection had with had
                     subst had
                     have := new_cells (w3.alloc (.cells #[.string mc, .int .i64 mw, .int .i64 mh, .bool me, .slice mA mv.length mcap] 63)) (Sm.cells ⟨⟨mc, mw, mh, me, mv⟩, mA, mcap⟩) 63 j u' hj
                     simpa [Sm.cells] using this)
              case m2a => unfold maxLen; omega
              case b2a => omega
              case s2a => first | omega | (simp; omega)
              · intro A2' c2' w4 own2 hg2 hat
                have k3 : w4.heap[w1.heap.size]? = some (.cells #[.int .i64 per, v] 24 (0, 0)) := by
                  rw [hg2.block _ (by simp; omega) (fun e => by have := (HR.out.own.lt _ e.symm).1; omega), heap_alloc_other _ _ _ (by simp; omega), heap_alloc_other _ _ _ (by omega)]; exact BG3.out
                have p1 := cell_of_blk k3 1
                have pf := free_of_blk k3 1
                simp at p1
                have STEP := Lib.hid (LinesRel.step HR.out HB3.out HMOK.out HMA.out own2 hg2 (by simpa using hat))
                have INV := Lib.hid (show LsInv ls (j + 1) per ((cs ++ [(⟨⟨mc, mw, mh, me, mv⟩, mA, mcap⟩ : Sm)]).map (·.s)) from by
                  have h5 := HGOOD.out (by rw [← HSG.out])
                  rw [List.map_append]
                  have h6 : (signP x).1 = (⟨mc, mw, mh, me, mv⟩ : Sg) := by rw [← HSG.out]; exact HMS.out.symm
                  rw [h6] at h5; exact h5)
                clear own2 hg2 hat k3 g1
                go_wp2
                go_roundw
                case rel => exact ⟨j + 1, by omega, by go_num, per, k + 1, .slice A2' (k + 1) c2', cs ++ [⟨⟨mc, mw, mh, me, mv⟩, mA, mcap⟩], by omega, Lib.hid (fun h => absurd h (by omega)), STEP, INV, HEN1⟩
                case measure => simp [intOf]; omega
          · go_wp2_with fail
            refine (A2.out _).mono ?_; rintro e w3 ⟨⟨⟨mc, mw, mh, me, mv⟩, mA, mcap⟩, rfl, hms, hmok, hmA, hb3⟩
            have BR3 := Lib.hid (blk_below hb3 BRR.out)
            have hbr3 := Lib.hid (below_more hbr.out hb3)
            have HB3 := Lib.hid hb3
            have HMS := Lib.hid hms
            have HMOK := Lib.hid hmok
            have HMA := Lib.hid hmA
            have BG3 := Lib.hid (blk_below hb3 HR.out.b0)
            have hlt3 : w.heap.size < w3.heap.size := (Array.getElem?_eq_some_iff.1 BR3.out).1
            have hlt4 : w1.heap.size < w3.heap.size := (Array.getElem?_eq_some_iff.1 BG3.out).1
            have hne3 : w.heap.size ≠ w3.heap.size := by omega
            clear hb3 hms hmok hmA hxc
            unfold Sm.val
            dsimp only
            have q0 := cell_of_blk BR3.out 0
            have q1 := cell_of_blk BR3.out 1
            simp at q0 q1
            have f0 := free_of_blk BR3.out 0
            have f1 := free_of_blk BR3.out 1
            cases sb with
            | false =>
              have HF := Lib.hid (HBAD.out (by rw [← HSG.out]))
              go_wp2_with fail
              refine bodyPost_ret (v := .tuple #[Lm.val zeroLm, .int .i64 ((j : Int) + 1), .int .i64 4]) (by simp [results, Tryd.results35, go_sem, q0, q1, zeroLm, Lm.val, hlt3]) rfl ⟨zeroLm, ret_p rfl (by rw [HF.out]) (by rw [HF.out]), lmok_zero _, by rw [HF.out]; rfl, ?_⟩
              exact Below.alloc (below_set2 hbr3.out _ _) (by simp; omega) _
            | true =>
              have g1 := cell_of_blk BG3.out 1
              simp at g1
              clear q0 q1 f0 f1
              go_wp2_with (first
                | (at_builtin; refine wpList_append_src _ rfl (.tmp 89) (.tmp 91) 22 rfl (w1.heap.size + 1) 63 is (.agg #[.string ⟨#[]⟩, .int .i64 0, .int .i64 0, .bool false, .slice none 0 0]) 5 64 Tryd.underlying22 his.out hzs.out hss.out hbs.out rfl (by decide) v k (cs.flatMap Sm.cells) rfl ?own2b (some ⟨w3.heap.size + 1, 0, none⟩) 1 1 (Sm.cells ⟨⟨mc, mw, mh, me, mv⟩, mA, mcap⟩) rfl ?l2b ?n2b ?c2b sm_one ?m2b ?b2b ?s2b (k + 1) rfl ?_))
              case own2b => exact (((ownsRow_of_block HR.out.own (fun g hg => HB3.out.block g (HR.out.own.lt g hg).2)).alloc _).alloc _)
              case l2b => rfl
              case c2b =>
                first
                  | (intro j u' hj; exact hj)
                  | (intro ad had j u' hj
                     injection had with had
                     subst had
                     have := new_cells (w3.alloc (.cells #[.string mc, .int .i64 mw, .int .i64 mh, .bool me, .slice mA mv.length mcap] 63)) (Sm.cells ⟨⟨mc, mw, mh, me, mv⟩, mA, mcap⟩) 63 j u' hj
                     simpa [Sm.cells] using this)
              case m2b => unfold maxLen; omega
              case b2b => omega
              case s2b => first | omega | (simp; omega)
              · intro A2' c2' w4 own2 hg2 hat
                have k3 : w4.heap[w1.heap.size]? = some (.cells #[.int .i64 per, v] 24 (0, 0)) := by
                  rw [hg2.block _ (by simp; omega) (fun e => by have := (HR.out.own.lt _ e.symm).1; omega), heap_alloc_other _ _ _ (by simp; omega), heap_alloc_other _ _ _ (by omega)]; exact BG3.out
                have p1 := cell_of_blk k3 1
                have pf := free_of_blk k3 1
                simp at p1
                have STEP := Lib.hid (LinesRel.step HR.out HB3.out HMOK.out HMA.out own2 hg2 (by simpa using hat))
                have INV := Lib.hid (show LsInv ls (j + 1) per ((cs ++ [(⟨⟨mc, mw, mh, me, mv⟩, mA, mcap⟩ : Sm)]).map (·.s)) from by
                  have h5 := HGOOD.out (by rw [← HSG.out])
                  rw [List.map_append]
                  have h6 : (signP x).1 = (⟨mc, mw, mh, me, mv⟩ : Sg) := by rw [← HSG.out]; exact HMS.out.symm
                  rw [h6] at h5; exact h5)
                clear own2 hg2 hat k3 g1
                go_wp2
                go_roundw
                case rel => exact ⟨j + 1, by omega, by go_num, per, k + 1, .slice A2' (k + 1) c2', cs ++ [⟨⟨mc, mw, mh, me, mv⟩, mA, mcap⟩], by omega, Lib.hid (fun h => absurd h (by omega)), STEP, INV, HEN1⟩
                case measure => simp [intOf]; omega
          · go_wp2_with fail
            refine (A2.out _).mono ?_; rintro e w3 ⟨⟨⟨mc, mw, mh, me, mv⟩, mA, mcap⟩, rfl, hms, hmok, hmA, hb3⟩
            have BR3 := Lib.hid (blk_below hb3 BRR.out)
            have hbr3 := Lib.hid (below_more hbr.out hb3)
            have HB3 := Lib.hid hb3
            have HMS := Lib.hid hms
            have HMOK := Lib.hid hmok
            have HMA := Lib.hid hmA
            have BG3 := Lib.hid (blk_below hb3 HR.out.b0)
            have hlt3 : w.heap.size < w3.heap.size := (Array.getElem?_eq_some_iff.1 BR3.out).1
            have hlt4 : w1.heap.size < w3.heap.size := (Array.getElem?_eq_some_iff.1 BG3.out).1
            have hne3 : w.heap.size ≠ w3.heap.size := by omega
            clear hb3 hms hmok hmA hxc
            unfold Sm.val
            dsimp only
            have q0 := cell_of_blk BR3.out 0
            have q1 := cell_of_blk BR3.out 1
            simp at q0 q1
            have f0 := free_of_blk BR3.out 0
            have f1 := free_of_blk BR3.out 1
            cases sb with
            | false =>
              have HF := Lib.hid (HBAD.out (by rw [← HSG.out]))
              go_wp2_with fail
              refine bodyPost_ret (v := .tuple #[Lm.val zeroLm, .int .i64 ((j : Int) + 1), .int .i64 4]) (by simp [results, Tryd.results35, go_sem, q0, q1, zeroLm, Lm.val, hlt3]) rfl ⟨zeroLm, ret_p rfl (by rw [HF.out]) (by rw [HF.out]), lmok_zero _, by rw [HF.out]; rfl, ?_⟩
              exact Below.alloc (below_set2 hbr3.out _ _) (by simp; omega) _
            | true =>
              have g1 := cell_of_blk BG3.out 1
              simp at g1
              clear q0 q1 f0 f1
              go_wp2_with (first
                | (at_builtin; refine wpList_append_src _ rfl (.tmp 89) (.tmp 91) 22 rfl (w1.heap.size + 1) 63 is (.agg #[.string ⟨#[]⟩, .int .i64 0, .int .i64 0, .bool false, .slice none 0 0]) 5 64 Tryd.underlying22 his.out hzs.out hss.out hbs.out rfl (by decide) v k (cs.flatMap Sm.cells) rfl ?own2c (some ⟨w3.heap.size + 1, 0, none⟩) 1 1 (Sm.cells ⟨⟨mc, mw, mh, me, mv⟩, mA, mcap⟩) rfl ?l2c ?n2c ?c2c sm_one ?m2c ?b2c ?s2c (k + 1) rfl ?_))
              case own2c => exact (((ownsRow_of_block HR.out.own (fun g hg => HB3.out.block g (HR.out.own.lt g hg).2)).alloc _).alloc _)
              case l2c => rfl
              case c2c =>
                first
                  | (intro j u' hj; exact hj)
                  | (intro ad had j u' hj
                     injection had with had
                     subst had
                     have := new_cells (w3.alloc (.cells #[.string mc, .int .i64 mw, .int .i64 mh, .bool me, .slice mA mv.length mcap] 63)) (Sm.cells ⟨⟨mc, mw, mh, me, mv⟩, mA, mcap⟩) 63 j u' hj
                     simpa [Sm.cells] using this)
              case m2c => unfold maxLen; omega
              case b2c => omega
              case s2c => first | omega | (simp; omega)
              · intro A2' c2' w4 own2 hg2 hat
                have k3 : w4.heap[w1.heap.size]? = some (.cells #[.int .i64 per, v] 24 (0, 0)) := by
                  rw [hg2.block _ (by simp; omega) (fun e => by have := (HR.out.own.lt _ e.symm).1; omega), heap_alloc_other _ _ _ (by simp; omega), heap_alloc_other _ _ _ (by omega)]; exact BG3.out
                have p1 := cell_of_blk k3 1
                have pf := free_of_blk k3 1
                simp at p1
                have STEP := Lib.hid (LinesRel.step HR.out HB3.out HMOK.out HMA.out own2 hg2 (by simpa using hat))
                have INV := Lib.hid (show LsInv ls (j + 1) per ((cs ++ [(⟨⟨mc, mw, mh, me, mv⟩, mA, mcap⟩ : Sm)]).map (·.s)) from by
                  have h5 := HGOOD.out (by rw [← HSG.out])
                  rw [List.map_append]
                  have h6 : (signP x).1 = (⟨mc, mw, mh, me, mv⟩ : Sg) := by rw [← HSG.out]; exact HMS.out.symm
                  rw [h6] at h5; exact h5)
                clear own2 hg2 hat k3 g1
                go_wp2
                go_roundw
                case rel => exact ⟨j + 1, by omega, by go_num, per, k + 1, .slice A2' (k + 1) c2', cs ++ [⟨⟨mc, mw, mh, me, mv⟩, mA, mcap⟩], by omega, Lib.hid (fun h => absurd h (by omega)), STEP, INV, HEN1⟩
                case measure => simp [intOf]; omega
    · obtain rfl : j = n := by omega
      have hend : ended = true := by
        cases he : ended with
        | true => rfl
        | false => exact absurd (HEN.out he) (Nat.lt_irrefl _)
      subst hend
      obtain ⟨z', hz', hz2⟩ := HOK.out.fin rfl
      rw [← HN.out] at hz'
      have HPF := Lib.hid (HFIN.out per (cs.map (·.s)) (HI.out.fin hnp hz' hz2))
      clear hz' hz2
      obtain ⟨Av, cv, hv, -, -, -, -⟩ := own_slice HR.out.own
      subst hv
      have HLM := Lib.hid (LinesRel.done HR.out rfl (fun _ _ => rfl))
      have HFR := Lib.hid (LinesRel.fresh HR.out)
      have HLEN := Lib.hid HR.out.len
      have BG := Lib.hid HR.out.b0
      have g0 := cell_of_blk BG.out 0
      have g1 := cell_of_blk BG.out 1
      simp at g0 g1
      obtain ⟨E, hE⟩ : ∃ E, E = checkErr ⟨per, cs.map (·.s)⟩ := ⟨_, rfl⟩
      rw [← hE] at HPF
      have HCK := Lib.hid (show Calls Tryd.prog 18 #[.agg #[.int .i64 per, .slice Av k cv]] wr (fun e w' => e = .returned (.int .i64 E) ∧ Below wr.heap.size wr w') by
        have := rcheck_any ⟨per, cs, Av, cv⟩ wr HLM.out
        rw [show checkErr (⟨per, cs, Av, cv⟩ : Lm).li = E from hE.symm] at this
        unfold Lm.val at this
        dsimp only at this
        rw [HLEN.out] at this; exact this)
      clear hE
      go_wp2_with fail
      refine (HCK.out).mono ?_; rintro e w3 ⟨rfl, hb3⟩
      have BR3 := Lib.hid (blk_below hb3 BRR.out)
      have BG3 := Lib.hid (blk_below hb3 BG.out)
      have hbr3 := Lib.hid (below_more hbr.out hb3)
      have HLM3 := Lib.hid (HLM.out.below hb3)
      clear hb3 g0 g1
      have q0 := cell_of_blk BR3.out 0
      have q1 := cell_of_blk BR3.out 1
      simp at q0 q1
      have f0 := free_of_blk BR3.out 0
      have f1 := free_of_blk BR3.out 1
      have g0 := cell_of_blk BG3.out 0
      have g1 := cell_of_blk BG3.out 1
      simp at g0 g1
      by_cases h0 : E = 0
      · subst h0
        have HF := Lib.hid (show parseP t = (⟨per, cs.map (·.s)⟩, 0, 0) by rw [HPF.out]; rfl)
        go_wp2_with fail
        refine bodyPost_ret (v := .tuple #[Lm.val ⟨per, cs, Av, cv⟩, .int .i64 0, .int .i64 0]) (by simp [results, Tryd.results35, go_sem, q0, q1, Lm.val, HLEN.out]) rfl ⟨⟨per, cs, Av, cv⟩, ret_p rfl (by rw [HF.out]) (by rw [HF.out]), ?_, by rw [HF.out]; rfl, below_set2 hbr3.out _ _⟩
        exact lmok_set HLM3.out HFR.out hw1 (by simp) (fun b hb => by
          rw [heap_setCell_other _ _ _ _ hb, heap_setCell_other _ _ _ _ hb])
      · have HF := Lib.hid (show parseP t = (⟨0, []⟩, 0, E) by rw [HPF.out, if_pos h0])
        have hbE : (E != 0) = true := by simpa using h0
        clear h0
        go_wp2_with fail
        refine bodyPost_ret (v := .tuple #[Lm.val zeroLm, .int .i64 0, .int .i64 E]) (by simp [results, Tryd.results35, go_sem, q0, q1, zeroLm, Lm.val]) rfl ⟨zeroLm, ret_p rfl (by rw [HF.out]) (by rw [HF.out]), lmok_zero _, by rw [HF.out]; rfl, ?_⟩
        exact below_set2 hbr3.out _ _

end Go.Proofs.YthnhpgmohhaeaaaDoor

/- Contract of the law of Parse: it returns true. -/
namespace Go.Proofs.YthnhpgmohhaeaaaDoor
open Go.RowKit

theorem checkErr_vals {l : Li} (h : checkErr l = 0) : ∀ s ∈ l.signs, s.vals.length ≤ 12 := fun s hs => by
  obtain ⟨k, hk⟩ := List.getElem?_of_mem hs
  have := signsErr_ok l.per l.signs [] (signs_ok2 h) k s hk
  unfold signErr at this
  split at this
  · cases this
  · split at this
    · cases this
    · omega
theorem parseP_bds (t : ByteArray) : (parseP t).1.signs.length ≤ 200 ∧ ∀ s ∈ (parseP t).1.signs, s.vals.length ≤ 12 := by
  have hz : (([] : List Sg)).length ≤ 200 ∧ ∀ s ∈ ([] : List Sg), s.vals.length ≤ 12 := ⟨by simp, fun s h => by cases h⟩
  unfold parseP
  split
  · exact hz
  · split
    · exact hz
    · split
      · exact hz
      · rename_i h
        have h : checkErr (allP t).1 = 0 := by simpa using h
        exact ⟨signs_le h, checkErr_vals h⟩
theorem lm_bds {M : Lm} {t : ByteArray} (h : M.li = (parseP t).1) : M.ms.length ≤ 1000000 ∧ ∀ m ∈ M.ms, m.s.vals.length ≤ 1000000 := by
  have hb := parseP_bds t
  rw [← h] at hb
  have h1 : M.ms.length ≤ 200 := by have := hb.1; rwa [show M.li.signs = M.signs from rfl, Lm.length_signs] at this
  refine ⟨by omega, fun m hm => ?_⟩
  have := hb.2 m.s (List.mem_map.2 ⟨m, hm, rfl⟩)
  omega

set_option maxHeartbeats 1600000 in
set_option maxRecDepth 100000 in
theorem law_parses (t : ByteArray) (w : World) (hE : Env w) (ht : t.size ≤ maxLen) :
    Calls Tryd.prog 9 #[.string t] w fun e w' => e = .returned (.bool true) ∧ Below w.heap.size w w' := by
  unfold maxLen at ht
  have HE := Lib.hid hE
  have HWK := Lib.hid (fun w1 (hb : Below w.heap.size w w1) => works_any w1 (hE.below hb))
  by_cases h1 : t.size ≤ 20000
  case neg =>
    clear hE
    go_enter Tryd.func9, Tryd.ntmps9
    go_wp2_with fail
    refine (HWK.out _ (Below.refl _ _)).mono ?_; rintro e w2 ⟨rfl, hb2⟩
    go_wp2
    go_ret
    exact ⟨rfl, hb2⟩
  have HP := Lib.hid (parse_any t w hE (by omega))
  have HR := Lib.hid (fun w => rparse_any t w (by omega))
  have HBD := Lib.hid (fun (M : Lm) (h : M.li = (parseP t).1) => lm_bds h)
  obtain ⟨⟨qi, qm, qe⟩, hq⟩ : ∃ q, q = parseP t := ⟨_, rfl⟩
  rw [← hq] at HP HR HBD
  clear hE hq
  go_enter Tryd.func9, Tryd.ntmps9
  go_wp2_with fail
  refine (HP.out).mono ?_; rintro e w1 ⟨⟨mp, ms, mA, mc⟩, rfl, hok1, hli1, hb1⟩
  unfold Lm.val
  dsimp only at hli1 ⊢
  have B1 := Lib.hid hb1
  have BA := Lib.hid (below_more hb1 (below_alloc w1 (.cells #[.int .i64 mp, .slice mA ms.length mc] 24)))
  have C1 := Lib.hid (heap_alloc_new w1 (.cells #[.int .i64 mp, .slice mA ms.length mc] 24))
  have OK1 := Lib.hid (hok1.below (below_alloc w1 (.cells #[.int .i64 mp, .slice mA ms.length mc] 24)))
  have LI1 := Lib.hid hli1
  clear hb1 hok1 hli1 HP
  go_wp2_with fail
  refine (HR.out _).mono ?_; rintro e w3 ⟨⟨np, ns, nA, nc⟩, rfl, hok2, hli2, hb2⟩
  unfold Lm.val
  dsimp only at hli2 ⊢
  have BB := Lib.hid (below_more BA.out (below_more hb2 (below_alloc w3 (.cells #[.int .i64 np, .slice nA ns.length nc] 24))))
  have D1 := Lib.hid (blk_keep (below_more hb2 (below_alloc w3 (.cells #[.int .i64 np, .slice nA ns.length nc] 24))) C1.out)
  have D2 := Lib.hid (heap_alloc_new w3 (.cells #[.int .i64 np, .slice nA ns.length nc] 24))
  have OKA := Lib.hid (OK1.out.below (below_more hb2 (below_alloc w3 (.cells #[.int .i64 np, .slice nA ns.length nc] 24))))
  have OKB := Lib.hid (hok2.below (below_alloc w3 (.cells #[.int .i64 np, .slice nA ns.length nc] 24)))
  have LI2 := Lib.hid hli2
  have hz : w1.heap.size < w3.heap.size := by have := hb2.size; simp at this; omega
  clear hb2 hok2 hli2 HR
  have x0 := cell_of_blk D1.out 0
  have x1 := cell_of_blk D1.out 1
  simp at x0 x1
  have HS := Lib.hid (fun wx (h1 : LmOk wx ⟨mp, ms, mA, mc⟩) (h2 : LmOk wx ⟨np, ns, nA, nc⟩) => show Calls Tryd.prog 19 #[.agg #[.int .i64 mp, .slice mA ms.length mc], .agg #[.int .i64 np, .slice nA ns.length nc]] wx (fun e w' => e = .returned (.bool true) ∧ Below wx.heap.size wx w') by
    have b1 := HBD.out _ LI1.out
    have b2 := HBD.out _ LI2.out
    have := rsame_any ⟨mp, ms, mA, mc⟩ ⟨np, ns, nA, nc⟩ wx h1 h2 b2.2 b1.2 b2.1 b1.1
    rw [LI1.out, LI2.out, liEq_refl] at this
    exact this)
  go_wp2_with fail
  refine (HS.out _ OKA.out OKB.out).mono ?_; rintro e w4 ⟨rfl, hb4⟩
  have B4 := Lib.hid (below_more BB.out hb4)
  clear hb4 x0 x1
  go_wp2_with fail
  refine (HWK.out _ B4.out).mono ?_; rintro e w5 ⟨rfl, hb5⟩
  go_wp2
  go_ret
  exact ⟨rfl, below_more B4.out hb5⟩

end Go.Proofs.YthnhpgmohhaeaaaDoor
