/-
  The closure that gives scribes to the copies, one after the other (layer 9).
-/
import Derived.Test.YtcpfhaoecggflaaZHnP
import Derived.IntWalk
import Derived.RangeFuncBox
import Derived.Deep.DeepCutAuto
namespace Go.Proofs.Ytcpfhaoecggflaa
open Go.RowKit

def natsV (l : List Nat) : List Value := l.map fun c => .int .i64 (c : Nat)
/-- the boxes that the closure knows, and the scribes so far -/
structure Gv (base bh bn bm ba bg : Nat) (ap : Nat → Nat → Bool) (n most : Nat) (w : World) (hs : List Nat) (v : Value) : Prop where
  eh : w.heap[bh]? = some (.cells #[v] 22 (0, 0))
  en : w.heap[bn]? = some (.cells #[.int .i64 n] 3 (0, 0))
  em : w.heap[bm]? = some (.cells #[.int .i64 most] 3 (0, 0))
  ea : ∃ cs, w.heap[ba]? = some (.cells cs 122 (0, 0)) ∧ ∀ i k, i < k → k < n → cs[i * 8 + k]? = some (.bool (ap i k))
  eg : w.heap[bg]? = some (.cells #[.func (.func 119) #[] #[.pointer (some ⟨bh, 0, none⟩), .pointer (some ⟨bn, 0, none⟩), .pointer (some ⟨bm, 0, none⟩), .pointer (some ⟨ba, 0, none⟩), .pointer (some ⟨bg, 0, none⟩)]] 145 (0, 0))
  own : w.ownsRow base 3 1 v hs.length (natsV hs)
  sz : base ≤ w.heap.size
structure HKeeps (bf : Nat) (v : Value) (w : World) (v' : Value) (w' : World) : Prop where
  os : w'.os = w.os
  tape : w'.tape = w.tape
  output : w'.output = w.output
  size : w.heap.size ≤ w'.heap.size
  block : ∀ k, k < w.heap.size → k ≠ bf → v.ownBlock ≠ some k → w'.heap[k]? = w.heap[k]?
  row : v'.ownBlock = v.ownBlock ∨ ∃ g, v'.ownBlock = some g ∧ w.heap.size ≤ g
theorem HKeeps.refl (bf : Nat) (v : Value) (w : World) : HKeeps bf v w v w := ⟨rfl, rfl, rfl, Nat.le_refl _, fun _ _ _ _ => rfl, .inl rfl⟩
theorem HKeeps.trans {bf : Nat} {v v1 v2 : Value} {w w1 w2 : World} (h : HKeeps bf v w v1 w1) (k : HKeeps bf v1 w1 v2 w2) : HKeeps bf v w v2 w2 where
  os := k.os.trans h.os
  tape := k.tape.trans h.tape
  output := k.output.trans h.output
  size := Nat.le_trans h.size k.size
  block := fun j hj h1 h2 => by
    have hs := h.size
    rw [k.block j (by omega) h1 (fun e => ?_), h.block j hj h1 h2]
    rcases h.row with hr | ⟨g, hr, hg⟩
    · rw [hr] at e; exact h2 e
    · rw [hr] at e; injection e with e; omega
  row := by
    have hs := h.size
    rcases k.row with hr | ⟨g, hr, hg⟩
    · rw [hr]; exact h.row
    · exact .inr ⟨g, hr, by omega⟩
/-- where the boxes lie -/
structure Bxs (base bh bn bm ba bg : Nat) : Prop where
  h : bh < base
  n : bn < base
  m : bm < base
  a : ba < base
  g : bg < base
  hn : bn ≠ bh
  hm : bm ≠ bh
  ha : ba ≠ bh
  hg : bg ≠ bh
section
variable {base bh bn bm ba bg : Nat} {ap : Nat → Nat → Bool} {n most : Nat}
theorem Gv.own_ge {w : World} {hs : List Nat} {v : Value} (h : Gv base bh bn bm ba bg ap n most w hs v) : ∀ g, v.ownBlock = some g → base ≤ g ∧ g < w.heap.size := fun g e => h.own.lt g e
/-- other scribes in the box -/
theorem Gv.other {w w1 : World} {hs hs' : List Nat} {v v' : Value} (h : Gv base bh bn bm ba bg ap n most w hs v) (b : Bxs base bh bn bm ba bg) (hk : ∀ k, k < base → k ≠ bh → w1.heap[k]? = w.heap[k]?) (hh : w1.heap[bh]? = some (.cells #[v'] 22 (0, 0)))
    (hown : w1.ownsRow base 3 1 v' hs'.length (natsV hs')) (hs : base ≤ w1.heap.size) : Gv base bh bn bm ba bg ap n most w1 hs' v' := by
  obtain ⟨cs, h1, h2⟩ := h.ea
  exact ⟨hh, (hk _ b.n b.hn).trans h.en, (hk _ b.m b.hm).trans h.em, ⟨cs, (hk _ b.a b.ha).trans h1, h2⟩, (hk _ b.g b.hg).trans h.eg, hown, hs⟩
/-- a scribe more -/
theorem Gv.append {w w1 : World} {hs : List Nat} {v v' : Value} {c : Nat} {blk : Obj} (h : Gv base bh bn bm ba bg ap n most w hs v) (b : Bxs base bh bn bm ba bg)
    (hown : w1.ownsRow base 3 1 v' (hs.length + 1) (natsV hs ++ [.int .i64 (c : Nat)])) (hg : (w.alloc blk).grownBy w1 v.ownBlock) (hat : v'.ownBlock = v.ownBlock ∨ v'.ownBlock = some (w.alloc blk).heap.size) :
    w1.heap[bh]? = some (.cells #[v] 22 (0, 0)) ∧ Gv base bh bn bm ba bg ap n most (w1.setCell ⟨bh, 0, none⟩ v') (hs ++ [c]) v' ∧ HKeeps bh v w v' (w1.setCell ⟨bh, 0, none⟩ v') := by
  have hsz := h.sz
  have hs1 : w.heap.size + 1 ≤ w1.heap.size := by have := hg.size; rw [World.size_alloc] at this; exact this
  have hblk : ∀ k, k < w.heap.size → v.ownBlock ≠ some k → w1.heap[k]? = w.heap[k]? := fun k hk hne => by
    rw [hg.block k (by rw [World.size_alloc]; omega) (fun e => hne e.symm), heap_alloc_other _ _ _ hk]
  have hblk2 : ∀ k, k ≠ bh → (w1.setCell ⟨bh, 0, none⟩ v').heap[k]? = w1.heap[k]? := fun k hk => heap_setCell_other _ _ _ _ hk
  have hbh := b.h
  have hh : w1.heap[bh]? = some (.cells #[v] 22 (0, 0)) := (hblk bh (by omega) (fun e => by have := (h.own_ge bh e).1; omega)).trans h.eh
  have hss : (w1.setCell ⟨bh, 0, none⟩ v').heap.size = w1.heap.size := by simp
  refine ⟨hh, h.other b (fun k h1 h2 => by rw [hblk2 k h2, hblk k (by omega) (fun e => by have := (h.own_ge k e).1; omega)]) (heap_setCell_same _ _ _ _ _ _ hh) ?_ (by rw [hss]; omega), ⟨hg.os, hg.tape, hg.output, by rw [hss]; omega, fun k h1 h2 h3 => by rw [hblk2 k h2, hblk k h1 h3], ?_⟩⟩
  · have e : (hs ++ [c]).length = hs.length + 1 := by simp
    have e2 : natsV (hs ++ [c]) = natsV hs ++ [.int .i64 (c : Nat)] := by unfold natsV; simp
    rw [e, e2]
    exact ownsRow_of_block hown (fun g e2 => hblk2 g (fun e3 => by have := (hown.lt g e2).1; omega))
  · rcases hat with hat | hat
    · exact .inl hat
    · exact .inr ⟨_, hat, by rw [World.size_alloc]; omega⟩
theorem own_take {w : World} {base : Nat} {A : Option Addr} {n c m : Nat} {xs : List Value} {e : TypeId} (h : w.ownsRow base e 1 (.slice A n c) n xs) (hm : m ≤ n) : w.ownsRow base e 1 (.slice A m c) m (xs.take m) := by
  have hl : xs.length = n := by have := h.1; simpa using this
  refine ⟨by simp; omega, ?_⟩
  rcases h.2 with ⟨e1, e2⟩ | ⟨g, cap, cur, e1, h2, h3, h4, h5, h6, h7⟩
  · injection e1 with a1 a2 a3
    subst a1 a3
    left
    refine ⟨?_, ?_⟩
    · have : m = 0 := by omega
      rw [this]
    · omega
  · injection e1 with a1 a2 a3
    subst a1 a3
    refine .inr ⟨g, c, cur, rfl, h2, h3, by omega, h5, h6, ?_⟩
    rw [← h7, List.take_take]
    congr 1
    omega
/-- the scribes as they were, in the longer row -/
theorem Gv.back {w : World} {hs : List Nat} {c d : Nat} {A : Option Addr} {m : Nat} (h : Gv base bh bn bm ba bg ap n most w (hs ++ [c]) (.slice A m d)) (b : Bxs base bh bn bm ba bg) :
    Gv base bh bn bm ba bg ap n most (w.setCell ⟨bh, 0, none⟩ (.slice A hs.length d)) hs (.slice A hs.length d) ∧ HKeeps bh (.slice A m d) w (.slice A hs.length d) (w.setCell ⟨bh, 0, none⟩ (.slice A hs.length d)) := by
  have hblk2 : ∀ k, k ≠ bh → (w.setCell ⟨bh, 0, none⟩ (.slice A hs.length d)).heap[k]? = w.heap[k]? := fun k hk => heap_setCell_other _ _ _ _ hk
  have hss : (w.setCell ⟨bh, 0, none⟩ (.slice A hs.length d)).heap.size = w.heap.size := by simp
  have ho := h.own
  have e1 : (hs ++ [c]).length = hs.length + 1 := by simp
  have hm : m = hs.length + 1 := by
    obtain ⟨A2, c2, hv, -⟩ := own_slice ho
    injection hv with a1 a2 a3
    rw [a2, e1]
  subst hm
  rw [e1] at ho
  have ht := own_take ho (m := hs.length) (by omega)
  have e2 : (natsV (hs ++ [c])).take hs.length = natsV hs := by unfold natsV; simp
  rw [e2] at ht
  have hbb : (Value.slice A hs.length d).ownBlock = (Value.slice A (hs.length + 1) d).ownBlock := by cases A <;> rfl
  refine ⟨h.other b (fun k _ h2 => hblk2 k h2) (heap_setCell_same _ _ _ _ _ _ h.eh) (ownsRow_of_block ht fun g e => hblk2 g fun e3 => ?_) (by rw [hss]; exact h.sz), ⟨rfl, rfl, rfl, by rw [hss]; exact Nat.le_refl _, fun k _ h2 _ => hblk2 k h2, .inl hbb⟩⟩
  rw [hbb] at e
  have := (h.own_ge g e).1
  have := b.h
  omega
end

end Go.Proofs.Ytcpfhaoecggflaa
