/- MakePuzzle, both sides: the numbers z, the clues that they make, and what lies in memory while a puzzle is made. -/
import Derived.Test.YtenpmjinbjlpbaaPzD
import Derived.Test.YtenpmjinbjlpbaaPuzI
namespace Go.Proofs.Ytenpmjinbjlpbaa
open Go.RowKit

/-- the next number -/
def nxZ (z : Int) : Int := (z * 181 + 3323) % 10007
theorem nxZ_in (z : Int) : 0 ≤ nxZ z ∧ nxZ z ≤ 10006 := by unfold nxZ; omega
def mkK (z : Int) : Int := nxZ z % 6
theorem mkK_in (z : Int) : 0 ≤ mkK z ∧ mkK z ≤ 5 := by unfold mkK; omega
def mkA (n L z : Int) : Int := if mkK z = 0 ∨ mkK z = 4 then nxZ (nxZ z) % n else if mkK z = 5 then 2 * (nxZ (nxZ z) % (L / 2)) else 0
def mkZ (z : Int) : Int := if mkK z = 0 ∨ mkK z = 4 ∨ mkK z = 5 then nxZ (nxZ z) else nxZ z
theorem mkZ_in (z : Int) : 0 ≤ mkZ z ∧ mkZ z ≤ 10006 := by unfold mkZ; split <;> exact nxZ_in _
def mkCl (L : Int) (l : List (Int × Int)) (z : Int) : Int × Int × Int := (mkK z, hasA L l (mkK z) (mkA l.length L z), hasB' L l (mkK z) (mkA l.length L z) 0)
def zAt (z : Int) : Nat → Int
  | 0 => z
  | k + 1 => mkZ (zAt z k)
theorem zAt_in {z : Int} (h : 0 ≤ z ∧ z ≤ 9999) (k : Nat) : 0 ≤ zAt z k ∧ zAt z k ≤ 10006 := by
  cases k with
  | zero => unfold zAt; omega
  | succ k => exact mkZ_in _
def mkCs (L : Int) (l : List (Int × Int)) (z : Int) (m : Nat) : List (Int × Int × Int) := (List.range m).map fun k => mkCl L l (zAt z k)
theorem mkCs_succ (L : Int) (l : List (Int × Int)) (z : Int) (m : Nat) : mkCs L l z (m + 1) = mkCs L l z m ++ [mkCl L l (zAt z m)] := by
  unfold mkCs; rw [List.range_succ, List.map_append]; rfl
theorem mkCs_len (L : Int) (l : List (Int × Int)) (z : Int) (m : Nat) : (mkCs L l z m).length = m := by simp [mkCs]
def mkOk (L : Int) (l : List (Int × Int)) (m z : Int) : Bool := hidB L l && (decide (0 ≤ m) && decide (m ≤ 6)) && (decide (0 ≤ z) && decide (z ≤ 9999))
def mkL (L : Int) (l : List (Int × Int)) (m z : Int) : Int := if mkOk L l m z then L else 0
def mkP (L : Int) (l : List (Int × Int)) (m z : Int) : List Int := if mkOk L l m z then l.map Prod.fst else []
def mkC (L : Int) (l : List (Int × Int)) (m z : Int) : List (Int × Int × Int) := if mkOk L l m z then mkCs L l z m.toNat else []
theorem mk_no {L : Int} {l : List (Int × Int)} {m z : Int} (h : mkOk L l m z = false) : mkL L l m z = 0 ∧ mkP L l m z = [] ∧ mkC L l m z = [] ∧ mkOk L l m z = false := by
  unfold mkL mkP mkC; simp [h]
theorem mk_yes {L : Int} {l : List (Int × Int)} {m z : Int} (h : mkOk L l m z = true) : mkL L l m z = L ∧ mkP L l m z = l.map Prod.fst ∧ mkC L l m z = mkCs L l z m.toNat ∧ mkOk L l m z = true := by
  unfold mkL mkP mkC; simp [h]
theorem mkP_len (L : Int) (l : List (Int × Int)) (m z : Int) : (mkP L l m z).length ≤ 8 := by
  unfold mkP
  split
  · rename_i h
    unfold mkOk at h
    simp only [Bool.and_eq_true] at h
    rw [List.length_map]
    exact (hidB_len h.1.1).2
  · simp
theorem mkC_len (L : Int) (l : List (Int × Int)) (m z : Int) : (mkC L l m z).length ≤ 6 := by
  unfold mkC
  split
  · rename_i h
    unfold mkOk at h
    simp only [Bool.and_eq_true, decide_eq_true_eq] at h
    rw [mkCs_len]
    omega
  · simp
theorem mkA_04 {n L z : Int} (h : mkK z = 0 ∨ mkK z = 4) : mkA n L z = nxZ (nxZ z) % n := by unfold mkA; rw [if_pos h]
theorem mkA_5 {n L z : Int} (h : mkK z = 5) : mkA n L z = 2 * (nxZ (nxZ z) % (L / 2)) := by unfold mkA; rw [if_neg (by omega), if_pos h]
theorem mkA_o {n L z : Int} (h : mkK z ≠ 0 ∧ mkK z ≠ 4 ∧ mkK z ≠ 5) : mkA n L z = 0 := by unfold mkA; rw [if_neg (by omega), if_neg (by omega)]
theorem mkZ_2 {z : Int} (h : mkK z = 0 ∨ mkK z = 4 ∨ mkK z = 5) : mkZ z = nxZ (nxZ z) := by unfold mkZ; rw [if_pos h]
theorem mkZ_1 {z : Int} (h : mkK z ≠ 0 ∧ mkK z ≠ 4 ∧ mkK z ≠ 5) : mkZ z = nxZ z := by unfold mkZ; rw [if_neg (by omega)]
theorem mkA_ask {n L z : Int} (hn : 1 ≤ n) (hL : 2 ≤ L ∧ L ≤ 1000) : askB n (mkK z) (mkA n L z) = true := by
  have h := mkK_in z
  have h2 := nxZ_in (nxZ z)
  have h7 : mkK z = 0 ∨ mkK z = 1 ∨ mkK z = 2 ∨ mkK z = 3 ∨ mkK z = 4 ∨ mkK z = 5 := by omega
  unfold askB timeB
  rcases h7 with h7 | h7 | h7 | h7 | h7 | h7
  · have := Int.emod_nonneg (nxZ (nxZ z)) (show n ≠ 0 by omega)
    have := Int.emod_lt_of_pos (nxZ (nxZ z)) (show 0 < n by omega)
    rw [mkA_04 (.inl h7), h7]; simp; omega
  · rw [h7]; simp
  · rw [h7]; simp
  · rw [h7]; simp
  · have := Int.emod_nonneg (nxZ (nxZ z)) (show n ≠ 0 by omega)
    have := Int.emod_lt_of_pos (nxZ (nxZ z)) (show 0 < n by omega)
    rw [mkA_04 (.inr h7), h7]; simp; omega
  · have := Int.emod_nonneg (nxZ (nxZ z)) (show L / 2 ≠ 0 by omega)
    have := Int.emod_lt_of_pos (nxZ (nxZ z)) (show 0 < L / 2 by omega)
    rw [mkA_5 h7, h7]; simp; omega

/-- only one block may have changed -/
structure Kp (g : Nat) (w w' : World) : Prop where
  size : w.heap.size ≤ w'.heap.size
  block : ∀ i, i ≠ g → i < w.heap.size → w'.heap[i]? = w.heap[i]?
theorem Kp.set (w : World) (g o : Nat) (v : Value) : Kp g w (w.setCell ⟨g, o, none⟩ v) := ⟨by simp [World.setCell], fun i h _ => Below.heap_setCell _ _ _ _ h⟩
theorem Kp.of {g : Nat} {w w' : World} (h : Below w.heap.size w w') : Kp g w w' := ⟨h.size, fun i _ hi => h.block i hi⟩
theorem Kp.trans {g : Nat} {a b c : World} (h : Kp g a b) (k : Kp g b c) : Kp g a c := ⟨Nat.le_trans h.size k.size, fun i hn hi => (k.block i hn (Nat.lt_of_lt_of_le hi h.size)).trans (h.block i hn hi)⟩
theorem Kp.cell {g : Nat} {w w' : World} (h : Kp g w w') {p : Addr} {v : Value} (hp : p.block ≠ g) (hc : w.cell? p = some v) : w'.cell? p = some v := by
  rw [← hc]
  unfold World.cell?
  rw [h.block p.block hp (World.block_lt_of_cell? _ _ hc)]
theorem Kp.frozen {g : Nat} {w w' : World} (h : Kp g w w') {p : Addr} {v : Bool} (hp : p.block ≠ g) (hl : p.block < w.heap.size) (hc : w.frozen? p = v) : w'.frozen? p = v :=
  (World.frozen?_of_block (w := w) (h.block p.block hp hl)).trans hc
theorem Kp.own {α : Type} {S : Shape α} {g B : Nat} {w w' : World} {e : TypeId} {v : Value} {l : List α} (hk : Kp g w w') (h : SlOwn S w B e v l) (hv : ∀ k, v.ownBlock = some k → k ≠ g) : SlOwn S w' B e v l := by
  refine ⟨h.1, ?_⟩
  rcases h.2 with h2 | ⟨b, cap, cur, hv', hB, hrow, h3⟩
  · exact .inl h2
  · refine .inr ⟨b, cap, cur, hv', hB, ?_, h3⟩
    rw [hk.block b (hv b (by rw [hv']; rfl)) (Array.getElem?_eq_some_iff.1 hrow).1]
    exact hrow
theorem SlOwn.belowB {α : Type} {S : Shape α} {w w' : World} {A : Option Addr} {n c : Nat} {l : List α} {B B0 : Nat} {e : TypeId} (h : SlOwn S w B0 e (.slice A n c) l) (hb : Below B w w') (hA : ∀ b, (Value.slice A n c).ownBlock = some b → b < B) : SlOwn S w' B0 e (.slice A n c) l := by
  refine ⟨h.1, ?_⟩
  rcases h.2 with h2 | ⟨b, cap, cur, hv', hB, hrow, h3⟩
  · exact .inl h2
  · refine .inr ⟨b, cap, cur, hv', hB, ?_, h3⟩
    rw [hb.block b (hA b (by rw [hv']; rfl))]
    exact hrow

/-- what lies in memory while a puzzle is made: the rod's cells, the result's, the puzzle's own, the places, the clues so far -/
structure MkAt (W : World) (w0 ob B0 B : Nat) (L : Int) (A : Option Addr) (n c : Nat) (pl : List Int) (A2 : Option Addr) (n2 k2 : Nat) (A3 : Option Addr) (n3 c3 : Nat) (cs : List (Int × Int × Int)) : Prop where
  a0 : W.cell? ⟨w0, 0, none⟩ = some (.int .i64 L)
  a1 : W.cell? ⟨w0, 1, none⟩ = some (.slice A n c)
  r0 : W.cell? ⟨w0 + 1, 0, none⟩ = some (.int .i64 0)
  r1 : W.cell? ⟨w0 + 1, 1, none⟩ = some (.slice none 0 0)
  r2 : W.cell? ⟨w0 + 1, 2, none⟩ = some (.slice none 0 0)
  rf : ∀ o, W.frozen? ⟨w0 + 1, o, none⟩ = false
  o0 : W.cell? ⟨ob, 0, none⟩ = some (.int .i64 L)
  o1 : W.cell? ⟨ob, 1, none⟩ = some (.slice A2 n2 k2)
  o2 : W.cell? ⟨ob, 2, none⟩ = some (.slice A3 n3 c3)
  of : ∀ o, W.frozen? ⟨ob, o, none⟩ = false
  pl : SlOwn intS W B0 3 (.slice A2 n2 k2) pl
  own : SlOwn tripS W B 35 (.slice A3 n3 c3) cs
  lo : w0 + 1 < ob
  hi : ob < B
  sz : B ≤ W.heap.size
theorem MkAt.kp {W W' : World} {w0 ob B0 B : Nat} {L : Int} {A : Option Addr} {n c : Nat} {pl : List Int} {A2 : Option Addr} {n2 k2 : Nat} {A3 : Option Addr} {n3 c3 : Nat} {cs : List (Int × Int × Int)} (h : MkAt W w0 ob B0 B L A n c pl A2 n2 k2 A3 n3 c3 cs)
    {g : Nat} (hk : Kp g W W') (h1 : w0 + 1 < g) (h2 : g ≠ ob) (h3 : ∀ b, (Value.slice A2 n2 k2).ownBlock = some b → b ≠ g) (h4 : ∀ b, (Value.slice A3 n3 c3).ownBlock = some b → b ≠ g) : MkAt W' w0 ob B0 B L A n c pl A2 n2 k2 A3 n3 c3 cs := by
  have q1 := h.lo
  have q2 := h.hi
  have q3 := h.sz
  exact ⟨hk.cell (by simp only; omega) h.a0, hk.cell (by simp only; omega) h.a1, hk.cell (by simp only; omega) h.r0, hk.cell (by simp only; omega) h.r1, hk.cell (by simp only; omega) h.r2,
    fun o => hk.frozen (by simp only; omega) (by simp only; omega) (h.rf o), hk.cell (by simp only; omega) h.o0, hk.cell (by simp only; omega) h.o1, hk.cell (by simp only; omega) h.o2,
    fun o => hk.frozen (by simp only; omega) (by simp only; omega) (h.of o), hk.own h.pl h3, hk.own h.own h4, q1, q2, Nat.le_trans q3 hk.size⟩
theorem MkAt.below {W W' : World} {w0 ob B0 B : Nat} {L : Int} {A : Option Addr} {n c : Nat} {pl : List Int} {A2 : Option Addr} {n2 k2 : Nat} {A3 : Option Addr} {n3 c3 : Nat} {cs : List (Int × Int × Int)} (h : MkAt W w0 ob B0 B L A n c pl A2 n2 k2 A3 n3 c3 cs)
    (hb : Below W.heap.size W W') : MkAt W' w0 ob B0 B L A n c pl A2 n2 k2 A3 n3 c3 cs := by
  have q1 := h.lo
  have q2 := h.hi
  have q3 := h.sz
  have hk := fun g => Kp.of (g := g) hb
  exact ⟨Below.cell_some hb h.a0, Below.cell_some hb h.a1, Below.cell_some hb h.r0, Below.cell_some hb h.r1, Below.cell_some hb h.r2,
    fun o => (hb.frozen (p := ⟨w0 + 1, o, none⟩) (by simp only; omega)).trans (h.rf o), Below.cell_some hb h.o0, Below.cell_some hb h.o1, Below.cell_some hb h.o2,
    fun o => (hb.frozen (p := ⟨ob, o, none⟩) (by simp only; omega)).trans (h.of o), SlOwn.below h.pl hb, SlOwn.below h.own hb, q1, q2, Nat.le_trans q3 hb.size⟩
/-- one clue more, and the puzzle's own cell told anew -/
theorem MkAt.put {W W' : World} {w0 ob B0 B : Nat} {L : Int} {A : Option Addr} {n c : Nat} {pl : List Int} {A2 : Option Addr} {n2 k2 : Nat} {A3 : Option Addr} {n3 c3 : Nat} {cs : List (Int × Int × Int)} (h : MkAt W w0 ob B0 B L A n c pl A2 n2 k2 A3 n3 c3 cs)
    (hb : Below B W W') (plin : ∀ b, (Value.slice A2 n2 k2).ownBlock = some b → b < B ∧ b ≠ ob) {A7 : Option Addr} {n7 k7 : Nat} {m7 : List (Int × Int × Int)} (ho : SlOwn tripS W' B 35 (.slice A7 n7 k7) m7) : MkAt (W'.setCell ⟨ob, 2, none⟩ (.slice A7 n7 k7)) w0 ob B0 B L A n c pl A2 n2 k2 A7 n7 k7 m7 := by
  have q1 := h.lo
  have q2 := h.hi
  have q3 := h.sz
  have k := Kp.set W' ob 2 (.slice A7 n7 k7)
  have b3 : B ≤ W'.heap.size := Nat.le_trans q3 hb.size
  refine ⟨k.cell (by simp only; omega) ((hb.cell (p := ⟨w0, 0, none⟩) (by simp only; omega)).trans h.a0), k.cell (by simp only; omega) ((hb.cell (p := ⟨w0, 1, none⟩) (by simp only; omega)).trans h.a1),
    k.cell (by simp only; omega) ((hb.cell (p := ⟨w0 + 1, 0, none⟩) (by simp only; omega)).trans h.r0), k.cell (by simp only; omega) ((hb.cell (p := ⟨w0 + 1, 1, none⟩) (by simp only; omega)).trans h.r1), k.cell (by simp only; omega) ((hb.cell (p := ⟨w0 + 1, 2, none⟩) (by simp only; omega)).trans h.r2),
    fun o => k.frozen (by simp only; omega) (by simp only; omega) ((hb.frozen (p := ⟨w0 + 1, o, none⟩) (by simp only; omega)).trans (h.rf o)), ?_, ?_, ?_, fun o => ?_, k.own (h.pl.belowB hb (fun b e => (plin b e).1)) (fun b e => (plin b e).2), ownsRow_setCell_below ho q2 _, q1, q2, by simp [World.setCell] at *; omega⟩
  · rw [World.cell?_setCell_other _ _ _ _ (by intro e; injection e; omega)]; exact (hb.cell (p := ⟨ob, 0, none⟩) q2).trans h.o0
  · rw [World.cell?_setCell_other _ _ _ _ (by intro e; injection e; omega)]; exact (hb.cell (p := ⟨ob, 1, none⟩) q2).trans h.o1
  · exact World.cell?_setCell_same _ _ _ ((hb.cell (p := ⟨ob, 2, none⟩) q2).trans h.o2)
  · have := (hb.frozen (p := ⟨ob, o, none⟩) q2).trans (h.of o)
    simpa using this
/-- one place more, while there are no clues -/
theorem MkAt.putP {W W' : World} {w0 ob B : Nat} {L : Int} {A : Option Addr} {n c : Nat} {pl : List Int} {A2 : Option Addr} {n2 k2 : Nat} (h : MkAt W w0 ob B B L A n c pl A2 n2 k2 none 0 0 [])
    (hb : Below B W W') {A7 : Option Addr} {n7 k7 : Nat} {m7 : List Int} (ho : SlOwn intS W' B 3 (.slice A7 n7 k7) m7) : MkAt (W'.setCell ⟨ob, 1, none⟩ (.slice A7 n7 k7)) w0 ob B B L A n c m7 A7 n7 k7 none 0 0 [] := by
  have q1 := h.lo
  have q2 := h.hi
  have q3 := h.sz
  have k := Kp.set W' ob 1 (.slice A7 n7 k7)
  have b3 : B ≤ W'.heap.size := Nat.le_trans q3 hb.size
  refine ⟨k.cell (by simp only; omega) ((hb.cell (p := ⟨w0, 0, none⟩) (by simp only; omega)).trans h.a0), k.cell (by simp only; omega) ((hb.cell (p := ⟨w0, 1, none⟩) (by simp only; omega)).trans h.a1),
    k.cell (by simp only; omega) ((hb.cell (p := ⟨w0 + 1, 0, none⟩) (by simp only; omega)).trans h.r0), k.cell (by simp only; omega) ((hb.cell (p := ⟨w0 + 1, 1, none⟩) (by simp only; omega)).trans h.r1), k.cell (by simp only; omega) ((hb.cell (p := ⟨w0 + 1, 2, none⟩) (by simp only; omega)).trans h.r2),
    fun o => k.frozen (by simp only; omega) (by simp only; omega) ((hb.frozen (p := ⟨w0 + 1, o, none⟩) (by simp only; omega)).trans (h.rf o)), ?_, ?_, ?_, fun o => ?_, ownsRow_setCell_below ho q2 _, SlOwn.nil tripS _ _ _, q1, q2, by simp [World.setCell] at *; omega⟩
  · rw [World.cell?_setCell_other _ _ _ _ (by intro e; injection e; omega)]; exact (hb.cell (p := ⟨ob, 0, none⟩) q2).trans h.o0
  · exact World.cell?_setCell_same _ _ _ ((hb.cell (p := ⟨ob, 1, none⟩) q2).trans h.o1)
  · rw [World.cell?_setCell_other _ _ _ _ (by intro e; injection e; omega)]; exact (hb.cell (p := ⟨ob, 2, none⟩) q2).trans h.o2
  · have := (hb.frozen (p := ⟨ob, o, none⟩) q2).trans (h.of o)
    simpa using this
theorem MkAt.rebase {W : World} {w0 ob B0 B B' : Nat} {L : Int} {A : Option Addr} {n c : Nat} {pl : List Int} {A2 : Option Addr} {n2 k2 : Nat} (h : MkAt W w0 ob B0 B L A n c pl A2 n2 k2 none 0 0 [])
    (h1 : B ≤ B') (h2 : B' ≤ W.heap.size) : MkAt W w0 ob B0 B' L A n c pl A2 n2 k2 none 0 0 [] :=
  ⟨h.a0, h.a1, h.r0, h.r1, h.r2, h.rf, h.o0, h.o1, h.o2, h.of, h.pl, SlOwn.nil tripS _ _ _, h.lo, Nat.lt_of_lt_of_le h.hi h1, h2⟩
end Go.Proofs.Ytenpmjinbjlpbaa
