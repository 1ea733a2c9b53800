/- Drawn runners and drawn times: whatever they are, the cursor alone is turned. -/
import Derived.Test.YthfacfoclekcbaaCur
import Derived.Test.YthfacfoclekcbaaStepR
namespace Go.Proofs.Ythfacfoclekcbaa
open Go.RowKit

/-- below B0 nothing has changed but block g -/
structure Turn (B0 g : Nat) (w w' : World) : Prop where
  os : w'.os = w.os
  tape : w'.tape = w.tape
  output : w'.output = w.output
  size : w.heap.size ≤ w'.heap.size
  block : ∀ i, i < B0 → i ≠ g → w'.heap[i]? = w.heap[i]?
theorem Turn.of_grown {B0 g : Nat} {w w' : World} (h : w.grownBy w' (some g)) (hB : B0 ≤ w.heap.size) : Turn B0 g w w' :=
  ⟨h.os, h.tape, h.output, h.size, fun i hi hne => h.block i (Nat.lt_of_lt_of_le hi hB) (fun e => hne (by injection e))⟩
theorem Turn.of_below {B0 g : Nat} {w w' : World} (h : Below B0 w w') : Turn B0 g w w' := ⟨h.os, h.tape, h.output, h.size, fun i hi _ => h.block i hi⟩
theorem Turn.trans {B0 g : Nat} {a b c : World} (h : Turn B0 g a b) (k : Turn B0 g b c) : Turn B0 g a c :=
  ⟨k.os.trans h.os, k.tape.trans h.tape, k.output.trans h.output, Nat.le_trans h.size k.size, fun i hi hne => (k.block i hi hne).trans (h.block i hi hne)⟩
theorem Turn.refl (B0 g : Nat) (w : World) : Turn B0 g w w := ⟨rfl, rfl, rfl, Nat.le_refl _, fun _ _ _ => rfl⟩
theorem Turn.grown {g : Nat} {w w' : World} (h : Turn w.heap.size g w w') : w.grownBy w' (some g) :=
  ⟨h.os, h.tape, h.output, h.size, fun i hi hne => h.block i hi (fun e => hne (by rw [e]))⟩

theorem CurAt.keptB {w w' : World} {g nb cb B0 : Nat} {B : Option Addr} {bs : List Int} {a s : Int} (h : CurAt w g B nb cb bs a s) (hb : Below B0 w w') (hg : g < B0) (hl : bs = [] ∨ ∃ b off, B = some ⟨b, off, none⟩ ∧ b < B0) : CurAt w' g B nb cb bs a s := by
  refine ⟨h.len, ?_, h.ok, (hb.cell (p := ⟨g, 0, none⟩) hg).trans h.c0, (hb.cell (p := ⟨g, 1, none⟩) hg).trans h.c1, (hb.cell (p := ⟨g, 2, none⟩) hg).trans h.c2,
    fun o => (hb.frozen (p := ⟨g, o, none⟩) hg).trans (h.fz o), Nat.lt_of_lt_of_le h.lt hb.size, h.ne, h.pos, h.sd⟩
  rcases hl with hl | ⟨b, off, hB, hlt⟩
  · exact .inl hl
  · rcases h.code with hc | ⟨b2, off2, hB2, hlt2, hc⟩
    · exact .inl hc
    · rw [hB] at hB2
      injection hB2 with hB2
      injection hB2 with e1 e2
      subst e1; subst e2
      exact .inr ⟨b, off, hB, Nat.lt_of_lt_of_le hlt2 hb.size, fun k x hk j hj => (hb.cell (p := ⟨b, off + k * u8S.size + j, none⟩) hlt).trans (hc k x hk j hj)⟩
theorem CurAt.place {w : World} {g nb cb : Nat} {B : Option Addr} {bs : List Int} {a s : Int} (h : CurAt w g B nb cb bs a s) : bs = [] ∨ ∃ b off, B = some ⟨b, off, none⟩ ∧ b < w.heap.size := by
  rcases h.code with hc | ⟨b, off, hB, hlt, _⟩
  · exact .inl hc
  · exact .inr ⟨b, off, hB, hlt⟩
theorem SlOwn.turned {α : Type} {S : Shape α} {w w' : World} {B0 g : Nat} {e : TypeId} {v : Value} {l : List α} (h : SlOwn S w B0 e v l) (hg : w.grownBy w' (some g)) (hgB : g < B0) : SlOwn S w' B0 e v l := by
  refine h.kept hg ?_
  cases hb : v.ownBlock with
  | none => exact .inl rfl
  | some k =>
    refine .inr (fun e => ?_)
    have h1 := (World.ownsRow.lt h k hb).1
    injection e with e
    omega

set_option maxHeartbeats 400000 in
theorem one_any (g nb cb : Nat) (B : Option Addr) (bs : List Int) (a s n : Int) (w : World) (h : CurAt w g B nb cb bs a s) (ha : a ≤ 1099511627000) (hn0 : -1000000 ≤ n) (hn : n ≤ 1000000) :
    Calls Try.prog 45 #[.pointer (some ⟨g, 0, none⟩), .int .i64 n] w fun e w' => ∃ v, e = .returned (.bool v) ∧ Took w w' g nb cb B bs a 2 := by
  have HP := Lib.hid (pick_any g nb cb B bs a s n w h ha hn0 hn)
  clear h
  go_enter Try.func45, Try.ntmps45
  go_wp2_with fail
  refine HP.out.mono ?_
  rintro e w1 ⟨v, rfl, v0, v1, ht⟩
  go_wp2
  go_ret
  exact ⟨_, rfl, ht⟩

set_option maxHeartbeats 400000 in
theorem among_any (g nb cb : Nat) (B : Option Addr) (bs : List Int) (a s : Int) (A : Option Addr) (c : Nat) (l : List Int) (w : World) (h : CurAt w g B nb cb bs a s) (ha : a ≤ 1099511627000) (hA : SlAt intS w A l) (hl0 : 1 ≤ l.length) (hl : l.length ≤ 1000) (hAg : ∀ x, A = some x → g ≠ x.block) :
    Calls Try.prog 44 #[.pointer (some ⟨g, 0, none⟩), .slice A l.length c] w fun e w' => ∃ v, e = .returned (.int .i64 v) ∧ Took w w' g nb cb B bs a 2 := by
  have HP := Lib.hid (pick_any g nb cb B bs a s l.length w h ha (by omega) (by omega))
  have HA := Lib.hid hA
  clear h hA
  go_enter Try.func44, Try.ntmps44
  go_wp2_with fail
  refine HP.out.mono ?_
  rintro e w1 ⟨v, rfl, v0, v1, ht⟩
  obtain ⟨k, rfl⟩ : ∃ k : Nat, v = (k : Int) := ⟨v.toNat, by omega⟩
  have hk : k < l.length := by omega
  have HT := Lib.hid ht
  have HA1 := Lib.hid (SlAt.grown HA.out ht.grown (fun x hx e => hAg x hx (by injection e)))
  obtain ⟨b, off, rfl, hlt, hc⟩ : ∃ b off, A = some ⟨b, off, none⟩ ∧ b < w1.heap.size ∧ w1.cell? ⟨b, off + k, none⟩ = some (.int .i64 l[k]) := by
    rcases HA1.out with h | ⟨b, off, hA, hlt, hc⟩
    · rw [h] at hk; simp at hk
    · refine ⟨b, off, hA, hlt, ?_⟩
      have := hc k _ (List.getElem?_eq_getElem hk) 0 (by decide)
      simpa [intS] using this
  have hk1 : (k : Int) < (l.length : Int) := by omega
  generalize l[k] = x at *
  clear ht
  go_wp2
  go_ret
  exact ⟨_, rfl, HT.out⟩

theorem own_len' {α : Type} {S : Shape α} {w : World} {B n c : Nat} {e : TypeId} {A : Option Addr} {l : List α} (h : SlOwn S w B e (.slice A n c) l) : n = l.length := by
  obtain ⟨_, _, hv, _⟩ := h.form
  simp only [Value.slice.injEq] at hv
  exact hv.2.1
def lenOf : Value → Nat
  | .slice _ n _ => n
  | _ => 0
theorem slAt_list {w : World} {g : Nat} {l : List Int} {e : TypeId} {m : Nat × Nat} (h : w.heap[g]? = some (.cells (l.map (Value.int .i64)).toArray e m)) : SlAt intS w (some ⟨g, 0, none⟩) l := by
  refine .inr ⟨g, 0, rfl, (Array.getElem?_eq_some_iff.1 h).1, fun k x hk j hj => ?_⟩
  obtain rfl : j = 0 := by simp only [intS] at hj; omega
  show w.cell? ⟨g, 0 + k * 1 + 0, none⟩ = _
  simp only [Nat.mul_one, Nat.zero_add, Nat.add_zero]
  rw [cell_of_row w g k _ _ _ h, ← Array.getElem?_toList]
  simp [hk, intS]
end Go.Proofs.Ythfacfoclekcbaa
