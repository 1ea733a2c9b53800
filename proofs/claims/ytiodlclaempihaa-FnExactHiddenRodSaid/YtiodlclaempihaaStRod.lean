/- spec.stRod: the rod of ways that are told by bits. -/
import Derived.Test.YtiodlclaempihaaPlac
import Derived.Test.YtiodlclaempihaaBits
import Derived.Test.YtiodlclaempihaaStep
namespace Go.Proofs.Ytiodlclaempihaa
open Go.RowKit

/-- the ants at places that go those ways -/
def rdL (l : List Int) (ys : List Int) : List (Int × Int) := l.zip ys
theorem rdL_snoc (l ys : List Int) (k : Nat) (x y : Int) (hx : l[k]? = some x) (hy : ys[k]? = some y) : (rdL l ys).take (k + 1) = (rdL l ys).take k ++ [(x, y)] := by
  have h : (rdL l ys)[k]? = some (x, y) := by
    unfold rdL
    rw [List.getElem?_zip_eq_some]
    exact ⟨hx, hy⟩
  obtain ⟨hk, h2⟩ := List.getElem?_eq_some_iff.1 h
  rw [List.take_succ_eq_append_getElem hk, h2]
theorem slAt_pair1 {w : World} {g : Nat} {x y : Int} {e : TypeId} {m : Nat × Nat} (h : w.heap[g]? = some (.cells #[.int .i64 x, .int .i64 y] e m)) : SlAt pairS w (some ⟨g, 0, none⟩) [(x, y)] := by
  refine .inr ⟨g, 0, rfl, (Array.getElem?_eq_some_iff.1 h).1, fun k z hk j hj => ?_⟩
  cases k with
  | succ k => simp at hk
  | zero =>
    simp only [List.getElem?_cons_zero, Option.some.injEq] at hk
    subst hk
    simp only [Nat.zero_mul, Nat.zero_add]
    rw [cell_of_row w g j _ _ _ h, ← Array.getElem?_toList]
    rfl

theorem own_lenR {α : Type} {S : Shape α} {w : World} {B n c : Nat} {e : TypeId} {A : Option Addr} {l : List α} (h : SlOwn S w B e (.slice A n c) l) : n = l.length := by
  rcases h.2 with ⟨h', h0⟩ | ⟨g, cap, cur, hv, _⟩
  · simp only [Value.slice.injEq] at h'; omega
  · simp only [Value.slice.injEq] at hv; exact hv.2.1
theorem and1 (n : Nat) (h : n < 9223372036854775808) : bits BinOp.and IntKind.i64 (n : Int) 1 = ((n % 2 : Nat) : Int) := by
  unfold bits
  have h2 : (BitVec.ofInt 64 (n : Int) &&& BitVec.ofInt 64 1).toNat = n % 2 := by
    rw [BitVec.toNat_and, BitVec.toNat_ofInt, BitVec.toNat_ofInt]
    have e1 : ((n : Int) % ((2 ^ 64 : Nat) : Int)).toNat = n := by omega
    rw [e1]
    show n &&& 1 = n % 2
    exact Nat.and_one_is_mod n
  show IntKind.i64.wrap (((BitVec.ofInt 64 (n : Int) &&& BitVec.ofInt 64 1).toNat : Nat) : Int) = _
  rw [h2]
  exact IntWalk.i64_in _ (by omega)
theorem bit_at (k e : Nat) (h : (k : Int) ≤ 4096) : (bits BinOp.and IntKind.i64 ((k : Int) / 2 ^ e) 1 == 1) = decide (k / 2 ^ e % 2 = 1) := by
  have e1 : (k : Int) / 2 ^ e = ((k / 2 ^ e : Nat) : Int) := by
    rw [Int.natCast_ediv, Int.natCast_pow]; rfl
  have h2 : k / 2 ^ e ≤ k := Nat.div_le_self _ _
  rw [e1, and1 _ (by omega)]
  by_cases h3 : k / 2 ^ e % 2 = 1
  · rw [h3]; simp
  · have h4 : k / 2 ^ e % 2 = 0 := by omega
    rw [h4]; simp

end Go.Proofs.Ytiodlclaempihaa
