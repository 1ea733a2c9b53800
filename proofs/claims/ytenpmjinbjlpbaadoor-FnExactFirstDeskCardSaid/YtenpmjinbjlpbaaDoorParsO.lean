/- The contract of spec.roParse. -/
import Derived.Test.YtenpmjinbjlpbaaDoorParsS
namespace Go.Proofs.YtenpmjinbjlpbaaDoor
open Go.RowKit

theorem antIp : (Tryd.prog.info? 58).map (fun i => (i.zero, i.size, i.bytes)) = some (some (.agg #[.int .i64 0, .int .i64 0]), pairS.size, 16) := by kernel_rfl
theorem slAt_oneP {w : World} {g : Nat} {x y : Int} {e : TypeId} {m : Nat × Nat} (h : w.heap[g]? = some (.cells #[.int .i64 x, .int .i64 y] e m)) : SlAt pairS w (some ⟨g, 0, none⟩) [(x, y)] := by
  refine .inr ⟨g, 0, rfl, (Array.getElem?_eq_some_iff.1 h).1, fun k z hk j hj => ?_⟩
  cases k with
  | succ k => simp at hk
  | zero =>
    simp only [List.getElem?_cons_zero, Option.some.injEq] at hk
    subst hk
    simp only [Nat.zero_mul, Nat.zero_add]
    rw [cell_of_row w g j _ _ _ h, ← Array.getElem?_toList]
    rfl

theorem parsM_fuel : ∀ (f g : Nat) (t : List UInt8), t.length ≤ f → t.length ≤ g → parsM f t = parsM g t
  | f, g, [], _, _ => by cases f <;> cases g <;> rfl
  | 0, _, _ :: _, h, _ => by simp at h
  | _, 0, _ :: _, _, h => by simp at h
  | f + 1, g + 1, b :: t, hf, hg => by
    have hd : (t.dropWhile digB).length ≤ t.length := (List.dropWhile_suffix digB).length_le
    have h1 : t.length ≤ f := by simpa using hf
    have h2 : t.length ≤ g := by simpa using hg
    simp only [parsM]
    rw [parsM_fuel f g (t.dropWhile digB) (by omega) (by omega)]
def pM (t : List UInt8) : Option (List (Int × Int)) := parsM t.length t
theorem pM_cons (b : UInt8) (t : List UInt8) : pM (b :: t) = if b = 108 ∨ b = 114 then (pM (t.dropWhile digB)).map fun l => (readL (t.takeWhile digB), if b = 108 then -1 else 1) :: l else none := by
  have hd : (t.dropWhile digB).length ≤ t.length := (List.dropWhile_suffix digB).length_le
  show parsM (t.length + 1) (b :: t) = _
  simp only [parsM]
  rw [parsM_fuel t.length (t.dropWhile digB).length (t.dropWhile digB) hd (Nat.le_refl _)]
  rfl
theorem pM_step {s : List UInt8} {m : List (Int × Int)} {b : UInt8} {t : List UInt8} (h : pM s = (pM (b :: t)).map (m ++ ·)) (hb : b = 108 ∨ b = 114) :
    pM s = (pM (t.dropWhile digB)).map ((m ++ [(readL (t.takeWhile digB), if b = 108 then -1 else 1)]) ++ ·) := by
  rw [h, pM_cons, if_pos hb, Option.map_map]
  congr 1
  funext l
  simp
theorem pM_stop {s : List UInt8} {m : List (Int × Int)} {b : UInt8} {t : List UInt8} (h : pM s = (pM (b :: t)).map (m ++ ·)) (hb : ¬ (b = 108 ∨ b = 114)) : pM s = none := by
  rw [h, pM_cons, if_neg hb]; rfl
theorem take_end (t : List UInt8) {j : Nat} (hj : j ≤ t.length) (ha : (t.take j).all digB = true) (he : j = t.length ∨ digB (t.getD j 0) = false) : t.takeWhile digB = t.take j ∧ t.dropWhile digB = t.drop j := by
  have hsp : t = t.take j ++ t.drop j := (List.take_append_drop j t).symm
  have ha' := List.all_eq_true.mp ha
  have h0 : ∀ b, (t.drop j)[0]? = some b → digB b = false := by
    intro b hb
    rw [List.getElem?_drop] at hb
    rcases he with rfl | he
    · rw [List.getElem?_eq_none (by omega)] at hb; cases hb
    · rw [List.getD_eq_getElem?_getD] at he
      rw [show j + 0 = j from rfl] at hb
      rw [hb] at he; exact he
  generalize t.take j = x at *
  generalize t.drop j = y at *
  subst hsp
  have e1 : y.takeWhile digB = [] := by
    cases y with
    | nil => rfl
    | cons b r => rw [List.takeWhile_cons, h0 b rfl]; rfl
  have e2 : y.dropWhile digB = y := by
    cases y with
    | nil => rfl
    | cons b r => rw [List.dropWhile_cons, h0 b rfl]; rfl
  rw [List.takeWhile_append_of_pos ha', List.dropWhile_append_of_pos ha', e1, e2]
  simp

def pRod (c : UInt8) (s : List UInt8) : Option (Int × List (Int × Int)) :=
  if 100 < s.length then none else match splitL c s with
  | [a, b] => match pM b with
    | some l => if goodB (readL a) l then some (readL a, l) else none
    | none => none
  | _ => none
def pL (c : UInt8) (s : List UInt8) : Int := ((pRod c s).map (·.1)).getD 0
def pA (c : UInt8) (s : List UInt8) : List (Int × Int) := ((pRod c s).map (·.2)).getD []
def pOk (c : UInt8) (s : List UInt8) : Bool := (pRod c s).isSome
theorem p_none {c : UInt8} {s : List UInt8} (h : pRod c s = none) : pL c s = 0 ∧ pA c s = [] ∧ pOk c s = false := by unfold pL pA pOk; rw [h]; exact ⟨rfl, rfl, rfl⟩
theorem p_some {c : UInt8} {s : List UInt8} {L : Int} {l : List (Int × Int)} (h : pRod c s = some (L, l)) : pL c s = L ∧ pA c s = l ∧ pOk c s = true := by unfold pL pA pOk; rw [h]; exact ⟨rfl, rfl, rfl⟩

def strLen (v : Value) : Nat := match v with
  | .string s => s.size
  | _ => 0

theorem l1Split58 (s : ByteArray) (hs : s.size ≤ 1048576) (w : World) :
    Calls Tryd.prog 79 #[.string s, .int .u8 58] w fun e w' => ∃ A n c', e = .returned (.slice A n c') ∧ n = (splitL 58 s.data.toList).length ∧ SlAt strS w' A ((splitL 58 s.data.toList).map mkB) ∧ Below w.heap.size w w' :=
  l1Split_any s hs 58 w

end Go.Proofs.YtenpmjinbjlpbaaDoor
