/- What ParseCircle reads, on both sides: a circle whose text the string is. Mathematics, and the model's loop as a function. -/
import Derived.Test.YtpchgmcegholoaaDoorParsX
import Derived.Test.YtpchgmcegholoaaDoorTextC
namespace Go.Proofs.YtpchgmcegholoaaDoor
open Go.RowKit

/-- the model's loop: letter, all up to the next letter, on -/
def parsN : Nat → List UInt8 → Option (List (Int × Int))
  | _, [] => some []
  | 0, _ => none
  | f + 1, b :: t => if b = 108 ∨ b = 114 then (parsN f (t.dropWhile notLr)).map fun l => (readL (t.takeWhile notLr), if b = 108 then -1 else 1) :: l else none

theorem parsN_text (l : List (Int × Int)) (h : ∀ p, p ∈ l → 0 ≤ p.1 ∧ p.1 < 1000000 ∧ (p.2 = -1 ∨ p.2 = 1)) : ∀ f, l.length ≤ f → parsN f (textL l) = some l := by
  induction l with
  | nil => intro f _; cases f <;> rfl
  | cons p t ih =>
    intro f hf
    cases f with
    | zero => simp at hf
    | succ f =>
      have hp := h p List.mem_cons_self
      have hn : ∀ b, (textL t)[0]? = some b → notLr b = false := by
        intro b hb
        rcases textL_first t b hb with rfl | rfl <;> decide
      obtain ⟨e1, e2⟩ := takeN p.1.toNat (textL t) hn
      have ht := ih (fun q hq => h q (List.mem_cons_of_mem _ hq)) f (by simpa using hf)
      have e : textL (p :: t) = (if p.2 < 0 then 108 else 114) :: (Lib.decDigits p.1.toNat ++ textL t) := by
        simp [textL, oneL]
      rw [e]
      have hr := read_dec p.1.toNat (by omega)
      obtain ⟨x, y⟩ := p
      simp only at *
      rcases hp.2.2 with rfl | rfl
      · simp only [parsN, e1, e2, ht, hr]
        simp
        omega
      · simp only [parsN, e1, e2, ht, hr]
        simp
        omega

theorem parsN_fuel : ∀ (f g : Nat) (t : List UInt8), t.length ≤ f → t.length ≤ g → parsN f t = parsN g t
  | f, g, [], _, _ => by cases f <;> cases g <;> rfl
  | 0, _, _ :: _, h, _ => by simp at h
  | _, 0, _ :: _, _, h => by simp at h
  | f + 1, g + 1, b :: t, hf, hg => by
    have hd : (t.dropWhile notLr).length ≤ t.length := (List.dropWhile_suffix notLr).length_le
    have h1 : t.length ≤ f := by simpa using hf
    have h2 : t.length ≤ g := by simpa using hg
    simp only [parsN]
    rw [parsN_fuel f g (t.dropWhile notLr) (by omega) (by omega)]
def pN (t : List UInt8) : Option (List (Int × Int)) := parsN t.length t
theorem pN_cons (b : UInt8) (t : List UInt8) : pN (b :: t) = if b = 108 ∨ b = 114 then (pN (t.dropWhile notLr)).map fun l => (readL (t.takeWhile notLr), if b = 108 then -1 else 1) :: l else none := by
  have hd : (t.dropWhile notLr).length ≤ t.length := (List.dropWhile_suffix notLr).length_le
  show parsN (t.length + 1) (b :: t) = _
  simp only [parsN]
  rw [parsN_fuel t.length (t.dropWhile notLr).length (t.dropWhile notLr) hd (Nat.le_refl _)]
  rfl
theorem pN_step {s : List UInt8} {m : List (Int × Int)} {b : UInt8} {t : List UInt8} (h : pN s = (pN (b :: t)).map (m ++ ·)) (hb : b = 108 ∨ b = 114) :
    pN s = (pN (t.dropWhile notLr)).map ((m ++ [(readL (t.takeWhile notLr), if b = 108 then -1 else 1)]) ++ ·) := by
  rw [h, pN_cons, if_pos hb]
  cases pN (t.dropWhile notLr) with
  | none => rfl
  | some l => simp
theorem pN_stop {s : List UInt8} {m : List (Int × Int)} {b : UInt8} {t : List UInt8} (h : pN s = (pN (b :: t)).map (m ++ ·)) (hb : ¬ (b = 108 ∨ b = 114)) : pN s = none := by
  rw [h, pN_cons, if_neg hb]; rfl
theorem take_endN (t : List UInt8) {j : Nat} (hj : j ≤ t.length) (ha : (t.take j).all notLr = true) (he : j = t.length ∨ notLr (t.getD j 0) = false) : t.takeWhile notLr = t.take j ∧ t.dropWhile notLr = t.drop j := by
  have hsp : t = t.take j ++ t.drop j := (List.take_append_drop j t).symm
  have h0 : ∀ b, (t.drop j)[0]? = some b → notLr b = false := by
    intro b hb
    rw [List.getElem?_drop, Nat.add_zero] at hb
    rcases he with rfl | he
    · rw [List.getElem?_eq_none (Nat.le_refl _)] at hb; cases hb
    · rw [List.getD_eq_getElem?_getD, hb] at he; exact he
  have ha' : ∀ b, b ∈ t.take j → notLr b = true := fun b hb => List.all_eq_true.mp ha b hb
  generalize t.take j = x at *
  generalize t.drop j = y at *
  subst hsp
  have e1 : y.takeWhile notLr = [] := by
    cases y with
    | nil => rfl
    | cons b r => rw [List.takeWhile_cons, h0 b rfl]; rfl
  have e2 : y.dropWhile notLr = y := by
    cases y with
    | nil => rfl
    | cons b r => rw [List.dropWhile_cons, h0 b rfl]; rfl
  rw [List.takeWhile_append_of_pos ha', List.dropWhile_append_of_pos ha', e1, e2]
  simp

/-- what the model reads -/
def qRod (s : List UInt8) : Option (Int × List (Int × Int)) :=
  if 100 < s.length then none else match splitL 64 s with
  | [a, b] => match pN b with
    | some l => if ciB (readL a) l = true ∧ txt 64 (readL a) l = s then some (readL a, l) else none
    | none => none
  | _ => none
/-- what the program reads -/
def progCir (s : List UInt8) : Option (Int × List (Int × Int)) :=
  match pRod 58 ((Lib.cut s [64]).1 ++ 58 :: (Lib.cut s [64]).2.1) with
  | some p => if ciB p.1 p.2 = true ∧ txt 64 p.1 p.2 = s then some p else none
  | none => none

theorem qRod_is {s : List UInt8} {L : Int} {l : List (Int × Int)} (h : qRod s = some (L, l)) : ciB L l = true ∧ txt 64 L l = s := by
  unfold qRod at h
  split at h
  · cases h
  split at h
  · split at h
    · split at h
      · rename_i hg; cases h; exact hg
      · cases h
    · cases h
  · cases h
theorem progCir_is {s : List UInt8} {L : Int} {l : List (Int × Int)} (h : progCir s = some (L, l)) : ciB L l = true ∧ txt 64 L l = s := by
  unfold progCir at h
  split at h
  · split at h
    · rename_i hg; cases h; exact hg
    · cases h
  · cases h
theorem qRod_txt {L : Int} {l : List (Int × Int)} (h : ciB L l = true) : qRod (txt 64 L l) = some (L, l) := by
  obtain ⟨h0, h1, h2, h3⟩ := goodB_is (ciB_good h)
  have hlen := txt_len (c := 64) (ciB_good h)
  have hsp : splitL 64 (txt 64 L l) = [Lib.decDigits L.toNat, textL l] := by
    show splitL 64 (Lib.decDigits L.toNat ++ 64 :: textL l) = _
    rw [split_mark 64 _ _ (dec_no mark64 _), split_none 64 _ (textL_no mark64 l)]
  have hpm : pN (textL l) = some l := parsN_text l (fun p hp => ⟨(h3 p hp).1, by have := (h3 p hp).2.1; omega, (h3 p hp).2.2⟩) _ (textL_big l)
  have hr : readL (Lib.decDigits L.toNat) = L := by rw [read_dec _ (by omega)]; omega
  unfold qRod
  rw [if_neg (by omega), hsp]
  simp only [hpm, hr]
  rw [if_pos ⟨h, trivial⟩]
theorem progCir_txt {L : Int} {l : List (Int × Int)} (h : ciB L l = true) : progCir (txt 64 L l) = some (L, l) := by
  have hcut : Lib.cut (txt 64 L l) [64] = (Lib.decDigits L.toNat, textL l, true) := cut_mark 64 _ _ (dec_no mark64 _)
  have hp : pRod 58 (Lib.decDigits L.toNat ++ 58 :: textL l) = some (L, l) := pRod_txt mark58 (ciB_good h)
  unfold progCir
  rw [hcut]
  simp only [hp]
  rw [if_pos ⟨h, trivial⟩]
theorem cir_same (s : List UInt8) : progCir s = qRod s := by
  cases h : qRod s with
  | some p =>
    obtain ⟨L, l⟩ := p
    obtain ⟨hg, rfl⟩ := qRod_is h
    exact progCir_txt hg
  | none =>
    cases h2 : progCir s with
    | none => rfl
    | some p =>
      obtain ⟨L, l⟩ := p
      obtain ⟨hg, rfl⟩ := progCir_is h2
      rw [qRod_txt hg] at h
      cases h

def qL (s : List UInt8) : Int := ((qRod s).map (·.1)).getD 0
def qA (s : List UInt8) : List (Int × Int) := ((qRod s).map (·.2)).getD []
def qOk (s : List UInt8) : Bool := (qRod s).isSome
theorem q_none {s : List UInt8} (h : qRod s = none) : qL s = 0 ∧ qA s = [] ∧ qOk s = false := by unfold qL qA qOk; rw [h]; exact ⟨rfl, rfl, rfl⟩
theorem q_some {s : List UInt8} {L : Int} {l : List (Int × Int)} (h : qRod s = some (L, l)) : qL s = L ∧ qA s = l ∧ qOk s = true := by unfold qL qA qOk; rw [h]; exact ⟨rfl, rfl, rfl⟩
theorem qA_len (s : List UInt8) : (qA s).length ≤ 16 := by
  cases h : qRod s with
  | none => rw [(q_none h).2.1]; simp
  | some p =>
    obtain ⟨L, l⟩ := p
    rw [(q_some h).2.1]
    exact (goodB_is (ciB_good (qRod_is h).1)).2.2.1
theorem cirT_list {L : Int} {l : List (Int × Int)} (h : ciB L l = true) : (cirT L l).data.toList = txt 64 L l := by
  unfold cirT
  rw [h, if_pos rfl, textOn_list, ByteArray.data_append, Array.toList_append, List.append_assoc]
  rfl
end Go.Proofs.YtpchgmcegholoaaDoor
