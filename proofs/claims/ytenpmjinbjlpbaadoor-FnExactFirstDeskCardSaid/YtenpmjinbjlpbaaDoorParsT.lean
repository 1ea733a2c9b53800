/- What the program reads (progRod: Cut, Atoi, parseAnts, and the text told again must be the one read) is what the model reads (pRod). Mathematics. -/
import Derived.Test.YtenpmjinbjlpbaaDoorParsO
namespace Go.Proofs.YtenpmjinbjlpbaaDoor
open Go.RowKit

theorem goodB_is {L : Int} {l : List (Int × Int)} (h : goodB L l = true) : 0 ≤ L ∧ L ≤ 1000 ∧ l.length ≤ 16 ∧ ∀ p, p ∈ l → 0 ≤ p.1 ∧ p.1 ≤ 1000 ∧ (p.2 = -1 ∨ p.2 = 1) := by
  unfold goodB at h
  rw [Bool.and_eq_true] at h
  obtain ⟨h1, h2⟩ := h
  obtain ⟨a, b, _, d⟩ := (hdr_iff L l.length).1 h1
  refine ⟨by omega, b, by omega, fun p hp => ?_⟩
  obtain ⟨k, hk, rfl⟩ := List.mem_iff_getElem.1 hp
  have h3 := List.all_eq_true.1 h2 k (List.mem_range.2 hk)
  unfold okAt isAntB at h3
  rw [List.getD_eq_getElem?_getD, List.getElem?_eq_getElem hk] at h3
  simp at h3
  obtain ⟨⟨⟨⟨e1, e2⟩, _⟩, e3⟩, _⟩ := h3
  exact ⟨e1, by omega, e3⟩

def txt (c : UInt8) (L : Int) (l : List (Int × Int)) : List UInt8 := Lib.decDigits L.toNat ++ c :: textL l

theorem dec_len4 (u : Nat) (h : u ≤ 1000) : (Lib.decDigits u).length ≤ 4 := by
  rw [Lib.decDigits_length]; exact nDigits_le 4 u (by omega) (by omega)
theorem textL_len (l : List (Int × Int)) (h : ∀ p, p ∈ l → 0 ≤ p.1 ∧ p.1 ≤ 1000 ∧ (p.2 = -1 ∨ p.2 = 1)) : (textL l).length ≤ 5 * l.length := by
  induction l with
  | nil => simp [textL]
  | cons p t ih =>
    have h1 := ih fun q hq => h q (List.mem_cons_of_mem _ hq)
    have h2 := dec_len4 p.1.toNat (by have := (h p List.mem_cons_self).2.1; omega)
    show (oneL p ++ textL t).length ≤ _
    rw [List.length_append, List.length_cons]
    have h3 : (oneL p).length = (Lib.decDigits p.1.toNat).length + 1 := rfl
    omega
theorem textL_big (l : List (Int × Int)) : l.length ≤ (textL l).length := by
  induction l with
  | nil => simp
  | cons p t ih =>
    show _ ≤ (oneL p ++ textL t).length
    rw [List.length_append, List.length_cons]
    have h3 : (oneL p).length = (Lib.decDigits p.1.toNat).length + 1 := rfl
    omega

/-- a mark of a text: no digit and no letter -/
def isMark (c : UInt8) : Prop := digB c = false ∧ c ≠ 108 ∧ c ≠ 114
theorem mark58 : isMark 58 := ⟨by decide, by decide, by decide⟩
theorem mark64 : isMark 64 := ⟨by decide, by decide, by decide⟩
theorem dec_no {c : UInt8} (hc : isMark c) (u : Nat) : ∀ b, b ∈ Lib.decDigits u → b ≠ c := fun b hb e => by
  have := dec_mem hb; rw [e, hc.1] at this; cases this
theorem textL_no {c : UInt8} (hc : isMark c) (l : List (Int × Int)) : ∀ b, b ∈ textL l → b ≠ c := fun b hb e => by
  rcases textL_mem hb with h | h | h
  · rw [e, hc.1] at h; cases h
  · exact hc.2.1 (e ▸ h)
  · exact hc.2.2 (e ▸ h)

theorem txt_len {c : UInt8} {L : Int} {l : List (Int × Int)} (h : goodB L l = true) : (txt c L l).length ≤ 85 := by
  obtain ⟨h0, h1, h2, h3⟩ := goodB_is h
  have a := dec_len4 L.toNat (by omega)
  have b := textL_len l h3
  unfold txt
  rw [List.length_append, List.length_cons]
  omega

theorem pRod_txt {c : UInt8} (hc : isMark c) {L : Int} {l : List (Int × Int)} (h : goodB L l = true) : pRod c (txt c L l) = some (L, l) := by
  obtain ⟨h0, h1, h2, h3⟩ := goodB_is h
  have hlen := txt_len (c := c) h
  have hsp : splitL c (txt c L l) = [Lib.decDigits L.toNat, textL l] := by
    unfold txt
    rw [split_mark c _ _ (dec_no hc _), split_none c _ (textL_no hc l)]
  have hpm : pM (textL l) = some l := parsM_text l (fun p hp => ⟨(h3 p hp).1, by have := (h3 p hp).2.1; omega, (h3 p hp).2.2⟩) _ (textL_big l)
  have hr : readL (Lib.decDigits L.toNat) = L := by rw [read_dec _ (by omega)]; omega
  unfold pRod
  rw [if_neg (by omega), hsp]
  simp only [hpm, hr, h, if_true]

theorem pRod_is {c : UInt8} {s : List UInt8} {L : Int} {l : List (Int × Int)} (h : pRod c s = some (L, l)) : goodB L l = true ∧ s = txt c L l := by
  unfold pRod at h
  split at h
  · cases h
  split at h
  · rename_i a b hab
    split at h
    · rename_i m hm
      split at h
      · rename_i hg
        simp only [Option.some.injEq, Prod.mk.injEq] at h
        obtain ⟨rfl, rfl⟩ := h
        obtain ⟨h0, _, _, h3⟩ := goodB_is hg
        refine ⟨hg, ?_⟩
        have e1 := readL_dec h0
        have e2 := (text_parsM _ b m hm fun p hp => (h3 p hp).1).1
        unfold txt
        rw [e1, ← e2]
        exact split_two c s a b hab
      · cases h
    · cases h
  · cases h

/-- the program's parseAnts, and its ParseRod -/
def pP (s : List UInt8) : Option (List (Int × Int)) := parsP s.length 0 s
def progRod (c : UInt8) (s : List UInt8) : Option (Int × List (Int × Int)) :=
  match Lib.atoiAll (Lib.cut s [c]).1, pP (Lib.cut s [c]).2.1 with
  | .ok L, some l => if goodB L l = true ∧ txt c L l = s then some (L, l) else none
  | _, _ => none

theorem progRod_txt {c : UInt8} (hc : isMark c) {L : Int} {l : List (Int × Int)} (h : goodB L l = true) : progRod c (txt c L l) = some (L, l) := by
  obtain ⟨h0, h1, h2, h3⟩ := goodB_is h
  have hcut : Lib.cut (txt c L l) [c] = (Lib.decDigits L.toNat, textL l, true) := cut_mark c _ _ (dec_no hc _)
  have ha : Lib.atoiAll (Lib.decDigits L.toNat) = .ok L := by rw [atoi_dec _ (by omega)]; congr 1; omega
  have hp : pP (textL l) = some l := parsP_text l (fun p hp => ⟨(h3 p hp).1, by have := (h3 p hp).2.1; omega, (h3 p hp).2.2⟩) _ 0 (textL_big l) (by omega)
  unfold progRod
  rw [hcut]
  simp only [ha, hp]
  rw [if_pos ⟨h, trivial⟩]

theorem progRod_is {c : UInt8} {s : List UInt8} {L : Int} {l : List (Int × Int)} (h : progRod c s = some (L, l)) : goodB L l = true ∧ s = txt c L l := by
  unfold progRod at h
  split at h
  · split at h
    · rename_i hg
      simp only [Option.some.injEq, Prod.mk.injEq] at h
      obtain ⟨rfl, rfl⟩ := h
      exact ⟨hg.1, hg.2.symm⟩
    · cases h
  · cases h

theorem prog_model {c : UInt8} (hc : isMark c) (s : List UInt8) : progRod c s = pRod c s := by
  cases h : pRod c s with
  | some p =>
    obtain ⟨L, l⟩ := p
    obtain ⟨hg, rfl⟩ := pRod_is h
    exact progRod_txt hc hg
  | none =>
    cases h2 : progRod c s with
    | none => rfl
    | some p =>
      obtain ⟨L, l⟩ := p
      obtain ⟨hg, rfl⟩ := progRod_is h2
      rw [pRod_txt hc hg] at h
      cases h

/-! parseAnts told without fuel -/
theorem parsP_fuel : ∀ (f g k : Nat) (t : List UInt8), t.length ≤ f → t.length ≤ g → parsP f k t = parsP g k t
  | f, g, _, [], _, _ => by cases f <;> cases g <;> rfl
  | 0, _, _, _ :: _, h, _ => by simp at h
  | _, 0, _, _ :: _, _, h => by simp at h
  | f + 1, g + 1, k, b :: t, hf, hg => by
    have hd : (t.dropWhile notLr).length ≤ t.length := (List.dropWhile_suffix notLr).length_le
    have h1 : t.length ≤ f := by simpa using hf
    have h2 : t.length ≤ g := by simpa using hg
    simp only [parsP]
    rw [parsP_fuel f g (k + 1) (t.dropWhile notLr) (by omega) (by omega)]

end Go.Proofs.YtenpmjinbjlpbaaDoor
