/- Texts of rods and circles as rows of bytes: reading gives back what was written, and what is read was written. No dump is read here. -/
import Derived.Lib.ItoaNum
import Derived.Lib.AtoiAll
import Derived.Lib.IndexMore
import Derived.Lib.IndexAny
namespace Go.Proofs.YtenpmjinbjlpbaaDoor

def digB (b : UInt8) : Bool := decide (48 ≤ b.toNat ∧ b.toNat ≤ 57)
def valF (n : Nat) (b : UInt8) : Nat := 10 * n + (b.toNat - 48)
def valL (l : List UInt8) : Nat := l.foldl valF 0

theorem dig_of (d : Nat) (h : d < 10) : (UInt8.ofNat (48 + d)).toNat = 48 + d := by
  rw [UInt8.toNat_ofNat']; omega
theorem of_dig {b : UInt8} (h : digB b = true) : b = UInt8.ofNat (48 + (b.toNat - 48)) := by
  have h' := of_decide_eq_true h
  apply UInt8.toNat_inj.mp
  rw [UInt8.toNat_ofNat']; omega
theorem digB_of (d : Nat) (h : d < 10) : digB (UInt8.ofNat (48 + d)) = true := by
  unfold digB; rw [dig_of d h]; exact decide_eq_true (by omega)

theorem dec_small {u : Nat} (h : u < 10) : Lib.decDigits u = [UInt8.ofNat (48 + u)] := by rw [Lib.decDigits, dif_pos h]
theorem dec_big {u : Nat} (h : ¬ u < 10) : Lib.decDigits u = Lib.decDigits (u / 10) ++ [UInt8.ofNat (48 + u % 10)] := by rw [Lib.decDigits, dif_neg h]

theorem dec_all (u : Nat) : (Lib.decDigits u).all digB = true := by
  induction u using Nat.strongRecOn with
  | _ u ih =>
    by_cases h : u < 10
    · rw [dec_small h]; show (digB _ && true) = true; rw [digB_of u h]; rfl
    · rw [dec_big h, List.all_append, ih (u / 10) (by omega)]; show (true && (digB _ && true)) = true; rw [digB_of (u % 10) (by omega)]; rfl

theorem valL_snoc (l : List UInt8) (b : UInt8) : valL (l ++ [b]) = 10 * valL l + (b.toNat - 48) := by
  unfold valL; rw [List.foldl_append]; rfl

theorem dec_val (u : Nat) : valL (Lib.decDigits u) = u := by
  induction u using Nat.strongRecOn with
  | _ u ih =>
    by_cases h : u < 10
    · rw [dec_small h]; show valF 0 _ = u; unfold valF; rw [dig_of u h]; omega
    · rw [dec_big h, valL_snoc, ih (u / 10) (by omega), dig_of _ (by omega)]; omega

theorem dec_ne (u : Nat) : Lib.decDigits u ≠ [] := by
  intro h
  have := Lib.decDigits_length u
  have := Lib.nDigits_pos u
  rw [h] at *; simp at *; omega

theorem dec_first (u : Nat) (h : u ≠ 0) : (Lib.decDigits u)[0]? ≠ some 48 := by
  induction u using Nat.strongRecOn with
  | _ u ih =>
    by_cases h' : u < 10
    · rw [dec_small h']
      intro e
      have e' : UInt8.ofNat (48 + u) = 48 := by simpa using e
      have := dig_of u h'
      rw [e'] at this
      have e3 : (48 : UInt8).toNat = 48 := rfl
      omega
    · rw [dec_big h']
      intro e
      have hl : 0 < (Lib.decDigits (u / 10)).length := List.length_pos_iff.mpr (dec_ne _)
      rw [List.getElem?_append_left hl] at e
      exact ih (u / 10) (by omega) (by omega) e

theorem nDigits_le (k : Nat) : ∀ u : Nat, u < 10 ^ k → 1 ≤ k → Lib.nDigits u ≤ k := by
  induction k with
  | zero => intro u _ h; omega
  | succ k ih =>
    intro u hu _
    by_cases h : u < 10
    · rw [Lib.nDigits_small h]; omega
    · rw [Lib.nDigits_big h]
      have h2 : u / 10 < 10 ^ k := by rw [Nat.pow_succ] at hu; omega
      rcases Nat.eq_zero_or_pos k with rfl | hk
      · simp at h2; omega
      · have := ih (u / 10) h2 hk; omega

/-- l1Read: a number of one to six digits, written as numbers are; else -1. -/
def readOk (l : List UInt8) : Bool := decide (1 ≤ l.length ∧ l.length ≤ 6) && !(decide (l[0]? = some 48) && decide (1 < l.length)) && l.all digB
def readL (l : List UInt8) : Int := if readOk l then (valL l : Int) else -1

theorem dec_readOk (u : Nat) (h : u < 1000000) : readOk (Lib.decDigits u) = true := by
  unfold readOk
  have h1 := Lib.decDigits_length u
  have h2 := Lib.nDigits_pos u
  have h3 := nDigits_le 6 u (by simpa using h) (by omega)
  rw [dec_all]
  by_cases hu : u < 10
  · rw [dec_small hu]; simp
  · have := dec_first u (by omega)
    simp only [this, decide_false, Bool.false_and, Bool.not_false, Bool.and_true]
    exact decide_eq_true (by omega)

theorem read_dec (u : Nat) (h : u < 1000000) : readL (Lib.decDigits u) = u := by
  unfold readL; rw [if_pos (dec_readOk u h), dec_val]

/-- Digits that are written as numbers are: the number's own. -/
theorem all_dec (n : Nat) : ∀ l : List UInt8, l.length = n → l ≠ [] → (l[0]? = some 48 → l.length = 1) → l.all digB = true → Lib.decDigits (valL l) = l ∧ (l[0]? ≠ some 48 → valL l ≠ 0) := by
  induction n with
  | zero => intro l hl hn; exact absurd (List.length_eq_zero_iff.mp hl) hn
  | succ n ih =>
    intro l hl hn h0 hd
    obtain ⟨a, b, rfl⟩ : ∃ a b, l = a ++ [b] := ⟨l.dropLast, l.getLast hn, (List.dropLast_concat_getLast hn).symm⟩
    rw [List.all_append, Bool.and_eq_true] at hd
    have hb : digB b = true := by simpa using hd.2
    have hb' := of_decide_eq_true hb
    have hob := of_dig hb
    by_cases ha : a = []
    · subst ha
      rw [valL_snoc]
      have e0 : valL [] = 0 := rfl
      refine ⟨?_, ?_⟩
      · rw [e0, dec_small (by omega)]
        have : 48 + (10 * 0 + (b.toNat - 48)) = 48 + (b.toNat - 48) := by omega
        rw [this, ← hob]; rfl
      · intro hne hz
        apply hne
        rw [e0] at hz
        have : b.toNat = 48 := by omega
        have e : b = 48 := UInt8.toNat_inj.mp this
        simp [e]
    · have hpos : 0 < a.length := List.length_pos_iff.mpr ha
      have hg : (a ++ [b])[0]? = a[0]? := List.getElem?_append_left hpos
      have hne : a[0]? ≠ some 48 := by
        intro e
        have := h0 (hg.trans e)
        rw [List.length_append] at this
        have h1 : a.length + 1 = 1 := this
        omega
      obtain ⟨i1, i2⟩ := ih a (by rw [List.length_append] at hl; simp at hl; omega) ha (fun e => absurd e hne) hd.1
      have hv := i2 hne
      rw [valL_snoc]
      refine ⟨?_, fun _ => by omega⟩
      rw [dec_big (u := 10 * valL a + (b.toNat - 48)) (by omega)]
      have e1 : (10 * valL a + (b.toNat - 48)) / 10 = valL a := by omega
      have e2 : (10 * valL a + (b.toNat - 48)) % 10 = b.toNat - 48 := by omega
      rw [e1, e2, i1, ← hob]

theorem readOk_dec {l : List UInt8} (h : readOk l = true) : Lib.decDigits (valL l) = l := by
  unfold readOk at h
  rw [Bool.and_eq_true, Bool.and_eq_true] at h
  obtain ⟨⟨h1, h2⟩, h3⟩ := h
  have h1' := of_decide_eq_true h1
  refine (all_dec l.length l rfl (by intro e; rw [e] at h1'; simp at h1') ?_ h3).1
  intro e
  rw [e] at h2
  simp at h2
  omega
theorem readL_dec {l : List UInt8} (h : 0 ≤ readL l) : Lib.decDigits (readL l).toNat = l := by
  unfold readL at *
  split
  · rename_i hk; rw [Int.toNat_natCast]; exact readOk_dec hk
  · rename_i hk; rw [if_neg hk] at h; omega

/-- One ant's text, and the text of ants. -/
def oneL (p : Int × Int) : List UInt8 := (if p.2 < 0 then 108 else 114) :: Lib.decDigits p.1.toNat
def textL (l : List (Int × Int)) : List UInt8 := l.flatMap oneL

theorem takeD (u : Nat) (r : List UInt8) (h : ∀ b, r[0]? = some b → digB b = false) : (Lib.decDigits u ++ r).takeWhile digB = Lib.decDigits u ∧ (Lib.decDigits u ++ r).dropWhile digB = r := by
  have ha := dec_all u
  rw [List.all_eq_true] at ha
  have e1 : r.takeWhile digB = [] := by
    cases r with
    | nil => rfl
    | cons b t => rw [List.takeWhile_cons, h b rfl]; rfl
  have e2 : r.dropWhile digB = r := by
    cases r with
    | nil => rfl
    | cons b t => rw [List.dropWhile_cons, h b rfl]; rfl
  rw [List.takeWhile_append_of_pos ha, List.dropWhile_append_of_pos ha, e1, e2]
  simp

theorem textL_first (l : List (Int × Int)) (b : UInt8) (h : (textL l)[0]? = some b) : b = 108 ∨ b = 114 := by
  cases l with
  | nil => simp [textL] at h
  | cons p t =>
    simp only [textL, List.flatMap_cons, oneL, List.cons_append, List.getElem?_cons_zero, Option.some.injEq] at h
    rw [← h]; split <;> simp

/-- The model's loop: letter, digits, on. -/
def parsM : Nat → List UInt8 → Option (List (Int × Int))
  | _, [] => some []
  | 0, _ => none
  | f + 1, b :: t => if b = 108 ∨ b = 114 then (parsM f (t.dropWhile digB)).map fun l => (readL (t.takeWhile digB), if b = 108 then -1 else 1) :: l else none

theorem parsM_text (l : List (Int × Int)) (h : ∀ p, p ∈ l → 0 ≤ p.1 ∧ p.1 < 1000000 ∧ (p.2 = -1 ∨ p.2 = 1)) : ∀ f, l.length ≤ f → parsM f (textL l) = some l := by
  induction l with
  | nil => intro f _; cases f <;> rfl
  | cons p t ih =>
    intro f hf
    cases f with
    | zero => simp at hf
    | succ f =>
      have hp := h p List.mem_cons_self
      have hn : ∀ b, (textL t)[0]? = some b → digB b = false := by
        intro b hb
        rcases textL_first t b hb with rfl | rfl <;> decide
      obtain ⟨e1, e2⟩ := takeD p.1.toNat (textL t) hn
      have ht := ih (fun q hq => h q (List.mem_cons_of_mem _ hq)) f (by simpa using hf)
      have e : textL (p :: t) = (if p.2 < 0 then 108 else 114) :: (Lib.decDigits p.1.toNat ++ textL t) := by
        simp [textL, oneL]
      rw [e]
      have hr := read_dec p.1.toNat (by omega)
      obtain ⟨x, y⟩ := p
      simp only at *
      rcases hp.2.2 with rfl | rfl
      · simp only [parsM, e1, e2, ht, hr]
        simp
        omega
      · simp only [parsM, e1, e2, ht, hr]
        simp
        omega

theorem text_parsM (f : Nat) : ∀ (s : List UInt8) (l : List (Int × Int)), parsM f s = some l → (∀ p, p ∈ l → 0 ≤ p.1) → s = textL l ∧ ∀ p, p ∈ l → p.2 = -1 ∨ p.2 = 1 := by
  induction f with
  | zero =>
    intro s l h _
    cases s with
    | nil => simp only [parsM, Option.some.injEq] at h; subst h; exact ⟨rfl, fun p hp => by simp at hp⟩
    | cons b t => simp [parsM] at h
  | succ f ih =>
    intro s l h hl
    cases s with
    | nil => simp only [parsM, Option.some.injEq] at h; subst h; exact ⟨rfl, fun p hp => by simp at hp⟩
    | cons b t =>
      simp only [parsM] at h
      split at h
      · rename_i hb
        rw [Option.map_eq_some_iff] at h
        obtain ⟨r, hr, rfl⟩ := h
        obtain ⟨i1, i2⟩ := ih _ r hr (fun p hp => hl p (List.mem_cons_of_mem _ hp))
        have h0 : 0 ≤ readL (t.takeWhile digB) := hl _ List.mem_cons_self
        have hd := readL_dec h0
        refine ⟨?_, ?_⟩
        · have e : textL ((readL (t.takeWhile digB), if b = 108 then -1 else 1) :: r) = b :: (t.takeWhile digB ++ t.dropWhile digB) := by
            have hd' : Lib.decDigits (readL (t.takeWhile digB)).toNat = t.takeWhile digB := hd
            simp only [textL, List.flatMap_cons, oneL, hd', List.cons_append]
            have i1' : List.flatMap oneL r = t.dropWhile digB := i1.symm
            rw [i1']
            rcases hb with rfl | rfl <;> rfl
          rw [e, List.takeWhile_append_dropWhile]
        · intro p hp
          rcases List.mem_cons.mp hp with rfl | hp
          · rcases hb with rfl | rfl
            · exact Or.inl rfl
            · exact Or.inr rfl
          · exact i2 p hp
      · cases h

/-- A numeral holds digits only: none of the letters, none of the marks. -/
theorem dec_mem {u : Nat} {b : UInt8} (h : b ∈ Lib.decDigits u) : digB b = true := List.all_eq_true.mp (dec_all u) b h
theorem textL_mem {l : List (Int × Int)} {b : UInt8} (h : b ∈ textL l) : digB b = true ∨ b = 108 ∨ b = 114 := by
  obtain ⟨p, _, hp⟩ := List.mem_flatMap.mp h
  rcases List.mem_cons.mp hp with rfl | hp
  · right; split <;> simp
  · exact Or.inl (dec_mem hp)

/-! The program's reading. -/

theorem fold_ge (l : List UInt8) : ∀ acc, acc ≤ l.foldl valF acc := by
  induction l with
  | nil => intro acc; exact Nat.le_refl _
  | cons b t ih =>
    intro acc
    have := ih (valF acc b)
    have h : acc ≤ valF acc b := by unfold valF; omega
    exact Nat.le_trans h this

theorem uint_fold (l : List UInt8) : ∀ acc, l.all digB = true → l.foldl valF acc < 1000000 → Lib.parseUint10 acc l = .ok (l.foldl valF acc) := by
  induction l with
  | nil => intro acc _ _; rfl
  | cons b t ih =>
    intro acc hd hb
    rw [List.all_cons, Bool.and_eq_true] at hd
    have hb1 := of_decide_eq_true hd.1
    have hge := fold_ge t (valF acc b)
    have hv : valF acc b = acc * 10 + (b.toNat - 48) := by unfold valF; omega
    have hlt : (t.foldl valF (valF acc b)) < 1000000 := hb
    rw [Lib.parseUint10, if_pos hb1, if_neg (by omega), if_neg (by omega), ← hv]
    exact ih _ hd.2 hlt

theorem atoi_dec (u : Nat) (h : u < 1000000) : Lib.atoiAll (Lib.decDigits u) = .ok (u : Int) := by
  have ha := dec_all u
  have hv : (Lib.decDigits u).foldl valF 0 = u := dec_val u
  have hp : Lib.parseMag (Lib.decDigits u) = .ok u := by
    unfold Lib.parseMag
    rw [if_neg (dec_ne u), uint_fold _ 0 ha (by omega), hv]
  generalize e : Lib.decDigits u = l at *
  cases l with
  | nil => exact absurd e (dec_ne u)
  | cons c r =>
    rw [List.all_cons, Bool.and_eq_true] at ha
    have hc := of_decide_eq_true ha.1
    have e1 : ¬ (c.toNat = 43 ∨ c.toNat = 45) := by omega
    have e2 : ¬ c.toNat = 45 := by omega
    simp only [Lib.atoiAll, if_neg e1, hp]
    rw [if_neg (by omega), if_neg (by omega), if_neg e2]

def notLr (b : UInt8) : Bool := !([108, 114] : List UInt8).contains b

theorem idx_split (t : List UInt8) : (Lib.indexAny t [108, 114] = -1 ∧ t.takeWhile notLr = t ∧ t.dropWhile notLr = []) ∨ (∃ i : Nat, Lib.indexAny t [108, 114] = i ∧ i ≤ t.length ∧ t.takeWhile notLr = t.take i ∧ t.dropWhile notLr = t.drop i) := by
  induction t with
  | nil => exact Or.inl ⟨rfl, rfl, rfl⟩
  | cons b r ih =>
    cases hb : ([108, 114] : List UInt8).contains b with
    | true =>
      have hn : notLr b = false := by unfold notLr; rw [hb]; rfl
      refine Or.inr ⟨0, ?_, Nat.zero_le _, ?_, ?_⟩
      · unfold Lib.indexAny; rw [if_pos hb]; rfl
      · rw [List.takeWhile_cons, hn]; rfl
      · rw [List.dropWhile_cons, hn]; rfl
    | false =>
      have hn : notLr b = true := by unfold notLr; rw [hb]; rfl
      have hnb : ¬ ([108, 114] : List UInt8).contains b = true := by rw [hb]; exact Bool.false_ne_true
      rcases ih with ⟨h1, h2, h3⟩ | ⟨i, h1, h2, h3, h4⟩
      · refine Or.inl ⟨?_, ?_, ?_⟩
        · unfold Lib.indexAny; rw [if_neg hnb, h1]; rfl
        · rw [List.takeWhile_cons, hn, h2]; rfl
        · rw [List.dropWhile_cons, hn]; exact h3
      · refine Or.inr ⟨i + 1, ?_, by simpa using h2, ?_, ?_⟩
        · unfold Lib.indexAny
          rw [if_neg hnb, h1]
          have : ((i : Int) == -1) = false := by rw [beq_eq_false_iff_ne]; omega
          rw [this]; rfl
        · rw [List.takeWhile_cons, hn, h3]; rfl
        · rw [List.dropWhile_cons, hn]; exact h4

/-- The program's loop: letter, what stands before the next letter, on; at most MaxAnts ants. -/
def parsP : Nat → Nat → List UInt8 → Option (List (Int × Int))
  | _, _, [] => some []
  | 0, _, _ => none
  | f + 1, k, b :: t => match Lib.atoiAll (t.takeWhile notLr) with
    | .ok v => if (b = 108 ∨ b = 114) ∧ k < 16 then (parsP f (k + 1) (t.dropWhile notLr)).map fun l => (v, if b = 108 then -1 else 1) :: l else none
    | _ => none

theorem dig_notLr {b : UInt8} (h : digB b = true) : notLr b = true := by
  have h' := of_decide_eq_true h
  unfold notLr
  have n1 : b ≠ 108 := by intro e; subst e; have : (108 : UInt8).toNat = 108 := rfl; omega
  have n2 : b ≠ 114 := by intro e; subst e; have : (114 : UInt8).toNat = 114 := rfl; omega
  simp [n1, n2]

theorem takeN (u : Nat) (r : List UInt8) (h : ∀ b, r[0]? = some b → notLr b = false) : (Lib.decDigits u ++ r).takeWhile notLr = Lib.decDigits u ∧ (Lib.decDigits u ++ r).dropWhile notLr = r := by
  have ha : ∀ b, b ∈ Lib.decDigits u → notLr b = true := fun b hb => dig_notLr (dec_mem hb)
  have e1 : r.takeWhile notLr = [] := by
    cases r with
    | nil => rfl
    | cons b t => rw [List.takeWhile_cons, h b rfl]; rfl
  have e2 : r.dropWhile notLr = r := by
    cases r with
    | nil => rfl
    | cons b t => rw [List.dropWhile_cons, h b rfl]; rfl
  rw [List.takeWhile_append_of_pos ha, List.dropWhile_append_of_pos ha, e1, e2]
  simp

theorem parsP_text (l : List (Int × Int)) (h : ∀ p, p ∈ l → 0 ≤ p.1 ∧ p.1 < 1000000 ∧ (p.2 = -1 ∨ p.2 = 1)) : ∀ f k, l.length ≤ f → k + l.length ≤ 16 → parsP f k (textL l) = some l := by
  induction l with
  | nil => intro f k _ _; cases f <;> rfl
  | cons p t ih =>
    intro f k hf hk
    cases f with
    | zero => simp at hf
    | succ f =>
      have hp := h p List.mem_cons_self
      have hk' : k + (t.length + 1) ≤ 16 := hk
      have hf' : t.length + 1 ≤ f + 1 := hf
      have hn : ∀ b, (textL t)[0]? = some b → notLr b = false := by
        intro b hb
        rcases textL_first t b hb with rfl | rfl <;> decide
      obtain ⟨e1, e2⟩ := takeN p.1.toNat (textL t) hn
      have ht := ih (fun q hq => h q (List.mem_cons_of_mem _ hq)) f (k + 1) (by omega) (by omega)
      have e : textL (p :: t) = (if p.2 < 0 then 108 else 114) :: (Lib.decDigits p.1.toNat ++ textL t) := by
        simp [textL, oneL]
      rw [e]
      have hr := atoi_dec p.1.toNat (by omega)
      have hc : ((p.1.toNat : Nat) : Int) = p.1 := by omega
      rw [hc] at hr
      have hk2 : k < 16 := by omega
      obtain ⟨x, y⟩ := p
      simp only at *
      rcases hp.2.2 with rfl | rfl
      · simp only [parsP, e1, e2, ht, hr]
        simp [hk2]
      · simp only [parsP, e1, e2, ht, hr]
        simp [hk2]

/-! The mark between the length and the ants. -/

theorem index_mark (c : UInt8) (a r : List UInt8) (h : ∀ b, b ∈ a → b ≠ c) : Lib.index (a ++ c :: r) [c] = a.length := by
  induction a with
  | nil =>
    show Lib.index (c :: r) [c] = 0
    unfold Lib.index
    rw [if_pos (by simp)]
  | cons b t ih =>
    have hb := h b List.mem_cons_self
    show Lib.index (b :: (t ++ c :: r)) [c] = _
    unfold Lib.index
    have hp : ¬ ([c] : List UInt8).isPrefixOf (b :: (t ++ c :: r)) = true := by
      simp [List.isPrefixOf, Ne.symm hb]
    rw [if_neg hp, ih (fun b hb => h b (List.mem_cons_of_mem _ hb))]
    have : ((t.length : Int) == -1) = false := by rw [beq_eq_false_iff_ne]; omega
    rw [this]; rfl

theorem cut_mark (c : UInt8) (a r : List UInt8) (h : ∀ b, b ∈ a → b ≠ c) : Lib.cut (a ++ c :: r) [c] = (a, r, true) := by
  unfold Lib.cut
  rw [index_mark c a r h, if_pos (by omega)]
  have e : (a.length : Int).toNat = a.length := Int.toNat_natCast _
  rw [e]
  simp [List.drop_append]

/-- l1Split: the parts between the marks. -/
def splitL (c : UInt8) : List UInt8 → List (List UInt8)
  | [] => [[]]
  | b :: t => if b = c then [] :: splitL c t else match splitL c t with
    | [] => [[b]]
    | h :: r => (b :: h) :: r

theorem split_ne (c : UInt8) : ∀ s, splitL c s ≠ []
  | [] => by simp [splitL]
  | b :: t => by
    simp only [splitL]
    split
    · simp
    · split <;> simp

theorem split_none (c : UInt8) : ∀ s : List UInt8, (∀ b, b ∈ s → b ≠ c) → splitL c s = [s]
  | [], _ => rfl
  | b :: t, h => by
    have hb := h b List.mem_cons_self
    simp only [splitL, if_neg hb, split_none c t (fun b hb => h b (List.mem_cons_of_mem _ hb))]

theorem split_mark (c : UInt8) (r : List UInt8) : ∀ a : List UInt8, (∀ b, b ∈ a → b ≠ c) → splitL c (a ++ c :: r) = a :: splitL c r
  | [], _ => by simp [splitL]
  | b :: t, h => by
    have hb := h b List.mem_cons_self
    simp only [List.cons_append, splitL, if_neg hb, split_mark c r t (fun b hb => h b (List.mem_cons_of_mem _ hb))]

/-- One part: no mark; two parts: one mark. -/
theorem split_one (c : UInt8) : ∀ s a, splitL c s = [a] → s = a
  | [], a, h => by simp [splitL] at h; exact h.symm
  | b :: t, a, h => by
    simp only [splitL] at h
    split at h
    · have := split_ne c t; simp at h; exact absurd h.2 this
    · split at h
      · rename_i h0; exact absurd h0 (split_ne c t)
      · rename_i x r h0
        simp only [List.cons.injEq] at h
        obtain ⟨h1, h2⟩ := h
        subst h2
        have := split_one c t x h0
        rw [← h1, this]

theorem split_two (c : UInt8) : ∀ s a r, splitL c s = [a, r] → s = a ++ c :: r
  | [], a, r, h => by simp [splitL] at h
  | b :: t, a, r, h => by
    simp only [splitL] at h
    split at h
    · rename_i hb
      simp only [List.cons.injEq] at h
      obtain ⟨h1, h2⟩ := h
      have := split_one c t r (by rw [h2])
      rw [← h1, hb, this]; rfl
    · split at h
      · rename_i h0; exact absurd h0 (split_ne c t)
      · rename_i x y h0
        simp only [List.cons.injEq] at h
        obtain ⟨h1, h2⟩ := h
        subst h2
        have := split_two c t x r h0
        rw [← h1, this]; rfl

/-- What the model's loop keeps: the parts so far and the one that is open. -/
theorem split_snoc (c b : UInt8) : ∀ (s : List UInt8) (o : List (List UInt8)) (x : List UInt8), splitL c s = o ++ [x] → splitL c (s ++ [b]) = if b = c then o ++ [x, []] else o ++ [x ++ [b]]
  | [], o, x, h => by
    have ho : o = [] ∧ x = [] := by
      cases o with
      | nil => simp [splitL] at h; exact ⟨rfl, h⟩
      | cons y o => simp [splitL] at h
    obtain ⟨rfl, rfl⟩ := ho
    simp only [List.nil_append, splitL]
  | a :: t, o, x, h => by
    obtain ⟨o', x', h'⟩ : ∃ o' x', splitL c t = o' ++ [x'] := ⟨(splitL c t).dropLast, (splitL c t).getLast (split_ne c t), (List.dropLast_concat_getLast _).symm⟩
    have ih := split_snoc c b t o' x' h'
    simp only [splitL, List.cons_append] at h ⊢
    by_cases ha : a = c
    · rw [if_pos ha] at h ⊢
      rw [h'] at h
      have e := List.append_inj' (show ([] :: o') ++ [x'] = o ++ [x] from h) rfl
      obtain ⟨e1, e2⟩ := e
      simp only [List.cons.injEq, and_true] at e2
      subst e2; subst e1
      rw [ih]
      split <;> rfl
    · rw [if_neg ha] at h ⊢
      rw [h'] at h
      cases o' with
      | nil =>
        simp only [List.nil_append] at h
        have e := List.append_inj' (show ([] : List (List UInt8)) ++ [a :: x'] = o ++ [x] from h) rfl
        obtain ⟨e1, e2⟩ := e
        simp only [List.cons.injEq, and_true] at e2
        subst e2; subst e1
        rw [ih]
        by_cases hb : b = c
        · simp only [if_pos hb]; rfl
        · simp only [if_neg hb]; rfl
      | cons y o' =>
        simp only [List.cons_append] at h
        have e := List.append_inj' (show ((a :: y) :: o') ++ [x'] = o ++ [x] from h) rfl
        obtain ⟨e1, e2⟩ := e
        simp only [List.cons.injEq, and_true] at e2
        subst e2; subst e1
        rw [ih]
        by_cases hb : b = c
        · simp only [if_pos hb]; rfl
        · simp only [if_neg hb]; rfl

end Go.Proofs.YtenpmjinbjlpbaaDoor
