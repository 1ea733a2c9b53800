/- Ants around a circle keep their order: each one's place with whole rounds counted, in plain lists. No dump is read here. -/
import Derived.Test.YtdoikeglaolipaaRun
namespace Go.Proofs.Ytdoikeglaolipaa
open Classical

/-- the pairs (a, b), b < a, that have been looked at -/
def PrK (i k a b : Nat) : Prop := b < a ∧ (a < i ∨ (a = i ∧ b < k))
def FlK (l : List (Int × Int)) (i k j : Nat) : Prop := ∃ o, ∃ x y : Int × Int, l[j]? = some x ∧ l[o]? = some y ∧ x.1 = y.1 ∧ (PrK i k j o ∨ PrK i k o j)
noncomputable def turned (l : List (Int × Int)) (i k j : Nat) (x : Int × Int) : Int × Int := (x.1, if FlK l i k j then -x.2 else x.2)
def Two (l : List (Int × Int)) : Prop := ∀ (a b c : Nat) (x y z : Int × Int), a ≠ b → b ≠ c → a ≠ c → l[a]? = some x → l[b]? = some y → l[c]? = some z → x.1 = y.1 → y.1 = z.1 → False
def InvK (l : List (Int × Int)) (i k : Nat) (s : List (Int × Int)) : Prop := s.length = l.length ∧ ∀ (j : Nat) (x : Int × Int), l[j]? = some x → s[j]? = some (turned l i k j x)
theorem flp_at {l : List (Int × Int)} {i : Nat} {x : Int × Int} (hx : l[i]? = some x) (j : Nat) : (flp l i)[j]? = if j = i then some (x.1, -x.2) else l[j]? := by
  unfold flp
  rw [List.getD_eq_getElem?_getD, hx]
  by_cases h : j = i
  · subst h
    rw [if_pos rfl, List.getElem?_set_self (List.getElem?_eq_some_iff.1 hx).1]
    rfl
  · rw [if_neg h, List.getElem?_set_ne (fun q => h q.symm)]
theorem trK_pt {l : List (Int × Int)} (ht : Two l) (i : Nat) (hi : i < l.length) (s : List (Int × Int)) (n : Nat) (h : InvK l i 0 s) : ∀ k, k ≤ i → InvK l i k (trK i k (s, n)).1
  | 0, _ => h
  | k + 1, hk => by
    obtain ⟨h1, h2⟩ := trK_pt ht i hi s n h k (by omega)
    obtain ⟨x, hx⟩ : ∃ x, l[i]? = some x := ⟨_, List.getElem?_eq_getElem hi⟩
    obtain ⟨y, hy⟩ : ∃ y, l[k]? = some y := ⟨_, List.getElem?_eq_getElem (by omega)⟩
    have hxi := h2 i x hx
    have hyk := h2 k y hy
    by_cases he : x.1 = y.1
    · -- they are in one place, and neither has met another one
      have ni : ¬ FlK l i k i := by
        rintro ⟨o, a, b, ha, hb, hab, hp⟩
        rw [hx] at ha
        injection ha with ha
        subst ha
        have hoi : o ≠ i := by rintro rfl; rcases hp with hp | hp <;> exact absurd hp.1 (Nat.lt_irrefl _)
        have hok : o ≠ k := by
          rintro rfl
          rcases hp with hp | hp
          · rcases hp.2 with h | h <;> omega
          · have := hp.1; omega
        exact ht i k o x y b (by omega) (fun e => hok e.symm) (fun e => hoi e.symm) hx hy hb he (he.symm.trans hab)
      have nk : ¬ FlK l i k k := by
        rintro ⟨o, a, b, ha, hb, hab, hp⟩
        rw [hy] at ha
        injection ha with ha
        subst ha
        have hok : o ≠ k := by rintro rfl; rcases hp with hp | hp <;> exact absurd hp.1 (Nat.lt_irrefl _)
        have hoi : o ≠ i := by
          rintro rfl
          rcases hp with hp | hp
          · have := hp.1; omega
          · rcases hp.2 with h | h <;> omega
        exact ht i k o x y b (by omega) (fun e => hok e.symm) (fun e => hoi e.symm) hx hy hb he hab
      have yi : FlK l i (k + 1) i := ⟨k, x, y, hx, hy, he, .inl ⟨by omega, .inr ⟨rfl, by omega⟩⟩⟩
      have yk : FlK l i (k + 1) k := ⟨i, y, x, hy, hx, he.symm, .inr ⟨by omega, .inr ⟨rfl, by omega⟩⟩⟩
      have ei : turned l i k i x = x := by unfold turned; rw [if_neg ni]
      have ek : turned l i k k y = y := by unfold turned; rw [if_neg nk]
      rw [ei] at hxi
      rw [ek] at hyk
      rw [trK_yes i k (s, n) hxi hyk he]
      refine ⟨by simp only [flp_len]; exact h1, fun j z hz => ?_⟩
      have hf1 : (flp (trK i k (s, n)).1 i)[k]? = some y := by rw [flp_at hxi, if_neg (by omega)]; exact hyk
      show (flp (flp (trK i k (s, n)).1 i) k)[j]? = _
      rw [flp_at hf1]
      by_cases hjk : j = k
      · subst hjk
        rw [if_pos rfl]
        rw [hy] at hz
        injection hz with hz
        subst hz
        unfold turned
        rw [if_pos yk]
      · rw [if_neg hjk, flp_at hxi]
        by_cases hji : j = i
        · subst hji
          rw [if_pos rfl]
          rw [hx] at hz
          injection hz with hz
          subst hz
          unfold turned
          rw [if_pos yi]
        · rw [if_neg hji, h2 j z hz]
          congr 1
          unfold turned
          have : FlK l i (k + 1) j ↔ FlK l i k j := by
            constructor
            · rintro ⟨o, a, b, ha, hb, hab, hp⟩
              refine ⟨o, a, b, ha, hb, hab, ?_⟩
              rcases hp with ⟨p1, p2⟩ | ⟨p1, p2⟩
              · left; refine ⟨p1, ?_⟩; rcases p2 with p2 | p2
                · exact .inl p2
                · exact absurd p2.1 hji
              · right; refine ⟨p1, ?_⟩; rcases p2 with p2 | p2
                · exact .inl p2
                · exact .inr ⟨p2.1, by omega⟩
            · rintro ⟨o, a, b, ha, hb, hab, hp⟩
              refine ⟨o, a, b, ha, hb, hab, ?_⟩
              rcases hp with ⟨p1, p2⟩ | ⟨p1, p2⟩
              · left; refine ⟨p1, ?_⟩; rcases p2 with p2 | p2
                · exact .inl p2
                · exact .inr ⟨p2.1, by omega⟩
              · right; refine ⟨p1, ?_⟩; rcases p2 with p2 | p2
                · exact .inl p2
                · exact .inr ⟨p2.1, by omega⟩
          simp only [this]
    · have hne : ¬ (turned l i k i x).1 = (turned l i k k y).1 := he
      rw [trK_no i k (s, n) hxi hyk hne]
      refine ⟨h1, fun j z hz => ?_⟩
      rw [h2 j z hz]
      congr 1
      unfold turned
      have : FlK l i (k + 1) j ↔ FlK l i k j := by
        constructor
        · rintro ⟨o, a, b, ha, hb, hab, hp⟩
          refine ⟨o, a, b, ha, hb, hab, ?_⟩
          rcases hp with ⟨p1, p2⟩ | ⟨p1, p2⟩
          · left; refine ⟨p1, ?_⟩; rcases p2 with p2 | p2
            · exact .inl p2
            · refine .inr ⟨p2.1, ?_⟩
              by_cases hok : o = k
              · obtain ⟨rfl, -⟩ := p2
                subst hok
                rw [hx] at ha; rw [hy] at hb
                injection ha with ha; injection hb with hb
                subst ha hb
                exact absurd hab he
              · omega
          · right; refine ⟨p1, ?_⟩; rcases p2 with p2 | p2
            · exact .inl p2
            · refine .inr ⟨p2.1, ?_⟩
              by_cases hjk : j = k
              · obtain ⟨rfl, -⟩ := p2
                subst hjk
                rw [hy] at ha; rw [hx] at hb
                injection ha with ha; injection hb with hb
                subst ha hb
                exact absurd hab.symm he
              · omega
        · rintro ⟨o, a, b, ha, hb, hab, hp⟩
          refine ⟨o, a, b, ha, hb, hab, ?_⟩
          rcases hp with ⟨p1, p2⟩ | ⟨p1, p2⟩
          · left; refine ⟨p1, ?_⟩; rcases p2 with p2 | p2
            · exact .inl p2
            · exact .inr ⟨p2.1, by omega⟩
          · right; refine ⟨p1, ?_⟩; rcases p2 with p2 | p2
            · exact .inl p2
            · exact .inr ⟨p2.1, by omega⟩
      simp only [this]
theorem trI_pt {l : List (Int × Int)} (ht : Two l) (n : Nat) : ∀ i, i ≤ l.length → InvK l i 0 (trI i (l, n)).1
  | 0, _ => ⟨rfl, fun j x hx => by
      have : ¬ FlK l 0 0 j := by
        rintro ⟨o, a, b, _, _, _, hp⟩
        rcases hp with ⟨_, p | p⟩ | ⟨_, p | p⟩ <;> omega
      unfold turned
      rw [if_neg this]
      exact hx⟩
  | i + 1, hi => by
    have h1 := trI_pt ht n i (by omega)
    have h2 := trK_pt ht i (by omega) (trI i (l, n)).1 (trI i (l, n)).2 h1 i (Nat.le_refl _)
    have e : trK i i (trI i (l, n)) = trK i i ((trI i (l, n)).1, (trI i (l, n)).2) := rfl
    show InvK l (i + 1) 0 (trK i i (trI i (l, n))).1
    rw [e]
    refine ⟨h2.1, fun j x hx => ?_⟩
    rw [h2.2 j x hx]
    congr 1
    unfold turned
    have : FlK l (i + 1) 0 j ↔ FlK l i i j := by
      have hp : ∀ a b, PrK (i + 1) 0 a b ↔ PrK i i a b := by
        intro a b
        unfold PrK
        omega
      unfold FlK
      simp only [hp]
    simp only [this]
/-- who has another one in his place turns, all others stay as they are -/
theorem tr_at {l : List (Int × Int)} (ht : Two l) (n : Nat) {j : Nat} {x : Int × Int} (hx : l[j]? = some x) :
    (trI l.length (l, n)).1[j]? = some (x.1, if ∃ o y, o ≠ j ∧ l[o]? = some y ∧ y.1 = x.1 then -x.2 else x.2) := by
  rw [(trI_pt ht n l.length (Nat.le_refl _)).2 j x hx]
  unfold turned
  have hj := (List.getElem?_eq_some_iff.1 hx).1
  have : FlK l l.length 0 j ↔ ∃ o y, o ≠ j ∧ l[o]? = some y ∧ y.1 = x.1 := by
    constructor
    · rintro ⟨o, a, b, ha, hb, hab, hp⟩
      rw [hx] at ha
      injection ha with ha
      subst ha
      exact ⟨o, b, by rcases hp with hp | hp <;> (have := hp.1; omega), hb, hab.symm⟩
    · rintro ⟨o, y, hne, hy, he⟩
      have ho := (List.getElem?_eq_some_iff.1 hy).1
      refine ⟨o, x, y, hx, hy, he.symm, ?_⟩
      by_cases h : o < j
      · exact .inl ⟨h, .inl hj⟩
      · exact .inr ⟨by omega, .inl ho⟩
  simp only [this]
end Go.Proofs.Ytdoikeglaolipaa
