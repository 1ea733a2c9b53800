/- Puzzles, the model: SureWays. -/
import Derived.Test.YtiodlclaempihaaGreatPuzL
namespace Go.Proofs.YtiodlclaempihaaGreat
open Go.RowKit

/-- the letter at a place -/
def ltr (s : ByteArray) (i : Nat) : ByteArray := s.extract i (i + 1)
def agreeB (S : List ByteArray) (i : Nat) : Bool := S.all fun s => decide (ltr s i = ltr (S.getD 0 ⟨#[]⟩) i)
/-- the letter that all have, or a question mark -/
def sureL (S : List ByteArray) (i : Nat) : ByteArray := if agreeB S i then ltr (S.getD 0 ⟨#[]⟩) i else ⟨#[63]⟩
def sureT (S : List ByteArray) : Nat → ByteArray
  | 0 => ⟨#[]⟩
  | i + 1 => sureT S i ++ sureL S i
/-- SureWays -/
def suV (L : Int) (l : List Int) (cs : List (Int × Int × Int)) : ByteArray := if fsoB L l cs then sureT (solV L l cs) l.length else ⟨#[]⟩
theorem sureL_no {S : List ByteArray} {i m : Nat} (hm : m < S.length) (h : ltr S[m] i ≠ ltr (S.getD 0 ⟨#[]⟩) i) : sureL S i = ⟨#[63]⟩ := by
  unfold sureL
  rw [if_neg]
  intro ha
  unfold agreeB at ha
  rw [List.all_eq_true] at ha
  exact h (of_decide_eq_true (ha _ (List.getElem_mem hm)))
theorem sureL_yes {S : List ByteArray} {i : Nat} (h : ∀ j, j < S.length → ∀ x, S[j]? = some x → ltr x i = ltr (S.getD 0 ⟨#[]⟩) i) : sureL S i = ltr (S.getD 0 ⟨#[]⟩) i := by
  unfold sureL
  rw [if_pos]
  unfold agreeB
  rw [List.all_eq_true]
  intro x hx
  obtain ⟨j, hj, rfl⟩ := List.getElem_of_mem hx
  exact decide_eq_true (h j hj _ (List.getElem?_eq_getElem hj))
theorem ltr_size {s : ByteArray} {i : Nat} (h : i < s.size) : (ltr s i).size = 1 := by
  unfold ltr
  rw [ByteArray.size_extract]
  omega
theorem sureL_size {S : List ByteArray} {i : Nat} (h : i < (S.getD 0 ⟨#[]⟩).size) : (sureL S i).size = 1 := by
  unfold sureL
  split
  · exact ltr_size h
  · rfl
theorem sureT_size {S : List ByteArray} : ∀ {i : Nat}, i ≤ (S.getD 0 ⟨#[]⟩).size → (sureT S i).size = i := by
  intro i
  induction i with
  | zero => intro _; rfl
  | succ i ih =>
    intro h
    show (sureT S i ++ sureL S i).size = _
    rw [ByteArray.size_append, ih (by omega), sureL_size (by omega)]

set_option maxRecDepth 100000 in
set_option maxHeartbeats 2000000 in
theorem specSureWays_any (L : Int) (A C : Option Addr) (c d : Nat) (l : List Int) (cs : List (Int × Int × Int)) (w : World) (hn : (l.length : Int) ≤ 9223372036854775807) (_hm : (cs.length : Int) ≤ 9223372036854775807) (hA : SlAt intS w A l) (hC : SlAt tripS w C cs) :
    Calls Tryz.prog 25 #[.agg #[.int .i64 L, .slice A l.length c, .slice C cs.length d]] w fun e w' => e = .returned (.tuple #[.string (suV L l cs), .bool (fsoB L l cs)]) ∧ Below w.heap.size w w' := by
  have HA := Lib.hid (hA.alloc (Obj.cells #[Value.int IntKind.i64 L, Value.slice A l.length c, Value.slice C cs.length d] 32))
  have HC := Lib.hid (hC.alloc (Obj.cells #[Value.int IntKind.i64 L, Value.slice A l.length c, Value.slice C cs.length d] 32))
  cases hz : puzB L l cs with
  | false =>
    have HV : Hid (suV L l cs = ⟨#[]⟩ ∧ fsoB L l cs = false) := by show _ ∧ _; unfold suV fsoB sosV; rw [hz]; exact ⟨rfl, rfl⟩
    have HG := Lib.hid (fun w h h' => pzGood_at L A C c d l cs false hz w hn h h')
    clear hz hA hC
    go_enter Tryz.func25, Tryz.ntmps25
    go_wp2_with fail
    refine (HG.out _ HA.out HC.out).mono ?_
    rintro e w1 ⟨rfl, hb⟩
    go_wp2
    go_ret2
    exact ⟨ret_strb HV.out.1.symm HV.out.2.symm, ((Below.refl _ _).alloc (Nat.le_refl _) _).trans (hb.mono (by simp))⟩
  | true =>
    obtain ⟨hp, hc6, hcl⟩ := puzB_parts hz
    have HV : Hid (fsoB L l cs = decide (0 < (solV L l cs).length)) := by show _ = _; unfold fsoB sosV; rw [hz]; rfl
    have HG := Lib.hid (fun w h h' => pzGood_at L A C c d l cs true hz w hn h h')
    have HAll := Lib.hid (fun w h h' => pzAll_any L A C c d l cs w hp hcl hc6 h h')
    have HSZ : Hid (∀ x ∈ solV L l cs, x.size = l.length) := fun x hx => solV_mem hx
    have HSL := Lib.hid (solV_len (L := L) cs (hplB_len hp).2)
    have hl8 := (hplB_len hp).2
    clear hz hA hC hp hcl
    go_enter Tryz.func25, Tryz.ntmps25
    go_wp2_with fail
    refine (HG.out _ HA.out HC.out).mono ?_
    rintro e w1 ⟨rfl, hb⟩
    have k0 : w1.cell? ⟨w.heap.size, 0, none⟩ = some (.int .i64 L) := by rw [hb.cell (p := ⟨w.heap.size, 0, none⟩) (by simp)]; simp
    have k1 : w1.cell? ⟨w.heap.size, 1, none⟩ = some (.slice A l.length c) := by rw [hb.cell (p := ⟨w.heap.size, 1, none⟩) (by simp)]; simp
    have k2 : w1.cell? ⟨w.heap.size, 2, none⟩ = some (.slice C cs.length d) := by rw [hb.cell (p := ⟨w.heap.size, 2, none⟩) (by simp)]; simp
    have HB := Lib.hid (((Below.refl _ w).alloc (Nat.le_refl _) (Obj.cells #[Value.int IntKind.i64 L, Value.slice A l.length c, Value.slice C cs.length d] 32)).trans (hb.mono (by simp)))
    have HA1 := Lib.hid (HA.out.below hb)
    have HC1 := Lib.hid (HC.out.below hb)
    clear hb
    go_wp2_with fail
    refine (HAll.out _ HA1.out HC1.out).mono ?_
    rintro e w2 ⟨A2, n2, c2, rfl, hn2, ho2, hb2⟩
    have k1 := Below.cell_some hb2 k1
    have HB2 := Lib.hid (HB.out.trans (hb2.mono HB.out.size))
    have hsz1 := HB.out.size
    clear hb2 k0 k2
    have HV2 : Hid (fsoB L l cs = decide (0 < n2) ∧ suV L l cs = if decide (0 < n2) = true then sureT (solV L l cs) l.length else ⟨#[]⟩) := by
      show _ ∧ _
      unfold suV
      rw [HV.out, hn2]
      exact ⟨rfl, rfl⟩
    by_cases h0 : n2 = 0
    · have HV3 : Hid (fsoB L l cs = false ∧ suV L l cs = ⟨#[]⟩) := by
        show _ ∧ _
        rw [HV2.out.1, HV2.out.2, h0]
        exact ⟨rfl, rfl⟩
      subst h0
      clear hn2 ho2
      go_wp2
      go_ret2
      exact ⟨ret_strb HV3.out.2.symm HV3.out.1.symm, HB2.out⟩
    · have HV3 : Hid (fsoB L l cs = true ∧ suV L l cs = sureT (solV L l cs) l.length) := by
        show _ ∧ _
        have : decide (0 < n2) = true := by simp; omega
        rw [HV2.out.1, HV2.out.2, this]
        exact ⟨rfl, rfl⟩
      generalize solV L l cs = S at *
      have hpos : 0 < S.length := by omega
      have HN2 := Lib.hid hn2
      obtain ⟨b, off, hAe, l0, hc⟩ := ho2.sl.str_at hpos
      have a0 := hc 0 _ (List.getElem?_eq_getElem hpos)
      have hg0 : S.getD 0 ⟨#[]⟩ = S[0] := by rw [List.getD_eq_getElem?_getD, List.getElem?_eq_getElem hpos]; rfl
      have hx0 : (S[0]).size = l.length := HSZ.out _ (List.getElem_mem hpos)
      have HC9 := Lib.hid hc
      have HST := Lib.hid (fun k => show sureT S (k + 1) = sureT S k ++ sureL S k from rfl)
      have HSY : Hid (∀ k, (∀ j, j < S.length → ∀ x, S[j]? = some x → ltr x k = ltr S[0] k) → sureL S k = (S[0]).extract k (k + 1)) := fun k h => by
        have := sureL_yes (S := S) (i := k) (by rw [hg0]; exact h)
        rw [hg0] at this
        exact this
      have HSN : Hid (∀ k m (hm : m < S.length), ltr S[m] k ≠ ltr S[0] k → sureL S k = ⟨#[63]⟩) := fun k m hm h => sureL_no hm (by rw [hg0]; exact h)
      have HTS : Hid (∀ k, k ≤ l.length → (sureT S k).size = k) := fun k hk => sureT_size (by rw [hg0, hx0]; exact hk)
      subst hAe
      rw [Nat.add_zero] at a0
      generalize S[0] = x0 at *
      have h1 : (0 : Int) < (n2 : Int) := by omega
      have h2 : ¬ (n2 : Int) = 0 := by omega
      have h3 : ((n2 : Int) == 0) = false := by simp; omega
      have h256 : (n2 : Int) ≤ 256 := by have := HSL.out; omega
      clear hn2 ho2 hc hg0
      go_wp2
      go_loopw [5, 26] (fun o i wr => ∃ k : Nat, k ≤ l.length ∧ i = .int .i64 k ∧ o = .string (sureT S k) ∧ w2 = wr)
        (fun _ i _ => l.length - (intOf i).toNat)
      case atStart => exact ⟨0, Nat.zero_le _, rfl, rfl, rfl⟩
      case round =>
        obtain ⟨k, hk, rfl, rfl, rfl⟩ := hrel
        by_cases hlt : k < l.length
        · have hkl : (k : Int) < (l.length : Int) := by omega
          have hk1 : (k : Int) + 1 ≤ (l.length : Int) := by omega
          have hts := HTS.out k hk
          have HS1 := Lib.hid (HST.out k)
          have HY := Lib.hid (HSY.out k)
          have HNn := Lib.hid (fun m hm h => HSN.out k m hm h)
          generalize sureT S k = tx at *
          go_wp2
          go_loopw [7, 38] (fun v i wz => ∃ m : Nat, m ≤ n2 ∧ i = .int .i64 m ∧ v = .string (x0.extract k (k + 1)) ∧ (∀ j, j < m → ∀ x, S[j]? = some x → ltr x k = ltr x0 k) ∧ w2 = wz)
            (fun _ i _ => n2 - (intOf i).toNat)
          case atStart => exact ⟨0, Nat.zero_le _, rfl, rfl, fun j hj => absurd hj (by omega), rfl⟩
          case round =>
            obtain ⟨m, hm, rfl, rfl, hall, rfl⟩ := hrel
            have HALL := Lib.hid hall
            clear hall
            by_cases hml : m < n2
            · have hmS : m < S.length := by have := HN2.out; omega
              have hmi : (m : Int) < (n2 : Int) := by omega
              have am := HC9.out m _ (List.getElem?_eq_getElem hmS)
              have hym : (S[m]).size = l.length := HSZ.out _ (List.getElem_mem hmS)
              have HNm := Lib.hid (HNn.out m hmS)
              have HGm : Hid (S[m]? = some S[m]) := List.getElem?_eq_getElem hmS
              generalize S[m] = y at *
              by_cases hq : y.extract k (k + 1) = x0.extract k (k + 1)
              · have HALL2 : Hid (∀ j, j < m + 1 → ∀ x, S[j]? = some x → ltr x k = ltr x0 k) := fun j hj x hx => by
                  by_cases he : j < m
                  · exact HALL.out j he x hx
                  · obtain rfl : j = m := by omega
                    rw [HGm.out] at hx
                    injection hx with hx
                    rw [← hx]; exact hq
                go_wp2
                go_roundw
                case rel => exact ⟨m + 1, by omega, by go_num, rfl, HALL2.out, by first | rfl | trivial⟩
                case measure => simp [intOf]; omega
              · have HT : Hid (sureT S (k + 1) = tx ++ ⟨#[63]⟩) := by show _ = _; rw [HS1.out, HNm.out hq]
                have hq2 : ((y.extract k (k + 1)).toList == (x0.extract k (k + 1)).toList) = false := by
                  rw [beq_eq_false_iff_ne]
                  intro h2
                  rw [ByteArray.toList_eq, ByteArray.toList_eq] at h2
                  exact hq (ByteArray.ext (Array.toList_inj.mp h2))
                clear hq
                go_wp2
                go_roundw
                case rel => exact ⟨k + 1, by omega, by go_num, by rw [HT.out], by first | rfl | trivial⟩
                case measure => simp [intOf]; omega
            · obtain rfl : m = n2 := by omega
              have hmi : ¬ (m : Int) < (m : Int) := by omega
              have HT : Hid (sureT S (k + 1) = tx ++ x0.extract k (k + 1)) := by show _ = _; rw [HS1.out, HY.out (by rw [← HN2.out]; exact HALL.out)]
              go_wp2
              go_roundw
              case rel => exact ⟨k + 1, by omega, by go_num, by rw [HT.out], by first | rfl | trivial⟩
              case measure => simp [intOf]; omega
        · obtain rfl : k = l.length := by omega
          have hkl : ¬ (l.length : Int) < (l.length : Int) := by omega
          go_wp2
          go_ret2
          exact ⟨ret_strb HV3.out.2.symm HV3.out.1.symm, HB2.out⟩
end Go.Proofs.YtiodlclaempihaaGreat
