/- impl.parseAnts: pP. -/
import Derived.Test.YtenpmjinbjlpbaaDoorParsK
namespace Go.Proofs.YtenpmjinbjlpbaaDoor
open Go.RowKit

theorem pP_cons (k : Nat) (b : UInt8) (t : List UInt8) : parsP (t.length + 1) k (b :: t) = match Lib.atoiAll (t.takeWhile notLr) with
    | .ok v => if (b = 108 ∨ b = 114) ∧ k < 16 then (parsP (t.dropWhile notLr).length (k + 1) (t.dropWhile notLr)).map fun l => (v, if b = 108 then -1 else 1) :: l else none
    | _ => none := by
  have hd : (t.dropWhile notLr).length ≤ t.length := (List.dropWhile_suffix notLr).length_le
  simp only [parsP]
  rw [parsP_fuel t.length (t.dropWhile notLr).length (k + 1) (t.dropWhile notLr) hd (Nat.le_refl _)]
  cases Lib.atoiAll (t.takeWhile notLr) <;> rfl

def pAnts (l : List UInt8) : List (Int × Int) := (pP l).getD []
def pFine (l : List UInt8) : Bool := (pP l).isSome

/-- how the loop stands: what is read, and what is left -/
def Left (l : List UInt8) (m : List (Int × Int)) (t : List UInt8) : Prop := pP l = (parsP t.length m.length t).map (m ++ ·)
theorem left_done {l : List UInt8} {m : List (Int × Int)} (h : Left l m []) : pAnts l = m ∧ pFine l = true := by
  have e : pP l = some m := by rw [h]; show (some ([] : List (Int × Int))).map (m ++ ·) = _; simp
  unfold pAnts pFine; rw [e]; exact ⟨rfl, rfl⟩
theorem left_fail {l : List UInt8} {m : List (Int × Int)} {b : UInt8} {t : List UInt8} (h : Left l m (b :: t)) (hf : (∀ v, Lib.atoiAll (t.takeWhile notLr) ≠ .ok v) ∨ ¬ (b = 108 ∨ b = 114) ∨ ¬ m.length < 16) : pAnts l = [] ∧ pFine l = false := by
  have e : pP l = none := by
    rw [h]
    show (parsP (t.length + 1) m.length (b :: t)).map _ = _
    rw [pP_cons]
    split
    · rename_i v hv
      rcases hf with hf | hf
      · exact absurd hv (hf v)
      · rw [if_neg (by rintro ⟨h1, h2⟩; rcases hf with hf | hf; exact hf h1; exact hf h2)]; rfl
    · rfl
  unfold pAnts pFine; rw [e]; exact ⟨rfl, rfl⟩
theorem left_step {l : List UInt8} {m : List (Int × Int)} {b : UInt8} {t : List UInt8} {v : Int} (h : Left l m (b :: t)) (hv : Lib.atoiAll (t.takeWhile notLr) = .ok v) (hb : b = 108 ∨ b = 114) (hm : m.length < 16) :
    Left l (m ++ [(v, if b = 108 then -1 else 1)]) (t.dropWhile notLr) := by
  unfold Left
  rw [h]
  show (parsP (t.length + 1) m.length (b :: t)).map _ = _
  rw [pP_cons, hv]
  simp only [hb, hm, and_self, if_true]
  rw [Option.map_map, List.length_append]
  congr 1
  funext q
  simp

set_option maxHeartbeats 4000000 in
set_option maxRecDepth 100000 in
theorem parseAnts_any (s : ByteArray) (hs : s.size ≤ 1048576) (w : World) (hE : Errs w) :
    Calls Tryd.prog 56 #[.string s] w fun e w' => ∃ A n c, e = .returned (.tuple #[.slice A n c, .bool (pFine s.data.toList)]) ∧ n = (pAnts s.data.toList).length ∧ SlOwn pairS w' w.heap.size 58 (.slice A n c) (pAnts s.data.toList) ∧ Below w.heap.size w w' := by
  have hl := len_toList s
  obtain ⟨i0, hi, hz0, hz1, hz2⟩ := info_parts antIp
  have hsm : s = mkB s.data.toList := rfl
  obtain ⟨l, hgl⟩ : ∃ l, s.data.toList = l := ⟨_, rfl⟩
  rw [hgl] at hl hsm ⊢
  rw [hsm]
  clear hgl hsm
  have HE := Lib.hid hE
  clear hE
  go_enter Tryd.func56, Tryd.ntmps56
  go_wp2
  go_loopw [0, 4] (fun r q wr => ∃ (t : List UInt8) (m : List (Int × Int)) (A3 : Option Addr) (c3 : Nat), r = .string (mkB t) ∧ q = .slice A3 m.length c3 ∧ t.length ≤ s.size ∧ m.length ≤ 16 ∧ Left l m t ∧ Below w.heap.size w wr ∧ SlOwn pairS wr w.heap.size 58 (.slice A3 m.length c3) m)
    (fun r _ _ => strLen r)
  case atStart => exact ⟨l, [], none, 0, rfl, rfl, by omega, by decide, by show pP l = _; unfold pP; cases parsP l.length 0 l <;> rfl, Below.refl _ _, SlOwn.nil pairS _ _ _⟩
  case round =>
    obtain ⟨t, m, A3, c3, rfl, rfl, ht, hm, hleft, hbr, hown⟩ := hrel
    have HB := Lib.hid hbr
    have HO := Lib.hid hown
    have HLF := Lib.hid hleft
    have HEr := Lib.hid (HE.out.below hbr)
    have hsr := hbr.size
    clear hbr hown hleft
    cases t with
    | nil =>
      have hz : (mkB []).size = 0 := rfl
      have hem : (mkB []).toList.isEmpty = true := by rw [Lib.toList_data]; rfl
      have HV := Lib.hid (left_done HLF.out)
      go_wp2
      go_ret2
      exact ⟨A3, _, c3, by rw [HV.out.2]; rfl, by rw [HV.out.1], by rw [HV.out.1]; exact HO.out, HB.out⟩
    | cons x tl =>
      have hz : (mkB (x :: tl)).size = tl.length + 1 := rfl
      have hem : (mkB (x :: tl)).toList.isEmpty = false := by rw [Lib.toList_data]; rfl
      have hbx := get_btL (mkB (x :: tl))
      rw [mkB_data] at hbx
      have hx0 : btL (x :: tl) 0 = (x.toNat : Int) := rfl
      have hs1 : (mkB (x :: tl)).extract 1 (tl.length + 1) = mkB tl := by
        rw [extract_mk]
        show mkB (((x :: tl).take (tl.length + 1)).drop 1) = _
        rw [show (x :: tl).take (tl.length + 1) = x :: tl from List.take_of_length_le (by simp)]
        rfl
      have htl : tl.length + 1 ≤ s.size := ht
      have hzt : (mkB tl).size = tl.length := rfl
      have HIX : Hid (∀ W, Calls Tryd.prog 87 #[.string (mkB tl), .string ⟨#[108, 114]⟩] W fun e w' => e = .returned (.int .i64 (Lib.indexAny tl [108, 114])) ∧ Below W.heap.size W w') := fun W => indexAny_any (mkB tl) (by rw [hzt]; omega) W
      have hway := way_any x
      by_cases hlr : x = 108 ∨ x = 114
      · obtain ⟨y, hy⟩ : ∃ y : Int, (if x = 108 then (-1 : Int) else 1) = y := ⟨_, rfl⟩
        have hy2 : (if x = 108 then (-1 : Int) else if x = 114 then 1 else 0) = y := by rw [← hy]; rcases hlr with rfl | rfl <;> rfl
        rw [hy2, decide_eq_true hlr] at hway
        have HW := Lib.hid hway
        clear hway hy2
        go_wp2_with fail
        refine (HW.out _).mono ?_
        rintro e w6 ⟨rfl, hw6⟩
        obtain rfl : wr = w6 := hw6.symm
        have hdl : (tl.dropWhile notLr).length ≤ tl.length := (List.dropWhile_suffix notLr).length_le
        have htw : (tl.takeWhile notLr).length ≤ tl.length := (List.takeWhile_prefix notLr).length_le
        have hnz : (mkB (tl.takeWhile notLr)).size ≤ 1048576 := by rw [mkB_size]; omega
        rcases idx_split tl with ⟨e1, e2, e3⟩ | ⟨i, e1, e2, e3, e4⟩
        · have hnum : mkB (tl.takeWhile notLr) = mkB tl := by rw [e2]
          rw [e1] at HIX
          go_wp2_with fail
          refine (HIX.out _).mono ?_
          rintro e w7 ⟨rfl, hb7⟩
          go_wp2_with fail
          by_cases hat : ∃ v, Lib.atoiAll (tl.takeWhile notLr) = .ok v
          · obtain ⟨v, hv⟩ := hat
            have HAT : Hid (∀ W, Calls Tryd.prog 48 #[.string (mkB tl)] W fun e w' => e = .returned (.tuple #[.int .i64 v, .nilIface]) ∧ Below W.heap.size W w') := fun W => hnum ▸ atoi_ok (mkB (tl.takeWhile notLr)) hnz v hv W
            refine (HAT.out _).mono ?_
            rintro e w8 ⟨rfl, hb8⟩
            have hb78 := hb7.trans (hb8.mono hb7.size)
            by_cases hm16 : m.length < 16
            · have hml : m.length + 1 ≤ 1048576 := by omega
              have hm16n : ¬ (m.length : Int) = 16 := by omega
              have hm16b : ((m.length : Int) == 16) = false := by simp; omega
              have HST := Lib.hid (left_step HLF.out hv hlr hm16)
              rw [hy] at HST
              have HO8 := Lib.hid (HO.out.below hb78)
              have HB8 := Lib.hid (HB.out.trans (hb78.mono hsr))
              have hs8 := HB8.out.size
              clear hb7 hb8 hb78
              go_wp2_with (at_builtin; go_must (refine wpList_append_slsv pairS _ rfl _ _ 22 rfl w.heap.size 58 i0 _ 16 Tryd.underlying22 hi hz0 hz1 hz2 rfl (by decide) _ m rfl (HO8.out.below ((Below.refl _ w8).alloc (Nat.le_refl _) _)) (some ⟨w8.heap.size, 0, none⟩) 1 1 [(v, y)] rfl rfl (slAt_oneP (heap_new (by simp))) (by simp only [List.length_cons, List.length_nil]; omega) (by simp; omega) ?_); intro A6 n6 k6 w6 hn6 hown6 hb6)
              go_roundw
              case rel =>
                have hn7 : n6 = (m ++ [(v, y)]).length := by simpa using hn6
                rw [hn7] at hown6
                exact ⟨tl.dropWhile notLr, m ++ [(v, y)], A6, k6, by rw [e3]; rfl, by simp, by omega, by simp; omega, HST.out, HB8.out.trans ((((Below.refl _ w8).alloc (Nat.le_refl _) _).mono hs8).trans hb6), hown6⟩
              case measure => (simp only [strLen, hz]; show 0 < _; omega)
            · have hm16n : (m.length : Int) = 16 := by omega
              have HF := Lib.hid (left_fail HLF.out (.inr (.inr hm16)))
              go_wp2
              go_ret2
              exact ⟨none, 0, 0, by rw [HF.out.2]; rfl, by rw [HF.out.1]; rfl, by rw [HF.out.1]; exact SlOwn.nil pairS _ _ _, HB.out.trans (hb78.mono hsr)⟩
          · have hno : ∀ v, Lib.atoiAll (tl.takeWhile notLr) ≠ .ok v := fun v h => hat ⟨v, h⟩
            have HF := Lib.hid (left_fail HLF.out (.inl hno))
            have HAN : Hid (∀ W, Errs W → Calls Tryd.prog 48 #[.string (mkB tl)] W fun e w' => ∃ (v : Int) (t : TypeId) (a : Addr), e = .returned (.tuple #[.int .i64 v, .iface t (.pointer (some a))]) ∧ Below W.heap.size W w') := fun W hW => hnum ▸ atoi_no (mkB (tl.takeWhile notLr)) hnz hno W hW
            refine (HAN.out _ (HEr.out.below hb7)).mono ?_
            rintro e w8 ⟨v, ty, ad, rfl, hb8⟩
            have hb78 := hb7.trans (hb8.mono hb7.size)
            go_wp2
            go_ret2
            exact ⟨none, 0, 0, by rw [HF.out.2]; rfl, by rw [HF.out.1]; rfl, by rw [HF.out.1]; exact SlOwn.nil pairS _ _ _, HB.out.trans (hb78.mono hsr)⟩
        · have hx1 : (mkB tl).extract 0 i = mkB (tl.takeWhile notLr) := by rw [extract_mk, e3]; rfl
          have hx2 : (mkB tl).extract i tl.length = mkB (tl.dropWhile notLr) := by
            rw [extract_mk, e4]
            show mkB ((tl.take tl.length).drop i) = _
            rw [List.take_length]
          have hj0 : (0 : Int) ≤ (i : Int) := by omega
          have hjl : (i : Int) ≤ (tl.length : Int) := by omega
          rw [e1] at HIX
          go_wp2_with fail
          refine (HIX.out _).mono ?_
          rintro e w7 ⟨rfl, hb7⟩
          go_wp2_with fail
          go_region
          all_goals go_wp2_with fail
          have hnum2 : mkB (tl.takeWhile notLr) = mkB (tl.take i) := by rw [e3]
          have hb7d := hb7.drew
          by_cases hat : ∃ v, Lib.atoiAll (tl.takeWhile notLr) = .ok v
          · obtain ⟨v, hv⟩ := hat
            have HAT : Hid (∀ W, Calls Tryd.prog 48 #[.string (mkB (tl.take i))] W fun e w' => e = .returned (.tuple #[.int .i64 v, .nilIface]) ∧ Below W.heap.size W w') := fun W => hnum2 ▸ atoi_ok (mkB (tl.takeWhile notLr)) hnz v hv W
            refine (HAT.out _).mono ?_
            rintro e w8 ⟨rfl, hb8⟩
            have hb78 := hb7d.trans (hb8.mono hb7d.size)
            by_cases hm16 : m.length < 16
            · have hml : m.length + 1 ≤ 1048576 := by omega
              have hm16n : ¬ (m.length : Int) = 16 := by omega
              have hm16b : ((m.length : Int) == 16) = false := by simp; omega
              have HST := Lib.hid (left_step HLF.out hv hlr hm16)
              rw [hy] at HST
              have HO8 := Lib.hid (HO.out.below hb78)
              have HB8 := Lib.hid (HB.out.trans (hb78.mono hsr))
              have hs8 := HB8.out.size
              clear hb7 hb7d hb8 hb78
              go_wp2_with (at_builtin; go_must (refine wpList_append_slsv pairS _ rfl _ _ 22 rfl w.heap.size 58 i0 _ 16 Tryd.underlying22 hi hz0 hz1 hz2 rfl (by decide) _ m rfl (HO8.out.below ((Below.refl _ w8).alloc (Nat.le_refl _) _)) (some ⟨w8.heap.size, 0, none⟩) 1 1 [(v, y)] rfl rfl (slAt_oneP (heap_new (by simp))) (by simp only [List.length_cons, List.length_nil]; omega) (by simp; omega) ?_); intro A6 n6 k6 w6 hn6 hown6 hb6)
              go_roundw
              case rel =>
                have hn7 : n6 = (m ++ [(v, y)]).length := by simpa using hn6
                rw [hn7] at hown6
                exact ⟨tl.dropWhile notLr, m ++ [(v, y)], A6, k6, by rw [← e4], by simp, by omega, by simp; omega, HST.out, HB8.out.trans ((((Below.refl _ w8).alloc (Nat.le_refl _) _).mono hs8).trans hb6), hown6⟩
              case measure => (simp only [strLen, hz, mkB_size, List.length_drop]; omega)
            · have hm16n : (m.length : Int) = 16 := by omega
              have HF := Lib.hid (left_fail HLF.out (.inr (.inr hm16)))
              go_wp2
              go_ret2
              exact ⟨none, 0, 0, by rw [HF.out.2]; rfl, by rw [HF.out.1]; rfl, by rw [HF.out.1]; exact SlOwn.nil pairS _ _ _, HB.out.trans (hb78.mono hsr)⟩
          · have hno : ∀ v, Lib.atoiAll (tl.takeWhile notLr) ≠ .ok v := fun v h => hat ⟨v, h⟩
            have HF := Lib.hid (left_fail HLF.out (.inl hno))
            have HAN : Hid (∀ W, Errs W → Calls Tryd.prog 48 #[.string (mkB (tl.take i))] W fun e w' => ∃ (v : Int) (t : TypeId) (a : Addr), e = .returned (.tuple #[.int .i64 v, .iface t (.pointer (some a))]) ∧ Below W.heap.size W w') := fun W hW => hnum2 ▸ atoi_no (mkB (tl.takeWhile notLr)) hnz hno W hW
            refine (HAN.out _ (HEr.out.below hb7d)).mono ?_
            rintro e w8 ⟨v, ty, ad, rfl, hb8⟩
            have hb78 := hb7d.trans (hb8.mono hb7d.size)
            go_wp2
            go_ret2
            exact ⟨none, 0, 0, by rw [HF.out.2]; rfl, by rw [HF.out.1]; rfl, by rw [HF.out.1]; exact SlOwn.nil pairS _ _ _, HB.out.trans (hb78.mono hsr)⟩
      · rw [decide_eq_false hlr, if_neg (fun h => hlr (.inl h)), if_neg (fun h => hlr (.inr h))] at hway
        have HW := Lib.hid hway
        clear hway
        go_wp2_with fail
        refine (HW.out _).mono ?_
        rintro e w6 ⟨rfl, hw6⟩
        obtain rfl : wr = w6 := hw6.symm
        have hdl : (tl.dropWhile notLr).length ≤ tl.length := (List.dropWhile_suffix notLr).length_le
        have htw : (tl.takeWhile notLr).length ≤ tl.length := (List.takeWhile_prefix notLr).length_le
        have hnz : (mkB (tl.takeWhile notLr)).size ≤ 1048576 := by rw [mkB_size]; omega
        rcases idx_split tl with ⟨e1, e2, e3⟩ | ⟨i, e1, e2, e3, e4⟩
        · have hnum : mkB (tl.takeWhile notLr) = mkB tl := by rw [e2]
          rw [e1] at HIX
          go_wp2_with fail
          refine (HIX.out _).mono ?_
          rintro e w7 ⟨rfl, hb7⟩
          go_wp2_with fail
          by_cases hat : ∃ v, Lib.atoiAll (tl.takeWhile notLr) = .ok v
          · obtain ⟨v, hv⟩ := hat
            have HAT : Hid (∀ W, Calls Tryd.prog 48 #[.string (mkB tl)] W fun e w' => e = .returned (.tuple #[.int .i64 v, .nilIface]) ∧ Below W.heap.size W w') := fun W => hnum ▸ atoi_ok (mkB (tl.takeWhile notLr)) hnz v hv W
            refine (HAT.out _).mono ?_
            rintro e w8 ⟨rfl, hb8⟩
            have hb78 := hb7.trans (hb8.mono hb7.size)
            have HF := Lib.hid (left_fail HLF.out (.inr (.inl hlr)))
            go_wp2
            go_ret2
            exact ⟨none, 0, 0, by rw [HF.out.2]; rfl, by rw [HF.out.1]; rfl, by rw [HF.out.1]; exact SlOwn.nil pairS _ _ _, HB.out.trans (hb78.mono hsr)⟩
          · have hno : ∀ v, Lib.atoiAll (tl.takeWhile notLr) ≠ .ok v := fun v h => hat ⟨v, h⟩
            have HF := Lib.hid (left_fail HLF.out (.inl hno))
            have HAN : Hid (∀ W, Errs W → Calls Tryd.prog 48 #[.string (mkB tl)] W fun e w' => ∃ (v : Int) (t : TypeId) (a : Addr), e = .returned (.tuple #[.int .i64 v, .iface t (.pointer (some a))]) ∧ Below W.heap.size W w') := fun W hW => hnum ▸ atoi_no (mkB (tl.takeWhile notLr)) hnz hno W hW
            refine (HAN.out _ (HEr.out.below hb7)).mono ?_
            rintro e w8 ⟨v, ty, ad, rfl, hb8⟩
            have hb78 := hb7.trans (hb8.mono hb7.size)
            go_wp2
            go_ret2
            exact ⟨none, 0, 0, by rw [HF.out.2]; rfl, by rw [HF.out.1]; rfl, by rw [HF.out.1]; exact SlOwn.nil pairS _ _ _, HB.out.trans (hb78.mono hsr)⟩
        · have hx1 : (mkB tl).extract 0 i = mkB (tl.takeWhile notLr) := by rw [extract_mk, e3]; rfl
          have hx2 : (mkB tl).extract i tl.length = mkB (tl.dropWhile notLr) := by
            rw [extract_mk, e4]
            show mkB ((tl.take tl.length).drop i) = _
            rw [List.take_length]
          have hj0 : (0 : Int) ≤ (i : Int) := by omega
          have hjl : (i : Int) ≤ (tl.length : Int) := by omega
          rw [e1] at HIX
          go_wp2_with fail
          refine (HIX.out _).mono ?_
          rintro e w7 ⟨rfl, hb7⟩
          go_wp2_with fail
          go_region
          all_goals go_wp2_with fail
          have hnum2 : mkB (tl.takeWhile notLr) = mkB (tl.take i) := by rw [e3]
          have hb7d := hb7.drew
          by_cases hat : ∃ v, Lib.atoiAll (tl.takeWhile notLr) = .ok v
          · obtain ⟨v, hv⟩ := hat
            have HAT : Hid (∀ W, Calls Tryd.prog 48 #[.string (mkB (tl.take i))] W fun e w' => e = .returned (.tuple #[.int .i64 v, .nilIface]) ∧ Below W.heap.size W w') := fun W => hnum2 ▸ atoi_ok (mkB (tl.takeWhile notLr)) hnz v hv W
            refine (HAT.out _).mono ?_
            rintro e w8 ⟨rfl, hb8⟩
            have hb78 := hb7d.trans (hb8.mono hb7d.size)
            have HF := Lib.hid (left_fail HLF.out (.inr (.inl hlr)))
            go_wp2
            go_ret2
            exact ⟨none, 0, 0, by rw [HF.out.2]; rfl, by rw [HF.out.1]; rfl, by rw [HF.out.1]; exact SlOwn.nil pairS _ _ _, HB.out.trans (hb78.mono hsr)⟩
          · have hno : ∀ v, Lib.atoiAll (tl.takeWhile notLr) ≠ .ok v := fun v h => hat ⟨v, h⟩
            have HF := Lib.hid (left_fail HLF.out (.inl hno))
            have HAN : Hid (∀ W, Errs W → Calls Tryd.prog 48 #[.string (mkB (tl.take i))] W fun e w' => ∃ (v : Int) (t : TypeId) (a : Addr), e = .returned (.tuple #[.int .i64 v, .iface t (.pointer (some a))]) ∧ Below W.heap.size W w') := fun W hW => hnum2 ▸ atoi_no (mkB (tl.takeWhile notLr)) hnz hno W hW
            refine (HAN.out _ (HEr.out.below hb7d)).mono ?_
            rintro e w8 ⟨v, ty, ad, rfl, hb8⟩
            have hb78 := hb7d.trans (hb8.mono hb7d.size)
            go_wp2
            go_ret2
            exact ⟨none, 0, 0, by rw [HF.out.2]; rfl, by rw [HF.out.1]; rfl, by rw [HF.out.1]; exact SlOwn.nil pairS _ _ _, HB.out.trans (hb78.mono hsr)⟩
end Go.Proofs.YtenpmjinbjlpbaaDoor
