/- The contract of spec.roParse. -/
import Derived.Test.YtpchgmcegholoaaDoorParsS
namespace Go.Proofs.YtpchgmcegholoaaDoor
open Go.RowKit

theorem antIp : (Tryd.prog.info? 52).map (fun i => (i.zero, i.size, i.bytes)) = some (some (.agg #[.int .i64 0, .int .i64 0]), pairS.size, 16) := by kernel_rfl
theorem slAt_oneP {w : World} {g : Nat} {x y : Int} {e : TypeId} {m : Nat × Nat} (h : w.heap[g]? = some (.cells #[.int .i64 x, .int .i64 y] e m)) : SlAt pairS w (some ⟨g, 0, none⟩) [(x, y)] := by
  refine .inr ⟨g, 0, rfl, (Array.getElem?_eq_some_iff.1 h).1, fun k z hk j hj => ?_⟩
  cases k with
  | succ k => simp at hk
  | zero =>
    simp only [List.getElem?_cons_zero, Option.some.injEq] at hk
    subst hk
    simp only [Nat.zero_mul, Nat.zero_add]
    rw [cell_of_row w g j _ _ _ h, ← Array.getElem?_toList]
    rfl

theorem parsM_fuel : ∀ (f g : Nat) (t : List UInt8), t.length ≤ f → t.length ≤ g → parsM f t = parsM g t
  | f, g, [], _, _ => by cases f <;> cases g <;> rfl
  | 0, _, _ :: _, h, _ => by simp at h
  | _, 0, _ :: _, _, h => by simp at h
  | f + 1, g + 1, b :: t, hf, hg => by
    have hd : (t.dropWhile digB).length ≤ t.length := (List.dropWhile_suffix digB).length_le
    have h1 : t.length ≤ f := by simpa using hf
    have h2 : t.length ≤ g := by simpa using hg
    simp only [parsM]
    rw [parsM_fuel f g (t.dropWhile digB) (by omega) (by omega)]
def pM (t : List UInt8) : Option (List (Int × Int)) := parsM t.length t
theorem pM_cons (b : UInt8) (t : List UInt8) : pM (b :: t) = if b = 108 ∨ b = 114 then (pM (t.dropWhile digB)).map fun l => (readL (t.takeWhile digB), if b = 108 then -1 else 1) :: l else none := by
  have hd : (t.dropWhile digB).length ≤ t.length := (List.dropWhile_suffix digB).length_le
  show parsM (t.length + 1) (b :: t) = _
  simp only [parsM]
  rw [parsM_fuel t.length (t.dropWhile digB).length (t.dropWhile digB) hd (Nat.le_refl _)]
  rfl
theorem pM_step {s : List UInt8} {m : List (Int × Int)} {b : UInt8} {t : List UInt8} (h : pM s = (pM (b :: t)).map (m ++ ·)) (hb : b = 108 ∨ b = 114) :
    pM s = (pM (t.dropWhile digB)).map ((m ++ [(readL (t.takeWhile digB), if b = 108 then -1 else 1)]) ++ ·) := by
  rw [h, pM_cons, if_pos hb, Option.map_map]
  congr 1
  funext l
  simp
theorem pM_stop {s : List UInt8} {m : List (Int × Int)} {b : UInt8} {t : List UInt8} (h : pM s = (pM (b :: t)).map (m ++ ·)) (hb : ¬ (b = 108 ∨ b = 114)) : pM s = none := by
  rw [h, pM_cons, if_neg hb]; rfl
theorem take_end (t : List UInt8) {j : Nat} (hj : j ≤ t.length) (ha : (t.take j).all digB = true) (he : j = t.length ∨ digB (t.getD j 0) = false) : t.takeWhile digB = t.take j ∧ t.dropWhile digB = t.drop j := by
  have hsp : t = t.take j ++ t.drop j := (List.take_append_drop j t).symm
  have ha' := List.all_eq_true.mp ha
  have h0 : ∀ b, (t.drop j)[0]? = some b → digB b = false := by
    intro b hb
    rw [List.getElem?_drop] at hb
    rcases he with rfl | he
    · rw [List.getElem?_eq_none (by omega)] at hb; cases hb
    · rw [List.getD_eq_getElem?_getD] at he
      rw [show j + 0 = j from rfl] at hb
      rw [hb] at he; exact he
  generalize t.take j = x at *
  generalize t.drop j = y at *
  subst hsp
  have e1 : y.takeWhile digB = [] := by
    cases y with
    | nil => rfl
    | cons b r => rw [List.takeWhile_cons, h0 b rfl]; rfl
  have e2 : y.dropWhile digB = y := by
    cases y with
    | nil => rfl
    | cons b r => rw [List.dropWhile_cons, h0 b rfl]; rfl
  rw [List.takeWhile_append_of_pos ha', List.dropWhile_append_of_pos ha', e1, e2]
  simp

def pRod (c : UInt8) (s : List UInt8) : Option (Int × List (Int × Int)) :=
  if 100 < s.length then none else match splitL c s with
  | [a, b] => match pM b with
    | some l => if goodB (readL a) l then some (readL a, l) else none
    | none => none
  | _ => none
def pL (c : UInt8) (s : List UInt8) : Int := ((pRod c s).map (·.1)).getD 0
def pA (c : UInt8) (s : List UInt8) : List (Int × Int) := ((pRod c s).map (·.2)).getD []
def pOk (c : UInt8) (s : List UInt8) : Bool := (pRod c s).isSome
theorem p_none {c : UInt8} {s : List UInt8} (h : pRod c s = none) : pL c s = 0 ∧ pA c s = [] ∧ pOk c s = false := by unfold pL pA pOk; rw [h]; exact ⟨rfl, rfl, rfl⟩
theorem p_some {c : UInt8} {s : List UInt8} {L : Int} {l : List (Int × Int)} (h : pRod c s = some (L, l)) : pL c s = L ∧ pA c s = l ∧ pOk c s = true := by unfold pL pA pOk; rw [h]; exact ⟨rfl, rfl, rfl⟩

def strLen (v : Value) : Nat := match v with
  | .string s => s.size
  | _ => 0

theorem l1Split58 (s : ByteArray) (hs : s.size ≤ 1048576) (w : World) :
    Calls Tryd.prog 25 #[.string s, .int .u8 58] w fun e w' => ∃ A n c', e = .returned (.slice A n c') ∧ n = (splitL 58 s.data.toList).length ∧ SlAt strS w' A ((splitL 58 s.data.toList).map mkB) ∧ Below w.heap.size w w' :=
  l1Split_any s hs 58 w

set_option maxHeartbeats 4000000 in
set_option maxRecDepth 100000 in
theorem roParse_any (s : ByteArray) (hs : s.size ≤ 1048576) (w : World) :
    Calls Tryd.prog 15 #[.string s] w fun e w' => ∃ A n c', e = .returned (.tuple #[.agg #[.int .i64 (pL 58 s.data.toList), .slice A n c'], .bool (pOk 58 s.data.toList)]) ∧ n = (pA 58 s.data.toList).length ∧ SlOwn pairS w' w.heap.size 52 (.slice A n c') (pA 58 s.data.toList) ∧ Below w.heap.size w w' := by
  have hl := len_toList s
  have HSPL := Lib.hid (l1Split58 s hs)
  obtain ⟨l, hgl⟩ : ∃ l, s.data.toList = l := ⟨_, rfl⟩
  rw [hgl] at hl HSPL ⊢
  clear hgl
  obtain ⟨i0, hi, hz0, hz1, hz2⟩ := info_parts antIp
  go_enter Tryd.func15, Tryd.ntmps15
  go_wp2_with fail
  refine (HSPL.out _).mono ?_
  rintro e w1 ⟨A, n, c', rfl, hn, hat, hb⟩
  have r0 : w1.cell? ⟨w.heap.size, 0, none⟩ = some (.int .i64 0) := by rw [hb.cell (p := ⟨w.heap.size, 0, none⟩) (by simp)]; simp [go_sem]
  have r1 : w1.cell? ⟨w.heap.size, 1, none⟩ = some (.slice none 0 0) := by rw [hb.cell (p := ⟨w.heap.size, 1, none⟩) (by simp)]; simp [go_sem]
  have f0 : w1.frozen? ⟨w.heap.size, 0, none⟩ = false := by rw [hb.frozen (p := ⟨w.heap.size, 0, none⟩) (by simp)]; simp [go_sem]
  have f1 : w1.frozen? ⟨w.heap.size, 1, none⟩ = false := by rw [hb.frozen (p := ⟨w.heap.size, 1, none⟩) (by simp)]; simp [go_sem]
  have hs1 : w.heap.size < w1.heap.size := by have := hb.size; simp at this; omega
  have HB := Lib.hid (((Below.refl _ w).alloc (Nat.le_refl _) (Obj.cells #[Value.int IntKind.i64 0, Value.slice none 0 0] 24)).trans (hb.mono (by simp)))
  clear hb
  by_cases h100 : 100 < s.size
  · have HV := Lib.hid (p_none (c := 58) (s := l) (by unfold pRod; rw [if_pos (by omega)]))
    go_wp2
    refine bodyPost_ret (v := .tuple #[.agg #[.int .i64 0, .slice none 0 0], .bool false]) (by simp [results, Tryd.results15, go_sem, r0, r1]) rfl ⟨none, 0, 0, ret_rod HV.out.1.symm rfl HV.out.2.2.symm, by rw [HV.out.2.1]; rfl, by rw [HV.out.2.1]; exact SlOwn.nil pairS _ _ _, ?_⟩
    exact (HB.out.setCell (by simp) _).setCell (by simp) _
  by_cases h2 : n = 2
  · subst h2
    obtain ⟨a, b, hab⟩ : ∃ a b, splitL 58 l = [a, b] := by
      match hq : splitL 58 l, hn with
      | [a, b], _ => exact ⟨a, b, rfl⟩
    have hsl := split_two 58 l a b hab
    have hlb : a.length + b.length + 1 = l.length := by rw [hsl]; simp; omega
    have hP : pRod 58 l = match pM b with
      | some m => if goodB (readL a) m then some (readL a, m) else none
      | none => none := by
      unfold pRod; rw [if_neg (by omega), hab]
    have HP := Lib.hid hP
    rw [hab] at hat
    obtain ⟨bk, off, rfl, l0, hc⟩ := hat.at_ (k := 0) (by simp)
    have p0 : w1.cell? ⟨bk, off, none⟩ = some (.string (mkB a)) := by have := hc 0 _ rfl 0 (by decide); simpa [strS] using this
    have p1 : w1.cell? ⟨bk, off + 1, none⟩ = some (.string (mkB b)) := by have := hc 1 _ rfl 0 (by decide); simpa [strS] using this
    have ha6 : (mkB a).size < 4294967281 := by rw [mkB_size]; omega
    have HRA : Hid (∀ W, Calls Tryd.prog 26 #[.string (mkB a)] W fun e w' => e = .returned (.int .i64 (readL a)) ∧ w' = W) := fun W => l1Read_any (mkB a) ha6 W
    clear hc hat hab hsl hP hn
    go_wp2_with fail
    refine (HRA.out _).mono ?_
    rintro e w2 ⟨rfl, hw2⟩
    obtain rfl : w1 = w2 := hw2.symm
    go_wp2
    clear p0 p1 HRA
    go_loopw [6] (fun r wr => ∃ (t : List UInt8) (m : List (Int × Int)) (A3 : Option Addr) (c3 : Nat), r = .string (mkB t) ∧ m.length + t.length ≤ b.length ∧ pM b = (pM t).map (m ++ ·) ∧ Below w1.heap.size w1 wr ∧ w1.heap.size < wr.heap.size ∧
        wr.cell? ⟨w1.heap.size, 0, none⟩ = some (.int .i64 (readL a)) ∧ wr.cell? ⟨w1.heap.size, 1, none⟩ = some (.slice A3 m.length c3) ∧ wr.frozen? ⟨w1.heap.size, 0, none⟩ = false ∧ wr.frozen? ⟨w1.heap.size, 1, none⟩ = false ∧ SlOwn pairS wr (w1.heap.size + 1) 52 (.slice A3 m.length c3) m)
      (fun r _ => strLen r)
    case atStart => exact ⟨b, [], none, 0, rfl, by simp, by cases pM b <;> rfl, (Below.refl _ _).alloc (Nat.le_refl _) _, by simp, by simp [go_sem], by simp [go_sem], by simp [go_sem], by simp [go_sem], SlOwn.nil pairS _ _ _⟩
    case round =>
      obtain ⟨t, m, A3, c3, rfl, hmt, hpm, hbr, hs3, o0, o1, g0, g1, hown⟩ := hrel
      obtain ⟨wo, rfl⟩ : ∃ wo, wo = wr := ⟨wr, rfl⟩
      have HBr := Lib.hid hbr
      have hsr : w.heap.size < wo.heap.size := by omega
      have r0 := Below.cell_some hbr r0
      have r1 := Below.cell_some hbr r1
      have f0 := (hbr.frozen (p := ⟨w.heap.size, 0, none⟩) hs1).trans f0
      have f1 := (hbr.frozen (p := ⟨w.heap.size, 1, none⟩) hs1).trans f1
      have HO := Lib.hid hown
      have HPM := Lib.hid hpm
      clear hbr hown hpm
      have HB5 := Lib.hid (HB.out.trans (HBr.out.mono (Nat.le_of_lt hs1)))
      cases t with
      | nil =>
        have hz : (mkB []).size = 0 := rfl
        have hpe : pM b = some m := by rw [HPM.out]; show (some ([] : List (Int × Int))).map (m ++ ·) = _; simp
        have HG := Lib.hid (fun W (hW : SlOwn pairS W (w1.heap.size + 1) 52 (.slice A3 m.length c3) m) => roGood_any (readL a) A3 c3 m W (slAt_ants hW.sl))
        cases hg : goodB (readL a) m with
        | false =>
          have HV := Lib.hid (p_none (c := 58) (s := l) (by rw [HP.out, hpe]; simp [hg]))
          rw [hg] at HG
          clear hpe hg
          go_wp2_with fail
          refine (HG.out _ HO.out).mono ?_
          rintro e w4 ⟨rfl, hb4⟩
          have r0 := Below.cell_some hb4 r0
          have r1 := Below.cell_some hb4 r1
          have f0 := (hb4.frozen (p := ⟨w.heap.size, 0, none⟩) hsr).trans f0
          have f1 := (hb4.frozen (p := ⟨w.heap.size, 1, none⟩) hsr).trans f1
          have HB6 := Lib.hid (HB5.out.trans (hb4.mono (Nat.le_of_lt hsr)))
          clear hb4
          go_wp2
          refine bodyPost_ret (v := .tuple #[.agg #[.int .i64 0, .slice none 0 0], .bool false]) (by simp [results, Tryd.results15, go_sem, r0, r1]) rfl ⟨none, 0, 0, ret_rod HV.out.1.symm rfl HV.out.2.2.symm, by rw [HV.out.2.1]; rfl, by rw [HV.out.2.1]; exact SlOwn.nil pairS _ _ _, ?_⟩
          exact (HB6.out.setCell (by simp) _).setCell (by simp) _
        | true =>
          have HV := Lib.hid (p_some (c := 58) (s := l) (L := readL a) (l := m) (by rw [HP.out, hpe]; simp [hg]))
          rw [hg] at HG
          clear hpe hg
          go_wp2_with fail
          refine (HG.out _ HO.out).mono ?_
          rintro e w4 ⟨rfl, hb4⟩
          have r0 := Below.cell_some hb4 r0
          have r1 := Below.cell_some hb4 r1
          have o0 := Below.cell_some hb4 o0
          have o1 := Below.cell_some hb4 o1
          have f0 := (hb4.frozen (p := ⟨w.heap.size, 0, none⟩) hsr).trans f0
          have f1 := (hb4.frozen (p := ⟨w.heap.size, 1, none⟩) hsr).trans f1
          have HB6 := Lib.hid (HB5.out.trans (hb4.mono (Nat.le_of_lt hsr)))
          have HO6 := Lib.hid (HO.out.below hb4)
          clear hb4
          go_wp2
          refine bodyPost_ret (v := .tuple #[.agg #[.int .i64 (readL a), .slice A3 m.length c3], .bool true]) (by simp [results, Tryd.results15, go_sem, r0, r1]) rfl ⟨A3, _, c3, ret_rod HV.out.1.symm rfl HV.out.2.2.symm, by rw [HV.out.2.1], ?_, ?_⟩
          · rw [HV.out.2.1]; exact ownsRow_base (ownsRow_setCell_below (ownsRow_setCell_below HO6.out (by simp; omega) _) (by simp; omega) _) (by omega)
          · exact (HB6.out.setCell (by simp) _).setCell (by simp) _
      | cons x tl =>
        have hz : (mkB (x :: tl)).size = tl.length + 1 := rfl
        have hmt' : m.length + (tl.length + 1) ≤ b.length := hmt
        have hbx := get_btL (mkB (x :: tl))
        rw [mkB_data] at hbx
        have hx0 : btL (x :: tl) 0 = (x.toNat : Int) := rfl
        by_cases hlr : x = 108 ∨ x = 114
        · obtain ⟨y, hy⟩ : ∃ y : Int, (x = 108 ∧ y = -1) ∨ (x = 114 ∧ y = 1) := hlr.elim (fun h => ⟨-1, .inl ⟨h, rfl⟩⟩) (fun h => ⟨1, .inr ⟨h, rfl⟩⟩)
          have hst : pM b = (pM (tl.dropWhile digB)).map ((m ++ [(readL (tl.takeWhile digB), y)]) ++ ·) := by
            have h := pM_step HPM.out hlr
            have hyy : (if x = 108 then (-1 : Int) else 1) = y := by rcases hy with ⟨rfl, rfl⟩ | ⟨rfl, rfl⟩ <;> rfl
            rw [hyy] at h; exact h
          have HST := Lib.hid hst
          clear hst hlr
          have hxs : ∀ j : Nat, (mkB (x :: tl)).extract 1 (j + 1) = mkB (tl.take j) := fun j => by rw [extract_mk]; rfl
          have HXS := Lib.hid hxs
          have hxr : ∀ j : Nat, (mkB (x :: tl)).extract (j + 1) (tl.length + 1) = mkB (tl.drop j) := fun j => by
            rw [extract_mk]
            show mkB (((x :: tl).take (tl.length + 1)).drop (j + 1)) = _
            rw [show (x :: tl).take (tl.length + 1) = x :: tl from List.take_of_length_le (by simp)]
            rfl
          have HXR := Lib.hid hxr
          clear hxs hxr
          have hbt : ∀ j : Nat, btL (x :: tl) (j + 1) = btL tl j := fun j => rfl
          have HBT := Lib.hid hbt
          clear hbt
          rcases hy with ⟨rfl, rfl⟩ | ⟨rfl, rfl⟩
          · have hx0 : btL (108 :: tl) 0 = 108 := rfl
            go_wp2
            go_loopw [8] (fun nn wr => ∃ j : Nat, j ≤ tl.length ∧ nn = .int .i64 ((j : Int) + 1) ∧ (tl.take j).all digB = true ∧ Below wo.heap.size wo wr ∧ wo.heap.size < wr.heap.size ∧
                wr.cell? ⟨wo.heap.size, 0, none⟩ = some (.int .i64 0) ∧ wr.cell? ⟨wo.heap.size, 1, none⟩ = some (.int .i64 (-1)) ∧ wr.frozen? ⟨wo.heap.size, 0, none⟩ = false ∧ wr.frozen? ⟨wo.heap.size, 1, none⟩ = false)
              (fun nn _ => tl.length + 1 - (intOf nn).toNat)
            case atStart => exact ⟨0, Nat.zero_le _, rfl, rfl, (Below.refl _ wo).alloc (Nat.le_refl _) _, by simp, by simp [go_sem], by simp [go_sem], by simp [go_sem], by simp [go_sem]⟩
            case round =>
              obtain ⟨j, hj, rfl, hall, hb2, hs2, a0, a1, q0, q1⟩ := hrel
              have HB2 := Lib.hid hb2
              have HALL := Lib.hid hall
              have hjs : ((j : Int) + 1).toNat = j + 1 := by omega
              have o1' := Below.cell_some hb2 o1
              clear hb2 hall
              have hdg := dig_bt (l := tl) (k := j)
              rw [← HBT.out] at hdg
              have HDG := Lib.hid hdg
              clear hdg
              have hways : (j < tl.length ∧ 48 ≤ btL (108 :: tl) (j + 1) ∧ btL (108 :: tl) (j + 1) ≤ 57) ∨ (¬ j < tl.length ∨ (j < tl.length ∧ btL (108 :: tl) (j + 1) < 48) ∨ (j < tl.length ∧ 48 ≤ btL (108 :: tl) (j + 1) ∧ 57 < btL (108 :: tl) (j + 1))) := by omega
              rcases hways with ⟨e1, e2, e3⟩ | hout
              · have hts := take_snoc tl (k := j) e1
                have HAL2 : Hid ((tl.take (j + 1)).all digB = true) := by
                  show _ = _
                  rw [hts, List.all_append, HALL.out]
                  show (true && (digB _ && true)) = true
                  rw [HDG.out, decide_eq_true e2, decide_eq_true e3]; rfl
                clear hts
                go_wp2
                go_roundw
                case rel => exact ⟨j + 1, by omega, by go_num, HAL2.out, HB2.out, hs2, a0, a1, q0, q1⟩
                case measure => simp [intOf]; omega
              · have HTE := Lib.hid (take_end tl hj HALL.out (by
                  rcases hout with h | ⟨h, h2⟩ | ⟨h, h2, h3⟩
                  · exact .inl (by omega)
                  · exact .inr (by rw [HDG.out, decide_eq_false (show ¬ 48 ≤ btL (108 :: tl) (j + 1) by omega)]; rfl)
                  · exact .inr (by rw [HDG.out, decide_eq_false (show ¬ btL (108 :: tl) (j + 1) ≤ 57 by omega), Bool.and_false])))
                have HRD : Hid (∀ W, Calls Tryd.prog 26 #[.string ((mkB (108 :: tl)).extract 1 (j + 1))] W fun e w' => e = .returned (.int .i64 (readL (tl.take j))) ∧ w' = W) := fun W => by
                  rw [HXS.out]; exact l1Read_any (mkB (tl.take j)) (by rw [mkB_size, List.length_take]; omega) W
                have HBW : Hid (∀ v o, Below wo.heap.size wo ((wr.setCell ⟨wo.heap.size, 0, none⟩ v).alloc o)) := fun v o => (HB2.out.setCell (Nat.le_refl _) _).alloc (by simp; omega) _
                have hml : m.length + 1 ≤ 1048576 := by omega
                rcases hout with h1 | ⟨h1, h2⟩ | ⟨h1, h2, h3⟩
                all_goals
                  go_wp2_with fail
                  refine (HRD.out _).mono ?_
                  rintro e w5 ⟨rfl, hw5⟩
                  obtain rfl : wr = w5 := hw5.symm
                  go_wp2_with (at_builtin; go_must (refine wpList_append_slsv pairS _ rfl _ _ 22 rfl (w1.heap.size + 1) 52 i0 _ 16 Tryd.underlying22 hi hz0 hz1 hz2 rfl (by decide) _ m rfl (HO.out.below (HBW.out _ _)) (some ⟨wr.heap.size, 0, none⟩) 1 1 [(readL (tl.take j), -1)] rfl rfl (slAt_oneP (heap_new (by simp))) (by simp only [List.length_cons, List.length_nil]; omega) (by simp; omega) ?_); intro A6 n6 k6 w6 hn6 hown6 hb6; have o0 := ((((HBW.out _ _).mono hs3).trans hb6).cell (p := ⟨w1.heap.size, 0, none⟩) (by simp)).trans o0; have o1 := ((((HBW.out _ _).mono hs3).trans hb6).cell (p := ⟨w1.heap.size, 1, none⟩) (by simp)).trans o1; have g0 := ((((HBW.out _ _).mono hs3).trans hb6).frozen (p := ⟨w1.heap.size, 0, none⟩) (by simp)).trans g0; have g1 := ((((HBW.out _ _).mono hs3).trans hb6).frozen (p := ⟨w1.heap.size, 1, none⟩) (by simp)).trans g1)
                  go_roundw
                  case rel =>
                    refine ⟨tl.drop j, m ++ [(readL (tl.take j), -1)], A6, k6, by rw [HXR.out], by simp; omega, by rw [HST.out, HTE.out.1, HTE.out.2], (HBr.out.trans ((((HBW.out _ _).mono hs3).trans hb6).mono (Nat.le_succ _))).setCell (Nat.le_refl _) _, ?_, ?_, ?_, ?_, ?_, ?_⟩
                    · have := hb6.size; simp at this ⊢; omega
                    · simp [go_sem, o0]
                    · simp [go_sem, o1]
                    · simp [go_sem, g0]
                    · simp [go_sem, g1]
                    · have hn7 : n6 = (m ++ [(readL (tl.take j), (-1 : Int))]).length := by simpa using hn6
                      rw [hn7] at hown6
                      exact ownsRow_setCell_below hown6 (by simp) _
                  case measure => rw [HXR.out]; simp [strLen, mkB_size]; omega
          · have hx0 : btL (114 :: tl) 0 = 114 := rfl
            go_wp2
            go_loopw [8] (fun nn wr => ∃ j : Nat, j ≤ tl.length ∧ nn = .int .i64 ((j : Int) + 1) ∧ (tl.take j).all digB = true ∧ Below wo.heap.size wo wr ∧ wo.heap.size < wr.heap.size ∧
                wr.cell? ⟨wo.heap.size, 0, none⟩ = some (.int .i64 0) ∧ wr.cell? ⟨wo.heap.size, 1, none⟩ = some (.int .i64 (1)) ∧ wr.frozen? ⟨wo.heap.size, 0, none⟩ = false ∧ wr.frozen? ⟨wo.heap.size, 1, none⟩ = false)
              (fun nn _ => tl.length + 1 - (intOf nn).toNat)
            case atStart => exact ⟨0, Nat.zero_le _, rfl, rfl, (Below.refl _ wo).alloc (Nat.le_refl _) _, by simp, by simp [go_sem], by simp [go_sem], by simp [go_sem], by simp [go_sem]⟩
            case round =>
              obtain ⟨j, hj, rfl, hall, hb2, hs2, a0, a1, q0, q1⟩ := hrel
              have HB2 := Lib.hid hb2
              have HALL := Lib.hid hall
              have hjs : ((j : Int) + 1).toNat = j + 1 := by omega
              have o1' := Below.cell_some hb2 o1
              clear hb2 hall
              have hdg := dig_bt (l := tl) (k := j)
              rw [← HBT.out] at hdg
              have HDG := Lib.hid hdg
              clear hdg
              have hways : (j < tl.length ∧ 48 ≤ btL (114 :: tl) (j + 1) ∧ btL (114 :: tl) (j + 1) ≤ 57) ∨ (¬ j < tl.length ∨ (j < tl.length ∧ btL (114 :: tl) (j + 1) < 48) ∨ (j < tl.length ∧ 48 ≤ btL (114 :: tl) (j + 1) ∧ 57 < btL (114 :: tl) (j + 1))) := by omega
              rcases hways with ⟨e1, e2, e3⟩ | hout
              · have hts := take_snoc tl (k := j) e1
                have HAL2 : Hid ((tl.take (j + 1)).all digB = true) := by
                  show _ = _
                  rw [hts, List.all_append, HALL.out]
                  show (true && (digB _ && true)) = true
                  rw [HDG.out, decide_eq_true e2, decide_eq_true e3]; rfl
                clear hts
                go_wp2
                go_roundw
                case rel => exact ⟨j + 1, by omega, by go_num, HAL2.out, HB2.out, hs2, a0, a1, q0, q1⟩
                case measure => simp [intOf]; omega
              · have HTE := Lib.hid (take_end tl hj HALL.out (by
                  rcases hout with h | ⟨h, h2⟩ | ⟨h, h2, h3⟩
                  · exact .inl (by omega)
                  · exact .inr (by rw [HDG.out, decide_eq_false (show ¬ 48 ≤ btL (114 :: tl) (j + 1) by omega)]; rfl)
                  · exact .inr (by rw [HDG.out, decide_eq_false (show ¬ btL (114 :: tl) (j + 1) ≤ 57 by omega), Bool.and_false])))
                have HRD : Hid (∀ W, Calls Tryd.prog 26 #[.string ((mkB (114 :: tl)).extract 1 (j + 1))] W fun e w' => e = .returned (.int .i64 (readL (tl.take j))) ∧ w' = W) := fun W => by
                  rw [HXS.out]; exact l1Read_any (mkB (tl.take j)) (by rw [mkB_size, List.length_take]; omega) W
                have HBW : Hid (∀ v o, Below wo.heap.size wo ((wr.setCell ⟨wo.heap.size, 0, none⟩ v).alloc o)) := fun v o => (HB2.out.setCell (Nat.le_refl _) _).alloc (by simp; omega) _
                have hml : m.length + 1 ≤ 1048576 := by omega
                rcases hout with h1 | ⟨h1, h2⟩ | ⟨h1, h2, h3⟩
                all_goals
                  go_wp2_with fail
                  refine (HRD.out _).mono ?_
                  rintro e w5 ⟨rfl, hw5⟩
                  obtain rfl : wr = w5 := hw5.symm
                  go_wp2_with (at_builtin; go_must (refine wpList_append_slsv pairS _ rfl _ _ 22 rfl (w1.heap.size + 1) 52 i0 _ 16 Tryd.underlying22 hi hz0 hz1 hz2 rfl (by decide) _ m rfl (HO.out.below (HBW.out _ _)) (some ⟨wr.heap.size, 0, none⟩) 1 1 [(readL (tl.take j), 1)] rfl rfl (slAt_oneP (heap_new (by simp))) (by simp only [List.length_cons, List.length_nil]; omega) (by simp; omega) ?_); intro A6 n6 k6 w6 hn6 hown6 hb6; have o0 := ((((HBW.out _ _).mono hs3).trans hb6).cell (p := ⟨w1.heap.size, 0, none⟩) (by simp)).trans o0; have o1 := ((((HBW.out _ _).mono hs3).trans hb6).cell (p := ⟨w1.heap.size, 1, none⟩) (by simp)).trans o1; have g0 := ((((HBW.out _ _).mono hs3).trans hb6).frozen (p := ⟨w1.heap.size, 0, none⟩) (by simp)).trans g0; have g1 := ((((HBW.out _ _).mono hs3).trans hb6).frozen (p := ⟨w1.heap.size, 1, none⟩) (by simp)).trans g1)
                  go_roundw
                  case rel =>
                    refine ⟨tl.drop j, m ++ [(readL (tl.take j), 1)], A6, k6, by rw [HXR.out], by simp; omega, by rw [HST.out, HTE.out.1, HTE.out.2], (HBr.out.trans ((((HBW.out _ _).mono hs3).trans hb6).mono (Nat.le_succ _))).setCell (Nat.le_refl _) _, ?_, ?_, ?_, ?_, ?_, ?_⟩
                    · have := hb6.size; simp at this ⊢; omega
                    · simp [go_sem, o0]
                    · simp [go_sem, o1]
                    · simp [go_sem, g0]
                    · simp [go_sem, g1]
                    · have hn7 : n6 = (m ++ [(readL (tl.take j), (1 : Int))]).length := by simpa using hn6
                      rw [hn7] at hown6
                      exact ownsRow_setCell_below hown6 (by simp) _
                  case measure => rw [HXR.out]; simp [strLen, mkB_size]; omega
        · have n1 : ¬ btL (x :: tl) 0 = 108 := fun h => hlr (.inl (getD_inj (c := 108).mp h))
          have n2 : ¬ btL (x :: tl) 0 = 114 := fun h => hlr (.inr (getD_inj (c := 114).mp h))
          have HV := Lib.hid (p_none (c := 58) (s := l) (by rw [HP.out, pM_stop HPM.out hlr]))
          clear hx0
          go_wp2
          refine bodyPost_ret (v := .tuple #[.agg #[.int .i64 0, .slice none 0 0], .bool false]) (by simp [results, Tryd.results15, go_sem, r0, r1, hsr]) rfl ⟨none, 0, 0, ret_rod HV.out.1.symm rfl HV.out.2.2.symm, by rw [HV.out.2.1]; rfl, by rw [HV.out.2.1]; exact SlOwn.nil pairS _ _ _, ?_⟩
          exact ((HB5.out.setCell (by simp) _).setCell (by simp) _).alloc (by simp; omega) _
  · have hn2 : ((n : Int) != 2) = true := by simp; omega
    have HV := Lib.hid (p_none (c := 58) (s := l) (by
      unfold pRod
      rw [if_neg (by omega)]
      split
      · rename_i hq; rw [hq] at hn; simp at hn; omega
      · rfl))
    clear hn hat
    go_wp2
    refine bodyPost_ret (v := .tuple #[.agg #[.int .i64 0, .slice none 0 0], .bool false]) (by simp [results, Tryd.results15, go_sem, r0, r1]) rfl ⟨none, 0, 0, ret_rod HV.out.1.symm rfl HV.out.2.2.symm, by rw [HV.out.2.1]; rfl, by rw [HV.out.2.1]; exact SlOwn.nil pairS _ _ _, ?_⟩
    exact (HB.out.setCell (by simp) _).setCell (by simp) _
end Go.Proofs.YtpchgmcegholoaaDoor
