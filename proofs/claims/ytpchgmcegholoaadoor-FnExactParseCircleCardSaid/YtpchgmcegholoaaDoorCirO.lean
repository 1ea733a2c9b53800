/- The contract of spec.ciParse. -/
import Derived.Test.YtpchgmcegholoaaDoorCirP
namespace Go.Proofs.YtpchgmcegholoaaDoor
open Go.RowKit

theorem bne_of {a b : Int} (h : ¬ a = b) : (a != b) = true := by simpa using h
theorem bne_no {a b : Int} (h : a = b) : (a != b) = false := by simpa using h
theorem lr_bt {l : List UInt8} {k : Nat} : notLr (l.getD k 0) = (!decide (btL l k = 108) && !decide (btL l k = 114)) := by
  have h1 : decide (btL l k = 108) = decide (l.getD k 0 = 108) := by
    rw [decide_eq_decide]; exact getD_inj (c := 108)
  have h2 : decide (btL l k = 114) = decide (l.getD k 0 = 114) := by
    rw [decide_eq_decide]; exact getD_inj (c := 114)
  rw [h1, h2]
  unfold notLr
  generalize l.getD k 0 = b
  cases e1 : decide (b = 108) <;> cases e2 : decide (b = 114) <;> simp_all
theorem l1Split64 (s : ByteArray) (hs : s.size ≤ 1048576) (w : World) :
    Calls Tryd.prog 25 #[.string s, .int .u8 64] w fun e w' => ∃ A n c', e = .returned (.slice A n c') ∧ n = (splitL 64 s.data.toList).length ∧ SlAt strS w' A ((splitL 64 s.data.toList).map mkB) ∧ Below w.heap.size w w' :=
  l1Split_any s hs 64 w

/-- what stands while the last check runs, whatever has been stored of it -/
def KC (w : World) (B1 : Nat) (L : Int) (A : Option Addr) (m : List (Int × Int)) (c : Nat) (W : World) (v0 v1 : Value) : Prop :=
  Below w.heap.size w W ∧ w.heap.size < B1 ∧ B1 < W.heap.size ∧ W.cell? ⟨B1, 0, none⟩ = some (.int .i64 L) ∧ W.cell? ⟨B1, 1, none⟩ = some (.slice A m.length c) ∧
  W.cell? ⟨w.heap.size, 0, none⟩ = some v0 ∧ W.cell? ⟨w.heap.size, 1, none⟩ = some v1 ∧ W.frozen? ⟨w.heap.size, 0, none⟩ = false ∧ W.frozen? ⟨w.heap.size, 1, none⟩ = false ∧
  SlOwn pairS W (B1 + 1) 52 (.slice A m.length c) m
section
variable {w W W' : World} {B1 c : Nat} {L : Int} {A : Option Addr} {m : List (Int × Int)} {v0 v1 : Value}
theorem KC.own (h : KC w B1 L A m c W v0 v1) : SlOwn pairS W (B1 + 1) 52 (.slice A m.length c) m := h.2.2.2.2.2.2.2.2.2
theorem KC.below0 (h : KC w B1 L A m c W v0 v1) : Below w.heap.size w W := h.1
theorem KC.below (h : KC w B1 L A m c W v0 v1) (hb : Below W.heap.size W W') : KC w B1 L A m c W' v0 v1 := by
  obtain ⟨h1, h2, h3, o0, o1, r0, r1, f0, f1, ho⟩ := h
  have hz := hb.size
  exact ⟨h1.trans (hb.mono h1.size), h2, by omega, Below.cell_some hb o0, Below.cell_some hb o1, Below.cell_some hb r0, Below.cell_some hb r1,
    (hb.frozen (p := ⟨w.heap.size, 0, none⟩) (by show w.heap.size < _; omega)).trans f0, (hb.frozen (p := ⟨w.heap.size, 1, none⟩) (by show w.heap.size < _; omega)).trans f1, ho.below hb⟩
theorem KC.store (h : KC w B1 L A m c W v0 v1) : KC w B1 L A m c ((W.setCell ⟨w.heap.size, 0, none⟩ (.int .i64 L)).setCell ⟨w.heap.size, 1, none⟩ (.slice A m.length c)) (.int .i64 L) (.slice A m.length c) := by
  obtain ⟨h1, h2, h3, o0, o1, r0, r1, f0, f1, ho⟩ := h
  refine ⟨(h1.setCell (by simp) _).setCell (by simp) _, h2, by simpa using h3, ?_, ?_, ?_, ?_, ?_, ?_, ownsRow_setCell_below (ownsRow_setCell_below ho (by simp; omega) _) (by simp; omega) _⟩
  · simp [go_sem, o0]
  · simp [go_sem, o1]
  · simp [go_sem, r0]
  · simp [go_sem, r1]
  · simp [go_sem, f0]
  · simp [go_sem, f1]
end

set_option maxHeartbeats 8000000 in
set_option maxRecDepth 100000 in
theorem ciParse_any (s : ByteArray) (hs : s.size ≤ 1048576) (w : World) :
    Calls Tryd.prog 23 #[.string s] w fun e w' => ∃ L A n c', e = .returned (.tuple #[.agg #[.int .i64 L, .slice A n c'], .bool (qOk s.data.toList)]) ∧ Below w.heap.size w w' ∧ ∃ m, n = m.length ∧ SlOwn pairS w' w.heap.size 52 (.slice A n c') m ∧ (qOk s.data.toList = true → L = qL s.data.toList ∧ m = qA s.data.toList ∧ m.length ≤ 16) := by
  have hl := len_toList s
  have HSPL := Lib.hid (l1Split64 s hs)
  obtain ⟨l, hgl⟩ : ∃ l, s.data.toList = l := ⟨_, rfl⟩
  rw [hgl] at hl HSPL ⊢
  have HGL := Lib.hid hgl
  clear hgl
  obtain ⟨i0, hi, hz0, hz1, hz2⟩ := info_parts antIp
  go_enter Tryd.func23, Tryd.ntmps23
  go_wp2_with fail
  refine (HSPL.out _).mono ?_
  rintro e w1 ⟨A, n, c', rfl, hn, hat, hb⟩
  have r0 : w1.cell? ⟨w.heap.size, 0, none⟩ = some (.int .i64 0) := by rw [hb.cell (p := ⟨w.heap.size, 0, none⟩) (by simp)]; simp [go_sem]
  have r1 : w1.cell? ⟨w.heap.size, 1, none⟩ = some (.slice none 0 0) := by rw [hb.cell (p := ⟨w.heap.size, 1, none⟩) (by simp)]; simp [go_sem]
  have f0 : w1.frozen? ⟨w.heap.size, 0, none⟩ = false := by rw [hb.frozen (p := ⟨w.heap.size, 0, none⟩) (by simp)]; simp [go_sem]
  have f1 : w1.frozen? ⟨w.heap.size, 1, none⟩ = false := by rw [hb.frozen (p := ⟨w.heap.size, 1, none⟩) (by simp)]; simp [go_sem]
  have hs1 : w.heap.size < w1.heap.size := by have := hb.size; simp at this; omega
  have HB := Lib.hid (((Below.refl _ w).alloc (Nat.le_refl _) (Obj.cells #[Value.int IntKind.i64 0, Value.slice none 0 0] 30)).trans (hb.mono (by simp)))
  clear hb
  by_cases h100 : 100 < s.size
  · have HV := Lib.hid ((fun h => (q_none (s := l) h).2.2) (by unfold qRod; rw [if_pos (by omega)]))
    go_wp2
    refine bodyPost_ret (v := .tuple #[.agg #[.int .i64 0, .slice none 0 0], .bool false]) (by simp [results, Tryd.results23, go_sem, r0, r1]) rfl ⟨0, none, 0, 0, by rw [HV.out], ?_, [], rfl, SlOwn.nil pairS _ _ _, fun h => by rw [HV.out] at h; cases h⟩
    exact (HB.out.setCell (by simp) _).setCell (by simp) _
  by_cases h2 : n = 2
  · subst h2
    obtain ⟨a, b, hab⟩ : ∃ a b, splitL 64 l = [a, b] := by
      match hq : splitL 64 l, hn with
      | [a, b], _ => exact ⟨a, b, rfl⟩
    have hsl := split_two 64 l a b hab
    have hlb : a.length + b.length + 1 = l.length := by rw [hsl]; simp; omega
    have hP : qRod l = match pN b with
      | some m => if ciB (readL a) m = true ∧ txt 64 (readL a) m = l then some (readL a, m) else none
      | none => none := by
      unfold qRod; rw [if_neg (by omega), hab]; rfl
    have HP := Lib.hid hP
    rw [hab] at hat
    obtain ⟨bk, off, rfl, l0, hc⟩ := hat.at_ (k := 0) (by simp)
    have p0 : w1.cell? ⟨bk, off, none⟩ = some (.string (mkB a)) := by have := hc 0 _ rfl 0 (by decide); simpa [strS] using this
    have p1 : w1.cell? ⟨bk, off + 1, none⟩ = some (.string (mkB b)) := by have := hc 1 _ rfl 0 (by decide); simpa [strS] using this
    have ha6 : (mkB a).size < 4294967281 := by rw [mkB_size]; omega
    have HRA : Hid (∀ W, Calls Tryd.prog 26 #[.string (mkB a)] W fun e w' => e = .returned (.int .i64 (readL a)) ∧ w' = W) := fun W => l1Read_any (mkB a) ha6 W
    clear hc hat hab hsl hP hn
    go_wp2_with fail
    refine (HRA.out _).mono ?_
    rintro e w2 ⟨rfl, hw2⟩
    obtain rfl : w1 = w2 := hw2.symm
    go_wp2
    clear p0 p1 HRA
    go_loopw [6] (fun r wr => ∃ (t : List UInt8) (m : List (Int × Int)) (A3 : Option Addr) (c3 : Nat), r = .string (mkB t) ∧ m.length + t.length ≤ b.length ∧ pN b = (pN t).map (m ++ ·) ∧ Below w1.heap.size w1 wr ∧ w1.heap.size < wr.heap.size ∧
        wr.cell? ⟨w1.heap.size, 0, none⟩ = some (.int .i64 (readL a)) ∧ wr.cell? ⟨w1.heap.size, 1, none⟩ = some (.slice A3 m.length c3) ∧ wr.frozen? ⟨w1.heap.size, 0, none⟩ = false ∧ wr.frozen? ⟨w1.heap.size, 1, none⟩ = false ∧ SlOwn pairS wr (w1.heap.size + 1) 52 (.slice A3 m.length c3) m)
      (fun r _ => strLen r)
    case atStart => exact ⟨b, [], none, 0, rfl, by simp, by cases pN b <;> rfl, (Below.refl _ _).alloc (Nat.le_refl _) _, by simp, by simp [go_sem], by simp [go_sem], by simp [go_sem], by simp [go_sem], SlOwn.nil pairS _ _ _⟩
    case round =>
      obtain ⟨t, m, A3, c3, rfl, hmt, hpm, hbr, hs3, o0, o1, g0, g1, hown⟩ := hrel
      obtain ⟨wo, rfl⟩ : ∃ wo, wo = wr := ⟨wr, rfl⟩
      have HBr := Lib.hid hbr
      have hsr : w.heap.size < wo.heap.size := by omega
      have r0 := Below.cell_some hbr r0
      have r1 := Below.cell_some hbr r1
      have f0 := (hbr.frozen (p := ⟨w.heap.size, 0, none⟩) hs1).trans f0
      have f1 := (hbr.frozen (p := ⟨w.heap.size, 1, none⟩) hs1).trans f1
      have HO := Lib.hid hown
      have HPM := Lib.hid hpm
      clear hbr hown hpm
      have HB5 := Lib.hid (HB.out.trans (HBr.out.mono (Nat.le_of_lt hs1)))
      cases t with
      | nil =>
        have hz : (mkB []).size = 0 := rfl
        have hpe : pN b = some m := by rw [HPM.out]; show (some ([] : List (Int × Int))).map (m ++ ·) = _; simp
        have hQ : qRod l = if ciB (readL a) m = true ∧ txt 64 (readL a) m = l then some (readL a, m) else none := by rw [HP.out, hpe]
        clear hpe
        have hsw : w1.heap.size < wo.heap.size := hs3
        have hKd : KC w w1.heap.size (readL a) A3 m c3 wo.drew (.int .i64 0) (.slice none 0 0) :=
          ⟨HB5.out.trans ((Below.refl _ wo).drew.mono (Nat.le_of_lt hsr)), hs1, hsw, o0, o1, r0, r1, f0, f1, HO.out.below (Below.refl _ wo).drew⟩
        have KD := Lib.hid hKd
        clear hKd
        cases hg : ciB (readL a) m with
        | false =>
          have HV := Lib.hid ((fun h => (q_none (s := l) h).2.2) (hQ.trans (if_neg (fun h => by rw [hg] at h; cases h.1))))
          have HG : Hid (∀ W v0 v1, KC w w1.heap.size (readL a) A3 m c3 W v0 v1 → Calls Tryd.prog 37 #[.agg #[.int .i64 (readL a), .slice A3 m.length c3]] W fun e w' => e = .returned (.bool false) ∧ KC w w1.heap.size (readL a) A3 m c3 w' v0 v1) := fun W v0 v1 h => by
            refine (ciGood_any (readL a) A3 c3 m W (slAt_ants h.own.sl)).mono ?_
            rintro e w' ⟨rfl, hb⟩
            exact ⟨by rw [hg], h.below hb⟩
          clear hg hQ
          go_wp2
          first | go_region_with (go_at_call 37; (first | (with_reducible refine (HG.out _ _ _ KD.out).mono ?_) | (with_reducible refine (HG.out _ _ _ KD.out.store).mono ?_)); rintro e w4 ⟨rfl, hk4⟩; obtain ⟨_, _, _, o0, o1, r0, r1, f0, f1, _⟩ := id hk4; have K4 := Lib.hid hk4; clear hk4) | fail
          all_goals (
            go_wp2
            refine bodyPost_ret (v := .tuple #[.agg #[.int .i64 (readL a), .slice A3 m.length c3], .bool false]) (by simp [results, Tryd.results23, go_sem, r0, r1]) rfl ⟨_, A3, _, c3, by rw [HV.out], ?_, m, rfl, ?_, fun h => by rw [HV.out] at h; cases h⟩
            · first | exact K4.out.below0 | exact K4.out.store.below0
            · first | exact ownsRow_base K4.out.own (by omega) | exact ownsRow_base K4.out.store.own (by omega))
        | true =>
          obtain ⟨g0, g1, g2, g3⟩ := ciB_ok hg
          have HG3 := Lib.hid g3
          have HG : Hid (∀ W v0 v1, KC w w1.heap.size (readL a) A3 m c3 W v0 v1 → Calls Tryd.prog 37 #[.agg #[.int .i64 (readL a), .slice A3 m.length c3]] W fun e w' => e = .returned (.bool true) ∧ KC w w1.heap.size (readL a) A3 m c3 w' v0 v1) := fun W v0 v1 h => by
            refine (ciGood_any (readL a) A3 c3 m W (slAt_ants h.own.sl)).mono ?_
            rintro e w' ⟨rfl, hb⟩
            exact ⟨by rw [hg], h.below hb⟩
          have HTX : Hid (∀ W v0 v1, KC w w1.heap.size (readL a) A3 m c3 W v0 v1 → Calls Tryd.prog 38 #[.agg #[.int .i64 (readL a), .slice A3 m.length c3]] W fun e w' => e = .returned (.string (cirT (readL a) m)) ∧ KC w w1.heap.size (readL a) A3 m c3 w' v0 v1) := fun W v0 v1 h => by
            refine (ciText_any (readL a) A3 c3 m W g0 g1 g2 HG3.out (slAt_ants h.own.sl)).mono ?_
            rintro e w' ⟨rfl, hb⟩
            exact ⟨by unfold cirT; rw [hg, if_pos rfl], h.below hb⟩
          by_cases he : cirT (readL a) m = s
          · have htx : txt 64 (readL a) m = l := by rw [← cirT_list hg, he]; exact HGL.out
            have HV := Lib.hid (q_some (s := l) (L := readL a) (l := m) (hQ.trans (if_pos ⟨hg, htx⟩)))
            rw [he] at HTX
            have HM := Lib.hid g2
            clear hg hQ he htx g0 g1 g2 g3
            go_wp2
            go_region_with (first
              | (go_at_call 37; (first | (with_reducible refine (HG.out _ _ _ KD.out).mono ?_) | (with_reducible refine (HG.out _ _ _ KD.out.store).mono ?_)); rintro e w4 ⟨rfl, hk4⟩; obtain ⟨_, _, _, o0, o1, r0, r1, f0, f1, _⟩ := id hk4; have K4 := Lib.hid hk4; clear hk4)
              | (go_at_call 38; (first | (with_reducible refine (HTX.out _ _ _ K4.out).mono ?_) | (with_reducible refine (HTX.out _ _ _ K4.out.store).mono ?_)); rintro e w5 ⟨rfl, hk5⟩; obtain ⟨_, _, _, o0, o1, r0, r1, f0, f1, _⟩ := id hk5; have K5 := Lib.hid hk5; clear hk5))
            all_goals (
              go_wp2
              refine bodyPost_ret (v := .tuple #[.agg #[.int .i64 (readL a), .slice A3 m.length c3], .bool true]) (by simp [results, Tryd.results23, go_sem, r0, r1]) rfl ⟨_, A3, _, c3, by rw [HV.out.2.2], ?_, m, rfl, ?_, fun _ => ⟨HV.out.1.symm, HV.out.2.1.symm, HM.out⟩⟩
              · first | exact K5.out.below0 | exact K5.out.store.below0
              · first | exact ownsRow_base K5.out.own (by omega) | exact ownsRow_base K5.out.store.own (by omega))
          · have HV := Lib.hid ((fun h => (q_none (s := l) h).2.2) (hQ.trans (if_neg (fun h => he (by
              have h2 : (cirT (readL a) m).data.toList = s.data.toList := by rw [cirT_list hg, h.2]; exact HGL.out.symm
              exact ByteArray.ext (Array.toList_inj.mp h2))))))
            generalize cirT (readL a) m = rt at *
            have he2 : (rt.toList == s.toList) = false := by
              rw [beq_eq_false_iff_ne]
              intro h2
              rw [Lib.toList_data, Lib.toList_data] at h2
              exact he (ByteArray.ext (Array.toList_inj.mp h2))
            clear hg hQ g0 g1 g2 g3
            go_wp2
            go_region_with (first
              | (go_at_call 37; (first | (with_reducible refine (HG.out _ _ _ KD.out).mono ?_) | (with_reducible refine (HG.out _ _ _ KD.out.store).mono ?_)); rintro e w4 ⟨rfl, hk4⟩; obtain ⟨_, _, _, o0, o1, r0, r1, f0, f1, _⟩ := id hk4; have K4 := Lib.hid hk4; clear hk4)
              | (go_at_call 38; (first | (with_reducible refine (HTX.out _ _ _ K4.out).mono ?_) | (with_reducible refine (HTX.out _ _ _ K4.out.store).mono ?_)); rintro e w5 ⟨rfl, hk5⟩; obtain ⟨_, _, _, o0, o1, r0, r1, f0, f1, _⟩ := id hk5; have K5 := Lib.hid hk5; clear hk5))
            all_goals (
              go_wp2
              refine bodyPost_ret (v := .tuple #[.agg #[.int .i64 (readL a), .slice A3 m.length c3], .bool false]) (by simp [results, Tryd.results23, go_sem, r0, r1]) rfl ⟨_, A3, _, c3, by rw [HV.out], ?_, m, rfl, ?_, fun h => by rw [HV.out] at h; cases h⟩
              · first | exact K5.out.below0 | exact K5.out.store.below0
              · first | exact ownsRow_base K5.out.own (by omega) | exact ownsRow_base K5.out.store.own (by omega))
      | cons x tl =>
        have hz : (mkB (x :: tl)).size = tl.length + 1 := rfl
        have hmt' : m.length + (tl.length + 1) ≤ b.length := hmt
        have hbx := get_btL (mkB (x :: tl))
        rw [mkB_data] at hbx
        have hx0 : btL (x :: tl) 0 = (x.toNat : Int) := rfl
        by_cases hlr : x = 108 ∨ x = 114
        · obtain ⟨y, hy⟩ : ∃ y : Int, (x = 108 ∧ y = -1) ∨ (x = 114 ∧ y = 1) := hlr.elim (fun h => ⟨-1, .inl ⟨h, rfl⟩⟩) (fun h => ⟨1, .inr ⟨h, rfl⟩⟩)
          have hst : pN b = (pN (tl.dropWhile notLr)).map ((m ++ [(readL (tl.takeWhile notLr), y)]) ++ ·) := by
            have h := pN_step HPM.out hlr
            have hyy : (if x = 108 then (-1 : Int) else 1) = y := by rcases hy with ⟨rfl, rfl⟩ | ⟨rfl, rfl⟩ <;> rfl
            rw [hyy] at h; exact h
          have HST := Lib.hid hst
          clear hst hlr
          have hxs : ∀ j : Nat, (mkB (x :: tl)).extract 1 (j + 1) = mkB (tl.take j) := fun j => by rw [extract_mk]; rfl
          have HXS := Lib.hid hxs
          have hxr : ∀ j : Nat, (mkB (x :: tl)).extract (j + 1) (tl.length + 1) = mkB (tl.drop j) := fun j => by
            rw [extract_mk]
            show mkB (((x :: tl).take (tl.length + 1)).drop (j + 1)) = _
            rw [show (x :: tl).take (tl.length + 1) = x :: tl from List.take_of_length_le (by simp)]
            rfl
          have HXR := Lib.hid hxr
          clear hxs hxr
          have hbt : ∀ j : Nat, btL (x :: tl) (j + 1) = btL tl j := fun j => rfl
          have HBT := Lib.hid hbt
          clear hbt
          rcases hy with ⟨rfl, rfl⟩ | ⟨rfl, rfl⟩
          · have hx0 : btL (108 :: tl) 0 = 108 := rfl
            go_wp2
            go_loopw [8] (fun nn wr => ∃ j : Nat, j ≤ tl.length ∧ nn = .int .i64 ((j : Int) + 1) ∧ (tl.take j).all notLr = true ∧ Below wo.heap.size wo wr ∧ wo.heap.size < wr.heap.size ∧
                wr.cell? ⟨wo.heap.size, 0, none⟩ = some (.int .i64 0) ∧ wr.cell? ⟨wo.heap.size, 1, none⟩ = some (.int .i64 (-1)) ∧ wr.frozen? ⟨wo.heap.size, 0, none⟩ = false ∧ wr.frozen? ⟨wo.heap.size, 1, none⟩ = false)
              (fun nn _ => tl.length + 1 - (intOf nn).toNat)
            case atStart => exact ⟨0, Nat.zero_le _, rfl, rfl, (Below.refl _ wo).alloc (Nat.le_refl _) _, by simp, by simp [go_sem], by simp [go_sem], by simp [go_sem], by simp [go_sem]⟩
            case round =>
              obtain ⟨j, hj, rfl, hall, hb2, hs2, a0, a1, q0, q1⟩ := hrel
              have HB2 := Lib.hid hb2
              have HALL := Lib.hid hall
              have hjs : ((j : Int) + 1).toNat = j + 1 := by omega
              have o1' := Below.cell_some hb2 o1
              clear hb2 hall
              have hdg := lr_bt (l := tl) (k := j)
              rw [← HBT.out] at hdg
              have HDG := Lib.hid hdg
              clear hdg
              have hways : (j < tl.length ∧ ¬ btL (108 :: tl) (j + 1) = 108 ∧ ¬ btL (108 :: tl) (j + 1) = 114) ∨ (¬ j < tl.length ∨ (j < tl.length ∧ btL (108 :: tl) (j + 1) = 108) ∨ (j < tl.length ∧ ¬ btL (108 :: tl) (j + 1) = 108 ∧ btL (108 :: tl) (j + 1) = 114)) := by omega
              rcases hways with ⟨e1, e2, e3⟩ | hout
              · have hts := take_snoc tl (k := j) e1
                have HAL2 : Hid ((tl.take (j + 1)).all notLr = true) := by
                  show _ = _
                  rw [hts, List.all_append, HALL.out]
                  show (true && (notLr _ && true)) = true
                  rw [HDG.out, decide_eq_false e2, decide_eq_false e3]; rfl
                clear hts
                have e4 := bne_of e2
                have e5 := bne_of e3
                go_wp2
                go_roundw
                case rel => exact ⟨j + 1, by omega, by go_num, HAL2.out, HB2.out, hs2, a0, a1, q0, q1⟩
                case measure => simp [intOf]; omega
              · have HTE := Lib.hid (take_endN tl hj HALL.out (by
                  rcases hout with h | ⟨h, h2⟩ | ⟨h, h2, h3⟩
                  · exact .inl (by omega)
                  · exact .inr (by rw [HDG.out, decide_eq_true h2]; rfl)
                  · exact .inr (by rw [HDG.out, decide_eq_true h3]; simp)))
                have HRD : Hid (∀ W, Calls Tryd.prog 26 #[.string ((mkB (108 :: tl)).extract 1 (j + 1))] W fun e w' => e = .returned (.int .i64 (readL (tl.take j))) ∧ w' = W) := fun W => by
                  rw [HXS.out]; exact l1Read_any (mkB (tl.take j)) (by rw [mkB_size, List.length_take]; omega) W
                have HBW : Hid (∀ v o, Below wo.heap.size wo ((wr.setCell ⟨wo.heap.size, 0, none⟩ v).alloc o)) := fun v o => (HB2.out.setCell (Nat.le_refl _) _).alloc (by simp; omega) _
                have hml : m.length + 1 ≤ 1048576 := by omega
                rcases hout with h1 | ⟨h1, h2⟩ | ⟨h1, h2, h3⟩
                all_goals
                  try have h4 := bne_of h2
                  try have h4 := bne_no h2
                  try have h5 := bne_no h3
                  go_wp2_with fail
                  refine (HRD.out _).mono ?_
                  rintro e w5 ⟨rfl, hw5⟩
                  obtain rfl : wr = w5 := hw5.symm
                  go_wp2_with (at_builtin; go_must (refine wpList_append_slsv pairS _ rfl _ _ 22 rfl (w1.heap.size + 1) 52 i0 _ 16 Tryd.underlying22 hi hz0 hz1 hz2 rfl (by decide) _ m rfl (HO.out.below (HBW.out _ _)) (some ⟨wr.heap.size, 0, none⟩) 1 1 [(readL (tl.take j), -1)] rfl rfl (slAt_oneP (heap_new (by simp))) (by simp only [List.length_cons, List.length_nil]; omega) (by simp; omega) ?_); intro A6 n6 k6 w6 hn6 hown6 hb6; have o0 := ((((HBW.out _ _).mono hs3).trans hb6).cell (p := ⟨w1.heap.size, 0, none⟩) (by simp)).trans o0; have o1 := ((((HBW.out _ _).mono hs3).trans hb6).cell (p := ⟨w1.heap.size, 1, none⟩) (by simp)).trans o1; have g0 := ((((HBW.out _ _).mono hs3).trans hb6).frozen (p := ⟨w1.heap.size, 0, none⟩) (by simp)).trans g0; have g1 := ((((HBW.out _ _).mono hs3).trans hb6).frozen (p := ⟨w1.heap.size, 1, none⟩) (by simp)).trans g1)
                  go_roundw
                  case rel =>
                    refine ⟨tl.drop j, m ++ [(readL (tl.take j), -1)], A6, k6, by rw [HXR.out], by simp; omega, by rw [HST.out, HTE.out.1, HTE.out.2], (HBr.out.trans ((((HBW.out _ _).mono hs3).trans hb6).mono (Nat.le_succ _))).setCell (Nat.le_refl _) _, ?_, ?_, ?_, ?_, ?_, ?_⟩
                    · have := hb6.size; simp at this ⊢; omega
                    · simp [go_sem, o0]
                    · simp [go_sem, o1]
                    · simp [go_sem, g0]
                    · simp [go_sem, g1]
                    · have hn7 : n6 = (m ++ [(readL (tl.take j), (-1 : Int))]).length := by simpa using hn6
                      rw [hn7] at hown6
                      exact ownsRow_setCell_below hown6 (by simp) _
                  case measure => rw [HXR.out]; simp [strLen, mkB_size]; omega
          · have hx0 : btL (114 :: tl) 0 = 114 := rfl
            go_wp2
            go_loopw [8] (fun nn wr => ∃ j : Nat, j ≤ tl.length ∧ nn = .int .i64 ((j : Int) + 1) ∧ (tl.take j).all notLr = true ∧ Below wo.heap.size wo wr ∧ wo.heap.size < wr.heap.size ∧
                wr.cell? ⟨wo.heap.size, 0, none⟩ = some (.int .i64 0) ∧ wr.cell? ⟨wo.heap.size, 1, none⟩ = some (.int .i64 (1)) ∧ wr.frozen? ⟨wo.heap.size, 0, none⟩ = false ∧ wr.frozen? ⟨wo.heap.size, 1, none⟩ = false)
              (fun nn _ => tl.length + 1 - (intOf nn).toNat)
            case atStart => exact ⟨0, Nat.zero_le _, rfl, rfl, (Below.refl _ wo).alloc (Nat.le_refl _) _, by simp, by simp [go_sem], by simp [go_sem], by simp [go_sem], by simp [go_sem]⟩
            case round =>
              obtain ⟨j, hj, rfl, hall, hb2, hs2, a0, a1, q0, q1⟩ := hrel
              have HB2 := Lib.hid hb2
              have HALL := Lib.hid hall
              have hjs : ((j : Int) + 1).toNat = j + 1 := by omega
              have o1' := Below.cell_some hb2 o1
              clear hb2 hall
              have hdg := lr_bt (l := tl) (k := j)
              rw [← HBT.out] at hdg
              have HDG := Lib.hid hdg
              clear hdg
              have hways : (j < tl.length ∧ ¬ btL (114 :: tl) (j + 1) = 108 ∧ ¬ btL (114 :: tl) (j + 1) = 114) ∨ (¬ j < tl.length ∨ (j < tl.length ∧ btL (114 :: tl) (j + 1) = 108) ∨ (j < tl.length ∧ ¬ btL (114 :: tl) (j + 1) = 108 ∧ btL (114 :: tl) (j + 1) = 114)) := by omega
              rcases hways with ⟨e1, e2, e3⟩ | hout
              · have hts := take_snoc tl (k := j) e1
                have HAL2 : Hid ((tl.take (j + 1)).all notLr = true) := by
                  show _ = _
                  rw [hts, List.all_append, HALL.out]
                  show (true && (notLr _ && true)) = true
                  rw [HDG.out, decide_eq_false e2, decide_eq_false e3]; rfl
                clear hts
                have e4 := bne_of e2
                have e5 := bne_of e3
                go_wp2
                go_roundw
                case rel => exact ⟨j + 1, by omega, by go_num, HAL2.out, HB2.out, hs2, a0, a1, q0, q1⟩
                case measure => simp [intOf]; omega
              · have HTE := Lib.hid (take_endN tl hj HALL.out (by
                  rcases hout with h | ⟨h, h2⟩ | ⟨h, h2, h3⟩
                  · exact .inl (by omega)
                  · exact .inr (by rw [HDG.out, decide_eq_true h2]; rfl)
                  · exact .inr (by rw [HDG.out, decide_eq_true h3]; simp)))
                have HRD : Hid (∀ W, Calls Tryd.prog 26 #[.string ((mkB (114 :: tl)).extract 1 (j + 1))] W fun e w' => e = .returned (.int .i64 (readL (tl.take j))) ∧ w' = W) := fun W => by
                  rw [HXS.out]; exact l1Read_any (mkB (tl.take j)) (by rw [mkB_size, List.length_take]; omega) W
                have HBW : Hid (∀ v o, Below wo.heap.size wo ((wr.setCell ⟨wo.heap.size, 0, none⟩ v).alloc o)) := fun v o => (HB2.out.setCell (Nat.le_refl _) _).alloc (by simp; omega) _
                have hml : m.length + 1 ≤ 1048576 := by omega
                rcases hout with h1 | ⟨h1, h2⟩ | ⟨h1, h2, h3⟩
                all_goals
                  try have h4 := bne_of h2
                  try have h4 := bne_no h2
                  try have h5 := bne_no h3
                  go_wp2_with fail
                  refine (HRD.out _).mono ?_
                  rintro e w5 ⟨rfl, hw5⟩
                  obtain rfl : wr = w5 := hw5.symm
                  go_wp2_with (at_builtin; go_must (refine wpList_append_slsv pairS _ rfl _ _ 22 rfl (w1.heap.size + 1) 52 i0 _ 16 Tryd.underlying22 hi hz0 hz1 hz2 rfl (by decide) _ m rfl (HO.out.below (HBW.out _ _)) (some ⟨wr.heap.size, 0, none⟩) 1 1 [(readL (tl.take j), 1)] rfl rfl (slAt_oneP (heap_new (by simp))) (by simp only [List.length_cons, List.length_nil]; omega) (by simp; omega) ?_); intro A6 n6 k6 w6 hn6 hown6 hb6; have o0 := ((((HBW.out _ _).mono hs3).trans hb6).cell (p := ⟨w1.heap.size, 0, none⟩) (by simp)).trans o0; have o1 := ((((HBW.out _ _).mono hs3).trans hb6).cell (p := ⟨w1.heap.size, 1, none⟩) (by simp)).trans o1; have g0 := ((((HBW.out _ _).mono hs3).trans hb6).frozen (p := ⟨w1.heap.size, 0, none⟩) (by simp)).trans g0; have g1 := ((((HBW.out _ _).mono hs3).trans hb6).frozen (p := ⟨w1.heap.size, 1, none⟩) (by simp)).trans g1)
                  go_roundw
                  case rel =>
                    refine ⟨tl.drop j, m ++ [(readL (tl.take j), 1)], A6, k6, by rw [HXR.out], by simp; omega, by rw [HST.out, HTE.out.1, HTE.out.2], (HBr.out.trans ((((HBW.out _ _).mono hs3).trans hb6).mono (Nat.le_succ _))).setCell (Nat.le_refl _) _, ?_, ?_, ?_, ?_, ?_, ?_⟩
                    · have := hb6.size; simp at this ⊢; omega
                    · simp [go_sem, o0]
                    · simp [go_sem, o1]
                    · simp [go_sem, g0]
                    · simp [go_sem, g1]
                    · have hn7 : n6 = (m ++ [(readL (tl.take j), (1 : Int))]).length := by simpa using hn6
                      rw [hn7] at hown6
                      exact ownsRow_setCell_below hown6 (by simp) _
                  case measure => rw [HXR.out]; simp [strLen, mkB_size]; omega
        · have n1 : ¬ btL (x :: tl) 0 = 108 := fun h => hlr (.inl (getD_inj (c := 108).mp h))
          have n2 : ¬ btL (x :: tl) 0 = 114 := fun h => hlr (.inr (getD_inj (c := 114).mp h))
          have HV := Lib.hid ((fun h => (q_none (s := l) h).2.2) (by rw [HP.out, pN_stop HPM.out hlr]))
          clear hx0
          have n3 := bne_of n2
          go_wp2
          refine bodyPost_ret (v := .tuple #[.agg #[.int .i64 0, .slice none 0 0], .bool false]) (by simp [results, Tryd.results23, go_sem, r0, r1, hsr]) rfl ⟨0, none, 0, 0, by rw [HV.out], ?_, [], rfl, SlOwn.nil pairS _ _ _, fun h => by rw [HV.out] at h; cases h⟩
          exact ((HB5.out.setCell (by simp) _).setCell (by simp) _).alloc (by simp; omega) _
  · have hn2 : ((n : Int) != 2) = true := by simp; omega
    have HV := Lib.hid ((fun h => (q_none (s := l) h).2.2) (by
      unfold qRod
      rw [if_neg (by omega)]
      split
      · rename_i hq; rw [hq] at hn; simp at hn; omega
      · rfl))
    clear hn hat
    go_wp2
    refine bodyPost_ret (v := .tuple #[.agg #[.int .i64 0, .slice none 0 0], .bool false]) (by simp [results, Tryd.results23, go_sem, r0, r1]) rfl ⟨0, none, 0, 0, by rw [HV.out], ?_, [], rfl, SlOwn.nil pairS _ _ _, fun h => by rw [HV.out] at h; cases h⟩
    exact (HB.out.setCell (by simp) _).setCell (by simp) _
end Go.Proofs.YtpchgmcegholoaaDoor
