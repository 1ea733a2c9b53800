/- Words: RankOfWord, both sides. -/
import Derived.Test.YtfojldkiagemeaaDoorWoP
import Derived.Test.YtfojldkiagemeaaDoorWoL
import Derived.Test.YtfojldkiagemeaaDoorRnkM
import Derived.Test.YtfojldkiagemeaaDoorShelfJ
namespace Go.Proofs.YtfojldkiagemeaaDoor
open Go.RowKit

def rkV (l : List UInt8) : Int := if okW l then (rk l : Int) else 0
theorem ret_ibr {a b : Int} {x y : Bool} (h : a = b) (h' : x = y) : Ending.returned (.tuple #[.int .i64 a, .bool x]) = .returned (.tuple #[.int .i64 b, .bool y]) := by rw [h, h']
theorem ok_all {l : List UInt8} (h : okW l = true) : l.all isLr = true := by unfold okW at h; rw [Bool.and_eq_true] at h; exact h.2
theorem drop_at {l : List UInt8} {k : Nat} {x : UInt8} (h : l[k]? = some x) : l.drop k = x :: l.drop (k + 1) := by
  obtain ⟨h1, h2⟩ := List.getElem?_eq_some_iff.1 h
  rw [List.drop_eq_getElem_cons h1, h2]
theorem drop_all {l : List UInt8} (h : l.all isLr = true) (k : Nat) : (l.drop k).all isLr = true := List.all_eq_true.2 fun x hx => List.all_eq_true.1 h x (List.mem_of_mem_drop hx)

set_option maxHeartbeats 4000000 in
set_option maxRecDepth 100000 in
theorem specRankOfWord_any (l : List UInt8) (hl : l.length ≤ 1048576) (w : World) :
    Calls Tryd.prog 4 #[.string (mkB l)] w fun e w' => e = .returned (.tuple #[.int .i64 (rkV l), .bool (okW l)]) ∧ Below w.heap.size w w' := by
  have HG := Lib.hid (fun W => woGood_any (mkB l) hl W)
  rw [mkB_data] at HG
  have hz : (mkB l).size = l.length := rfl
  have hb := get_mk l
  unfold rkV
  cases hok : okW l with
  | false =>
    rw [hok] at HG
    go_enter Tryd.func4, Tryd.ntmps4
    go_wp2_with fail
    refine (HG.out _).mono ?_
    rintro e w1 ⟨rfl, rfl⟩
    go_wp2
    go_ret2
    exact ⟨rfl, Below.refl _ _⟩
  | true =>
    have h14 := okW_len hok
    have ha := ok_all hok
    have hrl := rk_le ha h14
    obtain ⟨R, hR⟩ : ∃ R, R = rk l := ⟨_, rfl⟩
    rw [hok] at HG
    rw [← hR, if_pos rfl]
    rw [← hR] at hrl
    have HA := Lib.hid ha
    have HR := Lib.hid hR
    clear hok ha hR
    go_enter Tryd.func4, Tryd.ntmps4
    go_wp2_with fail
    refine (HG.out _).mono ?_
    rintro e w1 ⟨rfl, rfl⟩
    go_wp2
    go_loopw [4, 5, 6] (fun n i _ wr => ∃ k r : Nat, k ≤ l.length ∧ i = .int .i64 k ∧ n = .int .i64 r ∧ r + rk (l.drop k) = R ∧ wr = w1)
      (fun _ i _ _ => l.length - (intOf i).toNat)
    case atStart => exact ⟨0, 0, Nat.zero_le _, rfl, rfl, by rw [List.drop_zero, Nat.zero_add, HR.out], rfl⟩
    case round =>
      obtain ⟨k, r, hk, rfl, rfl, hrk, rfl⟩ := hrel
      by_cases hlt : k < l.length
      · obtain ⟨x, hx⟩ : ∃ x, l[k]? = some x := ⟨_, List.getElem?_eq_getElem (by omega)⟩
        have e1 := btL_eq l k 114 (by omega)
        rw [hx] at e1
        simp only [Option.some.injEq] at e1
        have hd := drop_at hx
        have hda := drop_all HA.out (k + 1)
        have hdl : (l.drop (k + 1)).length = l.length - (k + 1) := List.length_drop
        rw [hd] at hrk
        have HX : Hid (x = 108 ∨ x = 114) := Lib.hid (by
          have := drop_all HA.out k
          rw [hd] at this
          exact (all_cons this).1)
        have HEX : Hid ((mkB l).extract k l.length = mkB (x :: l.drop (k + 1))) := Lib.hid (by rw [extract_mk, mkB_data, List.take_length, hd])
        clear hx hd
        generalize hgd : l.drop (k + 1) = d at *
        by_cases h1 : x = 114
        · have hb1 : btL l k = 114 := e1.2 h1
          subst h1
          have hadd := rk_add hda
          have hcd : d.count 108 ≤ d.length := List.count_le_length
          have hc14 : d.count 108 ≤ 14 := by omega
          have hW0 : ∀ W, Calls Tryd.prog 8 #[.string (mkB (114 :: d)), .int .u8 108] W fun e w' => e = .returned (.int .i64 (d.count 108 : Nat)) ∧ w' = W := fun W => by
            have := woCount_any (114 :: d) 108 (by rw [List.length_cons]; omega) W
            rw [List.count_cons_of_ne (by decide)] at this
            exact this
          have hC0 : ∀ W, Calls Tryd.prog 7 #[.int .i64 ((l.length : Int) - k - 1), .int .i64 ((d.count 108 : Int) - 1)] W fun e w' => e = .returned (.int .i64 ((chV d.length ((d.count 108 : Int) - 1) : Nat) : Int)) ∧ w' = W := fun W => by
            have := woChoose_any d.length ((d.count 108 : Int) - 1) (by omega) (by omega) (by omega) W
            rw [show ((d.length : Nat) : Int) = (l.length : Int) - k - 1 by omega] at this
            exact this
          obtain ⟨q, hq⟩ : ∃ q, q = chV d.length ((d.count 108 : Int) - 1) := ⟨_, rfl⟩
          have HK : Hid (r + q + rk d = R) := Lib.hid (by
            rw [rk_r, hadd] at hrk
            rw [hq]; unfold chV; omega)
          have hrq : r + q < 16384 := by have := HK.out; omega
          rw [← hq] at hC0
          have HW := Lib.hid hW0
          have HC := Lib.hid hC0
          have HQ := Lib.hid hq
          rw [← HEX.out] at HW
          clear hW0 hC0 hq hadd hrk e1 hda hdl
          generalize d.count 108 = c at *
          go_wp2_with fail
          with_reducible refine (HW.out _).mono ?_
          rintro e w5 ⟨rfl, rfl⟩
          go_wp2_with fail
          with_reducible refine (HC.out _).mono ?_
          rintro e w6 ⟨rfl, rfl⟩
          go_wp2
          go_roundw
          case rel => exact ⟨k + 1, r + q, by omega, by go_num, by go_num, by rw [hgd]; exact HK.out, trivial⟩
          case measure => simp [intOf]; omega
        · have hb1 : ¬ btL l k = 114 := fun e => h1 (e1.1 e)
          have HK : Hid (r + rk d = R) := Lib.hid (by
            rcases HX.out with h | h
            · subst h; rw [rk_l] at hrk; exact hrk
            · exact absurd h h1)
          clear hrk e1 h1
          go_wp2
          go_roundw
          case rel => exact ⟨k + 1, r, by omega, by go_num, rfl, by rw [hgd]; exact HK.out, trivial⟩
          case measure => simp [intOf]; omega
      · obtain rfl : k = l.length := by omega
        have HE : Hid ((r : Int) = (R : Nat)) := Lib.hid (by rw [List.drop_length] at hrk; show (r : Int) = (R : Int); rw [← hrk]; rfl)
        clear hrk
        go_wp2
        go_ret2
        exact ⟨ret_ibr HE.out rfl, Below.refl _ _⟩

theorem indexS_any {w : World} {A : Option Addr} {c : Nat} {l : List ByteArray} (x : ByteArray) (h0 : 0 < l.length) (hll : l.length ≤ 65536) (h : SlAt strS w A l) :
    Calls Tryd.prog 10 #[.slice A l.length c, .string x] w fun e' w' => e' = .returned (.int .i64 (Lib.idxOfS l x)) ∧ w' = w := by
  obtain ⟨b, off, rfl, _, hc⟩ := h.str_at h0
  have := Any.slices_Index_string indexStr b off l.length c l x w (Nat.le_refl _) (by omega) (fun j hj => by
    rw [List.getD_eq_getElem?_getD, List.getElem?_eq_getElem hj]
    exact hc j _ (List.getElem?_eq_getElem hj))
  rw [List.take_length] at this
  exact this
theorem idx_rk {l : List UInt8} (ha : l.all isLr = true) : Lib.idxOfS (wordsL (allW (l.count 108) (l.count 114))) (mkB l) = (rk l : Int) := by
  have h1 := rk_lt ha
  have h2 := rk_at l ha
  have hL := wordsL_len (allW (l.count 108) (l.count 114))
  have gd : ∀ j u, (allW (l.count 108) (l.count 114))[j]? = some u → (wordsL (allW (l.count 108) (l.count 114))).getD j ByteArray.empty = mkB u := fun j u h => by
    rw [List.getD_eq_getElem?_getD, wordsL_at h]; rfl
  have := Lib.idxOfS_hit (wordsL (allW (l.count 108) (l.count 114))) (wordsL (allW (l.count 108) (l.count 114))).length (rk l) (mkB l) (by omega) (Nat.le_refl _) (gd _ _ h2) (fun j hj he => by
    obtain ⟨u, hu⟩ : ∃ u, (allW (l.count 108) (l.count 114))[j]? = some u := ⟨_, List.getElem?_eq_getElem (by omega)⟩
    rw [gd j u hu] at he
    have he2 : u = l := by
      have : (mkB u).data.toList = (mkB l).data.toList := by rw [he]
      exact this
    rw [he2] at hu
    have := allW_one hu h2
    omega)
  rw [List.take_length] at this
  exact this
set_option maxHeartbeats 2000000 in
theorem implRankOfWord_any (l : List UInt8) (hl : l.length ≤ 1048576) (w : World) :
    Calls Tryd.prog 5 #[.string (mkB l)] w fun e w' => e = .returned (.tuple #[.int .i64 (rkV l), .bool (okW l)]) ∧ Below w.heap.size w w' := by
  have HG := Lib.hid (fun W => isWord_any (mkB l) hl W)
  rw [mkB_data] at HG
  unfold rkV
  cases hok : okW l with
  | false =>
    rw [hok] at HG
    go_enter Tryd.func5, Tryd.ntmps5
    go_wp2_with fail
    refine (HG.out _).mono ?_
    rintro e w1 ⟨rfl, hb1⟩
    have HB1 := Lib.hid hb1
    clear hb1
    go_wp2
    go_ret2
    exact ⟨rfl, HB1.out⟩
  | true =>
    have h14 := okW_len hok
    have ha := ok_all hok
    have hcl := count_lr l ha
    have HIX := Lib.hid (idx_rk ha)
    have hT := all_len_le (a := l.count 108) (b := l.count 114) (by omega)
    have hP := allW_pos (l.count 108) (l.count 114)
    have HCS := Lib.hid (fun W => countSigns_any l W)
    have HWW := Lib.hid (fun W => wordsWith_any (l.count 108) (l.count 114) (by omega) W)
    rw [hok] at HG
    rw [if_pos rfl]
    generalize l.count 108 = a at *
    generalize l.count 114 = b at *
    generalize rk l = R at *
    generalize allW a b = Y at *
    obtain ⟨T, hTe⟩ : ∃ T, T = Y.length := ⟨_, rfl⟩
    rw [← hTe] at HWW hT hP
    have HT := Lib.hid hTe
    clear hok ha hTe hcl
    go_enter Tryd.func5, Tryd.ntmps5
    go_wp2_with fail
    refine (HG.out _).mono ?_
    rintro e w1 ⟨rfl, hb1⟩
    have HB1 := Lib.hid hb1
    clear hb1
    go_wp2_with fail
    refine (HCS.out _).mono ?_
    rintro e w2 ⟨rfl, rfl⟩
    go_wp2_with fail
    refine (HWW.out _).mono ?_
    rintro e w3 ⟨A, n, c, rfl, rfl, ho, hb⟩
    have HB3 := Lib.hid (HB1.out.trans (hb.mono HB1.out.size))
    have hYl : (wordsL Y).length = n := by rw [wordsL_len, ← HT.out]
    have hidx := indexS_any (c := c) (mkB l) (by rw [hYl]; exact hP) (by rw [hYl]; omega) ho.sl
    rw [hYl, HIX.out] at hidx
    have HI := Lib.hid hidx
    clear ho hb hYl hidx
    go_wp2_with fail
    refine HI.out.mono ?_
    rintro e w4 ⟨rfl, rfl⟩
    go_wp2
    go_ret2
    exact ⟨rfl, HB3.out⟩
end Go.Proofs.YtfojldkiagemeaaDoor
