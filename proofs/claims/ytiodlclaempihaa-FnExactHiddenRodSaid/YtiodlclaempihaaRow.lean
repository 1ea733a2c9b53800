/- RodOfWays on both sides. -/
import Derived.Test.YtiodlclaempihaaStRod
import Derived.Test.YtiodlclaempihaaStr
namespace Go.Proofs.Ytiodlclaempihaa
open Go.RowKit

def rwB (L : Int) (l : List Int) (t : ByteArray) : Bool := plB L l && (t.size == l.length) && t.data.toList.all okB
/-- what RodOfWays returns -/
def rwV (L : Int) (l : List Int) (t : ByteArray) : List (Int × Int) := if rwB L l t then rdL l (t.data.toList.map wayB) else []
def rwL (L : Int) (l : List Int) (t : ByteArray) : Int := if rwB L l t then L else 0
theorem rwB_false {L : Int} {l : List Int} {t : ByteArray} (h : rwB L l t = false) : rwV L l t = [] ∧ rwL L l t = 0 := by unfold rwV rwL; rw [h]; exact ⟨rfl, rfl⟩
theorem rwV_len (L : Int) (l : List Int) (t : ByteArray) : (rwV L l t).length ≤ 12 := by
  unfold rwV
  split
  · rename_i h
    unfold rwB at h
    simp only [Bool.and_eq_true] at h
    have := ((plB_iff L l).1 h.1.1).2.1.2
    unfold rdL
    rw [List.length_zip]
    omega
  · simp
theorem not_all {b : List UInt8} {k : Nat} {x : UInt8} (hx : b[k]? = some x) (h : okB x = false) : b.all okB = false := by
  rw [List.all_eq_false]
  exact ⟨x, List.mem_of_getElem? hx, by rw [h]; simp⟩
theorem ret_rodb {L L' : Int} {A : Option Addr} {n c : Nat} {x y : Bool} (h : L = L') (h' : x = y) : Ending.returned (.tuple #[.agg #[.int .i64 L, .slice A n c], .bool x]) = .returned (.tuple #[.agg #[.int .i64 L', .slice A n c], .bool y]) := by rw [h, h']

theorem way_any (x : UInt8) (w : World) :
    Calls Try.prog 82 #[.int .u8 x.toNat] w fun e w' => e = .returned (.tuple #[.int .i64 (wayB x), .bool (okB x)]) ∧ w' = w := by
  have e108 : (x.toNat : Int) = 108 ↔ x = 108 := byte_eq (n := 108) (by decide)
  have e114 : (x.toNat : Int) = 114 ↔ x = 114 := byte_eq (n := 114) (by decide)
  by_cases h1 : x = 108
  · have i1 := e108.mpr h1
    have v : Ending.returned (.tuple #[.int .i64 (wayB x), .bool (okB x)]) = .returned (.tuple #[.int .i64 (-1), .bool true]) := by rw [h1]; rfl
    rw [v]
    clear v e108 e114
    go_enter Try.func82, Try.ntmps82
    go_wp2
    go_ret2
    exact ⟨rfl, rfl⟩
  · have i1 : ¬ (x.toNat : Int) = 108 := fun h => h1 (e108.mp h)
    by_cases h2 : x = 114
    · have i2 := e114.mpr h2
      have v : Ending.returned (.tuple #[.int .i64 (wayB x), .bool (okB x)]) = .returned (.tuple #[.int .i64 1, .bool true]) := by rw [h2]; rfl
      rw [v]
      clear v e108 e114
      go_enter Try.func82, Try.ntmps82
      go_wp2
      go_ret2
      exact ⟨rfl, rfl⟩
    · have i2 : ¬ (x.toNat : Int) = 114 := fun h => h2 (e114.mp h)
      have v : Ending.returned (.tuple #[.int .i64 (wayB x), .bool (okB x)]) = .returned (.tuple #[.int .i64 0, .bool false]) := by unfold wayB okB; rw [if_neg h1, if_neg h2, decide_eq_false (by rintro (h | h); exact h1 h; exact h2 h)]
      rw [v]
      clear v e108 e114
      go_enter Try.func82, Try.ntmps82
      go_wp2
      go_ret2
      exact ⟨rfl, rfl⟩
theorem way_at (x : UInt8) (v y : Int) (r : Bool) (hv : (x.toNat : Int) = v) (hy : wayB x = y) (hr : okB x = r) (w : World) :
    Calls Try.prog 82 #[.int .u8 v] w fun e w' => e = .returned (.tuple #[.int .i64 y, .bool r]) ∧ w' = w := by
  subst hv; subst hy; subst hr; exact way_any x w

set_option maxRecDepth 100000 in
set_option maxHeartbeats 4000000 in
theorem implRodOfWays_any (L : Int) (A : Option Addr) (c : Nat) (l : List Int) (t : ByteArray) (w : World) (hn : (l.length : Int) ≤ 9223372036854775807) (hA : SlAt intS w A l) :
    Calls Try.prog 51 #[.int .i64 L, .slice A l.length c, .string t] w fun e w' => ∃ A' n' c', e = .returned (.tuple #[.agg #[.int .i64 (rwL L l t), .slice A' n' c'], .bool (rwB L l t)]) ∧ n' = (rwV L l t).length ∧ SlOwn pairS w' w.heap.size 88 (.slice A' n' c') (rwV L l t) ∧ Below w.heap.size w w' := by
  have HA := Lib.hid hA
  clear hA
  cases hp : plB L l with
  | false =>
    have hV : rwB L l t = false := by unfold rwB; rw [hp]; simp
    have HV := Lib.hid (rwB_false hV)
    have HB := Lib.hid hV
    have HG := Lib.hid (fun w h => arePlaces_at L A c l false hp w hn h)
    clear hp hV
    go_enter Try.func51, Try.ntmps51
    go_wp2_with fail
    refine (HG.out _ (HA.out.below ((Below.refl _ w).alloc (Nat.le_refl _) _))).mono ?_
    rintro e w1 ⟨rfl, hb1⟩
    have z0 : w1.cell? ⟨w.heap.size, 0, none⟩ = some (.int .i64 0) := by rw [hb1.cell (p := ⟨w.heap.size, 0, none⟩) (by simp)]; simp
    have z1 : w1.cell? ⟨w.heap.size, 1, none⟩ = some (.slice none 0 0) := by rw [hb1.cell (p := ⟨w.heap.size, 1, none⟩) (by simp)]; simp
    have g0 : w1.frozen? ⟨w.heap.size, 0, none⟩ = false := by rw [hb1.frozen (p := ⟨w.heap.size, 0, none⟩) (by simp)]; simp
    have g1 : w1.frozen? ⟨w.heap.size, 1, none⟩ = false := by rw [hb1.frozen (p := ⟨w.heap.size, 1, none⟩) (by simp)]; simp
    have HB1 : Hid (Below w.heap.size w w1) := ((Below.refl _ w).alloc (Nat.le_refl _) _).trans (hb1.mono (by simp))
    clear hb1
    go_wp2
    refine bodyPost_ret (v := .tuple #[.agg #[.int .i64 0, .slice none 0 0], .bool false]) (by simp [results, Try.results51, go_sem, z0, z1]) rfl ⟨none, 0, 0, ret_rodb HV.out.2.symm HB.out.symm, by rw [HV.out.1]; rfl, by rw [HV.out.1]; exact SlOwn.nil _ _ _ _, ?_⟩
    exact (HB1.out.setCell (Nat.le_refl _) _).setCell (Nat.le_refl _) _
  | true =>
    obtain ⟨_, ⟨h1, h2⟩, _⟩ := (plB_iff L l).1 hp
    have HG := Lib.hid (fun w h => arePlaces_at L A c l true hp w hn h)
    by_cases hsz : t.size = l.length
    · obtain ⟨i0, hi, hz0, hz1, hz2⟩ := info_parts antI
      have hl := len_toList t
      have hbt := get_btL t
      obtain ⟨b, hgb⟩ : ∃ b, t.data.toList = b := ⟨_, rfl⟩
      rw [hgb] at hl hbt
      have hrb : rwB L l t = b.all okB := by unfold rwB; rw [hp, hgb]; simp [hsz]
      have hrv : rwV L l t = if b.all okB then rdL l (b.map wayB) else [] := by unfold rwV; rw [hrb, hgb]
      have hrl : rwL L l t = if b.all okB then L else 0 := by unfold rwL; rw [hrb]
      have HRB := Lib.hid hrb
      have HRV := Lib.hid hrv
      have HRL := Lib.hid hrl
      have HBL : Hid (b.length = l.length) := hl.trans hsz
      have hsb : (t.size : Int) = (l.length : Int) := by omega
      clear hp hgb hl hrb hrv hrl
      go_enter Try.func51, Try.ntmps51
      go_wp2_with fail
      refine (HG.out _ (HA.out.below ((Below.refl _ w).alloc (Nat.le_refl _) _))).mono ?_
      rintro e w1 ⟨rfl, hb1⟩
      have z0 : w1.cell? ⟨w.heap.size, 0, none⟩ = some (.int .i64 0) := by rw [hb1.cell (p := ⟨w.heap.size, 0, none⟩) (by simp)]; simp
      have z1 : w1.cell? ⟨w.heap.size, 1, none⟩ = some (.slice none 0 0) := by rw [hb1.cell (p := ⟨w.heap.size, 1, none⟩) (by simp)]; simp
      have g0 : w1.frozen? ⟨w.heap.size, 0, none⟩ = false := by rw [hb1.frozen (p := ⟨w.heap.size, 0, none⟩) (by simp)]; simp
      have g1 : w1.frozen? ⟨w.heap.size, 1, none⟩ = false := by rw [hb1.frozen (p := ⟨w.heap.size, 1, none⟩) (by simp)]; simp
      have HB1 : Hid (Below w.heap.size w w1) := ((Below.refl _ w).alloc (Nat.le_refl _) _).trans (hb1.mono (by simp))
      have hs1 : w.heap.size + 1 ≤ w1.heap.size := by have := hb1.size; simpa using this
      clear hb1
      go_wp2_with (at_make; refine wpList_make_own _ rfl _ _ _ rfl w1.heap.size 88 i0 _ 2 Try.underlying40 hi hz0 hz1 .i64 .i64 _ l.length rfl rfl rfl (by rw [hz2]; omega) (by unfold maxLen; omega) (Nat.le_refl _) ?_; intro w2 hown hg)
      have HB2 := Lib.hid ((Below.refl w1.heap.size w1).grown hg (Nat.le_refl _) (by simp))
      have HO2 : Hid (SlOwn pairS w2 w1.heap.size 88 (.slice (some ⟨w1.heap.size, 0, none⟩) 0 l.length) ((rdL l (b.map wayB)).take 0)) := hown
      clear hg hown
      have HRLN : Hid ((rdL l (b.map wayB)).length = l.length) := by show _ = _; unfold rdL; rw [List.length_zip, List.length_map, HBL.out]; omega
      go_loopw [8, 30] (fun v i wr => ∃ (k : Nat) (A5 : Option Addr) (n5 c5 : Nat), k ≤ l.length ∧ i = .int .i64 k ∧ v = .slice A5 n5 c5 ∧ (b.take k).all okB = true ∧ Below w1.heap.size w1 wr ∧ SlOwn pairS wr w1.heap.size 88 (.slice A5 n5 c5) ((rdL l (b.map wayB)).take k))
        (fun _ i _ => l.length - (intOf i).toNat)
      case atStart => exact ⟨0, _, _, _, Nat.zero_le _, rfl, rfl, rfl, HB2.out, HO2.out⟩
      case round =>
        obtain ⟨k, A5, n5, c5, hk, rfl, rfl, hall, hbr, hown⟩ := hrel
        have HALL := Lib.hid hall
        have HBr := Lib.hid hbr
        have HOr := Lib.hid hown
        have z0 := Below.cell_some hbr z0
        have z1 := Below.cell_some hbr z1
        have g0 := (hbr.frozen (p := ⟨w.heap.size, 0, none⟩) (by simp only; omega)).trans g0
        have g1 := (hbr.frozen (p := ⟨w.heap.size, 1, none⟩) (by simp only; omega)).trans g1
        have hsr := hbr.size
        clear hall hbr hown
        by_cases hlt : k < l.length
        · have hkb : k < b.length := by have := HBL.out; omega
          have hx : b[k]? = some b[k] := List.getElem?_eq_getElem hkb
          have hbk : btL b k = (b[k].toNat : Int) := by unfold btL; rw [List.getD_eq_getElem?_getD, hx]; rfl
          have htk : b.take (k + 1) = b.take k ++ [b[k]] := List.take_succ_eq_append_getElem hkb
          have hyx : (b.map wayB)[k]? = some (wayB b[k]) := by rw [List.getElem?_map, hx]; rfl
          have hkt : k < t.size := by omega
          have HTK := Lib.hid htk
          have HNO := Lib.hid (fun h => not_all hx h)
          obtain ⟨b0, off, rfl, l0, hc⟩ := (HA.out.below (HB1.out.trans (HBr.out.mono (by omega)))).int_at hlt
          have a0 := hc k _ (List.getElem?_eq_getElem hlt)
          have hsn := rdL_snoc l (b.map wayB) k _ _ (List.getElem?_eq_getElem hlt) hyx
          have HTL : Hid (((rdL l (b.map wayB)).take k).length ≤ 12) := by have := HRLN.out; show _ ≤ _; rw [List.length_take]; omega
          clear htk hc hyx
          generalize l[k] = p at *
          generalize b[k] = x at *
          have hbw := hbt k hkt
          rw [hbk] at hbw
          obtain ⟨v, hv⟩ : ∃ v, (x.toNat : Int) = v := ⟨_, rfl⟩
          obtain ⟨y, hy⟩ : ∃ y, wayB x = y := ⟨_, rfl⟩
          rw [hv] at hbk hbw
          rw [hy] at hsn
          have HSN := Lib.hid hsn
          have hk2 : (k : Int) < (l.length : Int) := by omega
          clear hsn hx
          generalize (rdL l (b.map wayB)).take k = m at *
          cases hok : okB x with
          | true =>
            have HO : Hid ((b.take (k + 1)).all okB = true) := by show _ = _; rw [HTK.out, List.all_append, HALL.out]; simp [hok]
            have HW := Lib.hid (way_at x v y true hv hy hok)
            clear hv hy hok
            go_wp2_with fail
            refine (HW.out _).mono ?_
            rintro e w3 ⟨rfl, rfl⟩
            go_wp2_with (at_builtin; go_must (refine wpList_append_slsv pairS _ rfl _ _ 40 rfl w1.heap.size 88 i0 _ 16 Try.underlying40 hi hz0 hz1 hz2 rfl (by decide) _ m rfl (SlOwn.below HOr.out ((Below.refl _ w3).alloc (Nat.le_refl _) _)) (some ⟨w3.heap.size, 0, none⟩) 1 1 [(p, y)] rfl rfl (slAt_pair1 (heap_new (by simp))) (by have := HTL.out; simp only [List.length_cons, List.length_nil]; omega) (by simp; omega) ?_); intro A6 n6 k6 w6 hn6 hown6 hb6; have HO6 := Lib.hid hown6; have HB6 := Lib.hid hb6; clear hn6 hown6 hb6)
            go_roundw
            case rel => exact ⟨k + 1, A6, n6, k6, by omega, by go_num, rfl, HO.out, HBr.out.trans (((Below.refl _ w3).alloc hsr _).trans HB6.out), by rw [HSN.out]; exact HO6.out⟩
            case measure => simp [intOf]; omega
          | false =>
            have HF : Hid (b.all okB = false) := HNO.out hok
            have HV1 : Hid (rwV L l t = []) := by show _ = _; rw [HRV.out, HF.out]; rfl
            have HV2 : Hid (rwL L l t = 0) := by show _ = _; rw [HRL.out, HF.out]; rfl
            have HV3 : Hid (rwB L l t = false) := HRB.out.trans HF.out
            have HW := Lib.hid (way_at x v y false hv hy hok)
            clear hv hy hok
            go_wp2_with fail
            refine (HW.out _).mono ?_
            rintro e w3 ⟨rfl, rfl⟩
            go_wp2
            refine bodyPost_ret (v := .tuple #[.agg #[.int .i64 0, .slice none 0 0], .bool false]) (by simp [results, Try.results51, go_sem, z0, z1]) rfl ⟨none, 0, 0, ret_rodb HV2.out.symm HV3.out.symm, by rw [HV1.out]; rfl, by rw [HV1.out]; exact SlOwn.nil _ _ _ _, ?_⟩
            exact ((HB1.out.trans (HBr.out.mono (by omega))).setCell (Nat.le_refl _) _).setCell (Nat.le_refl _) _
        · obtain rfl : k = l.length := by omega
          have htk : b.take l.length = b := by rw [← HBL.out, List.take_length]
          have htr : (rdL l (b.map wayB)).take l.length = rdL l (b.map wayB) := by
            have := List.take_length (l := rdL l (b.map wayB))
            rwa [HRLN.out] at this
          have hall : b.all okB = true := by have := HALL.out; rwa [htk] at this
          have HV1 : Hid (rwV L l t = rdL l (b.map wayB)) := by show _ = _; rw [HRV.out, hall]; rfl
          have HV2 : Hid (rwL L l t = L) := by show _ = _; rw [HRL.out, hall]; rfl
          have HV3 : Hid (rwB L l t = true) := HRB.out.trans hall
          rw [htr] at HOr
          have HN : Hid (n5 = l.length) := (own_lenR HOr.out).trans HRLN.out
          have hk2 : ¬ (l.length : Int) < (l.length : Int) := by omega
          clear htk htr hall
          go_wp2
          refine bodyPost_ret (v := .tuple #[.agg #[.int .i64 L, .slice A5 n5 c5], .bool true]) (by simp [results, Try.results51, go_sem, z0, z1]) rfl ⟨A5, n5, c5, ret_rodb HV2.out.symm HV3.out.symm, by rw [HV1.out, HN.out, HRLN.out], ?_, ((HB1.out.trans (HBr.out.mono (by omega))).setCell (Nat.le_refl _) _).setCell (Nat.le_refl _) _⟩
          rw [HV1.out]
          exact ownsRow_base (ownsRow_setCell_below (ownsRow_setCell_below HOr.out (by simp only; omega) _) (by simp only; omega) _) (by omega)
    · have hV : rwB L l t = false := by unfold rwB; rw [hp]; simp [hsz]
      have HV := Lib.hid (rwB_false hV)
      have HB := Lib.hid hV
      have hsb : ¬ (t.size : Int) = (l.length : Int) := by omega
      clear hp hV
      go_enter Try.func51, Try.ntmps51
      go_wp2_with fail
      refine (HG.out _ (HA.out.below ((Below.refl _ w).alloc (Nat.le_refl _) _))).mono ?_
      rintro e w1 ⟨rfl, hb1⟩
      have z0 : w1.cell? ⟨w.heap.size, 0, none⟩ = some (.int .i64 0) := by rw [hb1.cell (p := ⟨w.heap.size, 0, none⟩) (by simp)]; simp
      have z1 : w1.cell? ⟨w.heap.size, 1, none⟩ = some (.slice none 0 0) := by rw [hb1.cell (p := ⟨w.heap.size, 1, none⟩) (by simp)]; simp
      have g0 : w1.frozen? ⟨w.heap.size, 0, none⟩ = false := by rw [hb1.frozen (p := ⟨w.heap.size, 0, none⟩) (by simp)]; simp
      have g1 : w1.frozen? ⟨w.heap.size, 1, none⟩ = false := by rw [hb1.frozen (p := ⟨w.heap.size, 1, none⟩) (by simp)]; simp
      have HB1 : Hid (Below w.heap.size w w1) := ((Below.refl _ w).alloc (Nat.le_refl _) _).trans (hb1.mono (by simp))
      clear hb1
      go_wp2
      refine bodyPost_ret (v := .tuple #[.agg #[.int .i64 0, .slice none 0 0], .bool false]) (by simp [results, Try.results51, go_sem, z0, z1]) rfl ⟨none, 0, 0, ret_rodb HV.out.2.symm HB.out.symm, by rw [HV.out.1]; rfl, by rw [HV.out.1]; exact SlOwn.nil _ _ _ _, ?_⟩
      exact (HB1.out.setCell (Nat.le_refl _) _).setCell (Nat.le_refl _) _
end Go.Proofs.Ytiodlclaempihaa
