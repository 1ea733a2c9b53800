/- HiddenRod on both sides. -/
import Derived.Test.YtiodlclaempihaaPzC
import Derived.Test.YtiodlclaempihaaPuzD
import Derived.Test.YtiodlclaempihaaRow
namespace Go.Proofs.Ytiodlclaempihaa
open Go.RowKit

def hwB (L : Int) (l : List Int) (t : ByteArray) : Bool := hplB L l && rwB L l t
/-- what HiddenRod returns -/
def hwV (L : Int) (l : List Int) (t : ByteArray) : List (Int × Int) := if hplB L l then rwV L l t else []
def hwL (L : Int) (l : List Int) (t : ByteArray) : Int := if hplB L l then rwL L l t else 0
theorem hwV_len (L : Int) (l : List Int) (t : ByteArray) : (hwV L l t).length ≤ 12 := by
  unfold hwV
  split
  · exact rwV_len L l t
  · simp
theorem hw_off {L : Int} {l : List Int} (t : ByteArray) (h : hplB L l = false) : hwB L l t = false ∧ hwV L l t = [] ∧ hwL L l t = 0 := by
  unfold hwB hwV hwL; rw [h]; exact ⟨rfl, rfl, rfl⟩
theorem hw_on {L : Int} {l : List Int} (t : ByteArray) (h : hplB L l = true) : hwB L l t = rwB L l t ∧ hwV L l t = rwV L l t ∧ hwL L l t = rwL L l t := by
  unfold hwB hwV hwL; rw [h]; exact ⟨rfl, rfl, rfl⟩
theorem hw_no {L : Int} {l : List Int} {t : ByteArray} (h : rwB L l t = false) : hwB L l t = false ∧ hwV L l t = [] ∧ hwL L l t = 0 := by
  unfold hwB hwV hwL
  rw [h, (rwB_false h).1, (rwB_false h).2]
  simp
theorem ysB_ways {b : List UInt8} (h : b.all okB = true) : ysB b = b.map wayB := by
  unfold ysB
  apply List.map_congr_left
  intro x hx
  have := List.all_eq_true.1 h x hx
  unfold okB at this
  rcases of_decide_eq_true this with rfl | rfl <;> rfl
theorem rdP_rdL (l ys : List Int) : rdP l ys = rdL l ys := rfl

set_option maxRecDepth 100000 in
set_option maxHeartbeats 4000000 in
theorem specHiddenRod_any (L : Int) (A : Option Addr) (c : Nat) (l : List Int) (t : ByteArray) (w : World) (hn : (l.length : Int) ≤ 9223372036854775807) (hA : SlAt intS w A l) :
    Calls Try.prog 18 #[.int .i64 L, .slice A l.length c, .string t] w fun e w' => ∃ A' n' c', e = .returned (.tuple #[.agg #[.int .i64 (hwL L l t), .slice A' n' c'], .bool (hwB L l t)]) ∧ n' = (hwV L l t).length ∧ SlOwn pairS w' w.heap.size 88 (.slice A' n' c') (hwV L l t) ∧ Below w.heap.size w w' := by
  have HA := Lib.hid hA
  clear hA
  cases hp : hplB L l with
  | false =>
    have HV := Lib.hid (hw_off t hp)
    have HG := Lib.hid (fun w h => pzPlaces_at L A c l false hp w hn h)
    clear hp
    go_enter Try.func18, Try.ntmps18
    go_wp2_with fail
    refine (HG.out _ (HA.out.below ((Below.refl _ w).alloc (Nat.le_refl _) _))).mono ?_
    rintro e w1 ⟨rfl, rfl⟩
    go_wp2
    refine bodyPost_ret (v := .tuple #[.agg #[.int .i64 0, .slice none 0 0], .bool false]) (by simp [results, Try.results18, go_sem]) rfl ⟨none, 0, 0, ret_rodb HV.out.2.2.symm HV.out.1.symm, by rw [HV.out.2.1]; rfl, by rw [HV.out.2.1]; exact SlOwn.nil _ _ _ _, ?_⟩
    exact (Below.refl _ _).alloc (Nat.le_refl _) _
  | true =>
    have hpl := hplB_plB hp
    obtain ⟨_, ⟨h1, h2⟩, _⟩ := (plB_iff L l).1 hpl
    have HG := Lib.hid (fun w h => pzPlaces_at L A c l true hp w hn h)
    by_cases hsz : t.size = l.length
    · have HRO := Lib.hid (fun w h => pzRod_any L A c l t w h2 hsz h)
      have hl := len_toList t
      have hbt := get_btL t
      have hon := hw_on t hp
      obtain ⟨b, hgb⟩ : ∃ b, t.data.toList = b := ⟨_, rfl⟩
      rw [hgb] at hl hbt HRO
      have hrb : rwB L l t = b.all okB := by unfold rwB; rw [hpl, hgb]; simp [hsz]
      have hrv : b.all okB = true → rwV L l t = rdL l (b.map wayB) ∧ rwL L l t = L := fun h => by unfold rwV rwL; rw [hrb, hgb, h]; exact ⟨rfl, rfl⟩
      have HRB := Lib.hid hrb
      have HRV := Lib.hid hrv
      have HON := Lib.hid hon
      have HBL : Hid (b.length = l.length) := hl.trans hsz
      have hsb : (t.size : Int) = (l.length : Int) := by omega
      have hsb2 : ((t.size : Int) != (l.length : Int)) = false := by simp; omega
      clear hp hpl hgb hl hrb hrv hon
      go_enter Try.func18, Try.ntmps18
      go_wp2_with fail
      refine (HG.out _ (HA.out.below ((Below.refl _ w).alloc (Nat.le_refl _) _))).mono ?_
      rintro e w1 ⟨rfl, rfl⟩
      have HSZ := Lib.hid hsz
      go_wp2
      go_loopw [8] (fun i wr => ∃ k : Nat, k ≤ l.length ∧ i = .int .i64 k ∧ (b.take k).all okB = true ∧ w.alloc (Obj.cells #[Value.int IntKind.i64 0, Value.slice none 0 0] 42) = wr)
        (fun i _ => l.length - (intOf i).toNat)
      case atStart => exact ⟨0, Nat.zero_le _, rfl, rfl, rfl⟩
      case round =>
        obtain ⟨k, hk, rfl, hall, rfl⟩ := hrel
        have HALL := Lib.hid hall
        clear hall
        by_cases hlt : k < l.length
        · have hkb : k < b.length := by have := HBL.out; omega
          have hx : b[k]? = some b[k] := List.getElem?_eq_getElem hkb
          have hbk : btL b k = (b[k].toNat : Int) := by unfold btL; rw [List.getD_eq_getElem?_getD, hx]; rfl
          have htk : b.take (k + 1) = b.take k ++ [b[k]] := List.take_succ_eq_append_getElem hkb
          have hkt : k < t.size := by omega
          have HTK := Lib.hid htk
          have HNO := Lib.hid (fun h => not_all hx h)
          clear htk
          generalize b[k] = x at *
          have e108 : (x.toNat : Int) = 108 ↔ x = 108 := byte_eq (n := 108) (by decide)
          have e114 : (x.toNat : Int) = 114 ↔ x = 114 := byte_eq (n := 114) (by decide)
          have hbw := hbt k hkt
          rw [hbk] at hbw
          obtain ⟨v, hv⟩ : ∃ v, (x.toNat : Int) = v := ⟨_, rfl⟩
          rw [hv] at hbk hbw e108 e114
          clear hx
          have hk2 : (k : Int) < (t.size : Int) := by omega
          by_cases h8 : v = 108
          · subst h8
            have hx8 : x = 108 := e108.1 rfl
            have HO : Hid ((b.take (k + 1)).all okB = true) := by show _ = _; rw [HTK.out, List.all_append, HALL.out, hx8]; rfl
            clear e108 e114 hv hx8
            have m8 : ((108 : Int) != 108) = false := rfl
            go_wp2
            go_roundw
            case rel => exact ⟨k + 1, by omega, by go_num, HO.out, by first | rfl | trivial⟩
            case measure => simp [intOf]; omega
          · have m8 : (v != 108) = true := by simpa using h8
            by_cases h14 : v = 114
            · subst h14
              have hx14 : x = 114 := e114.1 rfl
              have HO : Hid ((b.take (k + 1)).all okB = true) := by show _ = _; rw [HTK.out, List.all_append, HALL.out, hx14]; rfl
              clear e108 e114 hv hx14 h8
              go_wp2
              go_roundw
              case rel => exact ⟨k + 1, by omega, by go_num, HO.out, by first | rfl | trivial⟩
              case measure => simp [intOf]; omega
            · have hno : okB x = false := by
                unfold okB
                rw [decide_eq_false]
                rintro (h | h)
                · exact h8 (e108.2 h)
                · exact h14 (e114.2 h)
              have HF : Hid (rwB L l t = false) := HRB.out.trans (HNO.out hno)
              have HV := Lib.hid (hw_no HF.out)
              clear e108 e114 hno
              have m14 : (v != 114) = true := by simpa using h14
              go_wp2
              refine bodyPost_ret (v := .tuple #[.agg #[.int .i64 0, .slice none 0 0], .bool false]) (by simp [results, Try.results18, go_sem]) rfl ⟨none, 0, 0, ret_rodb HV.out.2.2.symm HV.out.1.symm, by rw [HV.out.2.1]; rfl, by rw [HV.out.2.1]; exact SlOwn.nil _ _ _ _, ?_⟩
              exact (Below.refl _ _).alloc (Nat.le_refl _) _
        · obtain rfl : k = l.length := by omega
          have htk : b.take l.length = b := by rw [← HBL.out, List.take_length]
          have hall : b.all okB = true := by have := HALL.out; rwa [htk] at this
          have HV1 : Hid (hwV L l t = rdL l (b.map wayB)) := by show _ = _; rw [HON.out.2.1, (HRV.out hall).1]
          have HV2 : Hid (hwL L l t = L) := by show _ = _; rw [HON.out.2.2, (HRV.out hall).2]
          have HV3 : Hid (hwB L l t = true) := HON.out.1.trans (HRB.out.trans hall)
          have HLN : Hid ((rdL l (b.map wayB)).length = l.length) := by show _ = _; unfold rdL; rw [List.length_zip, List.length_map, HBL.out]; omega
          rw [rdP_rdL, ysB_ways hall] at HRO
          have hk2 : ¬ (l.length : Int) < (t.size : Int) := by omega
          clear htk hall
          go_wp2_with fail
          refine (HRO.out _ (HA.out.below ((Below.refl _ w).alloc (Nat.le_refl _) _))).mono ?_
          rintro e w3 ⟨A3, n3, k3, rfl, hn3, ho3, hb3⟩
          have z0 : w3.cell? ⟨w.heap.size, 0, none⟩ = some (.int .i64 0) := by rw [hb3.cell (p := ⟨w.heap.size, 0, none⟩) (by simp)]; simp
          have z1 : w3.cell? ⟨w.heap.size, 1, none⟩ = some (.slice none 0 0) := by rw [hb3.cell (p := ⟨w.heap.size, 1, none⟩) (by simp)]; simp
          have g0 : w3.frozen? ⟨w.heap.size, 0, none⟩ = false := by rw [hb3.frozen (p := ⟨w.heap.size, 0, none⟩) (by simp)]; simp
          have g1 : w3.frozen? ⟨w.heap.size, 1, none⟩ = false := by rw [hb3.frozen (p := ⟨w.heap.size, 1, none⟩) (by simp)]; simp
          have HB3 : Hid (Below w.heap.size w w3) := ((Below.refl _ w).alloc (Nat.le_refl _) _).trans (hb3.mono (by simp))
          have ho3' : SlOwn pairS w3 (w.heap.size + 1) 88 (.slice A3 n3 k3) (rdL l (b.map wayB)) := by simpa using ho3
          have HO3 := Lib.hid ho3'
          clear ho3'
          have HN3 := Lib.hid hn3
          clear hb3 ho3 hn3
          go_wp2
          refine bodyPost_ret (v := .tuple #[.agg #[.int .i64 L, .slice A3 n3 k3], .bool true]) (by simp [results, Try.results18, go_sem, z0, z1]) rfl ⟨A3, n3, k3, ret_rodb HV2.out.symm HV3.out.symm, by rw [HV1.out, HN3.out, HLN.out], ?_, (HB3.out.setCell (Nat.le_refl _) _).setCell (Nat.le_refl _) _⟩
          rw [HV1.out]
          exact ownsRow_base (ownsRow_setCell_below (ownsRow_setCell_below HO3.out (by simp) _) (by simp) _) (by omega)
    · have hV : rwB L l t = false := by unfold rwB; simp [hsz]
      have HV := Lib.hid (hw_no hV)
      have hsb : ¬ (t.size : Int) = (l.length : Int) := by omega
      have hsb2 : ((t.size : Int) != (l.length : Int)) = true := by simp; omega
      clear hp hV hpl
      go_enter Try.func18, Try.ntmps18
      go_wp2_with fail
      refine (HG.out _ (HA.out.below ((Below.refl _ w).alloc (Nat.le_refl _) _))).mono ?_
      rintro e w1 ⟨rfl, rfl⟩
      go_wp2
      refine bodyPost_ret (v := .tuple #[.agg #[.int .i64 0, .slice none 0 0], .bool false]) (by simp [results, Try.results18, go_sem]) rfl ⟨none, 0, 0, ret_rodb HV.out.2.2.symm HV.out.1.symm, by rw [HV.out.2.1]; rfl, by rw [HV.out.2.1]; exact SlOwn.nil _ _ _ _, ?_⟩
      exact (Below.refl _ _).alloc (Nat.le_refl _) _

set_option maxRecDepth 100000 in
set_option maxHeartbeats 4000000 in
theorem implHiddenRod_any (L : Int) (A : Option Addr) (c : Nat) (l : List Int) (t : ByteArray) (w : World) (hn : (l.length : Int) ≤ 9223372036854775807) (hA : SlAt intS w A l) :
    Calls Try.prog 20 #[.int .i64 L, .slice A l.length c, .string t] w fun e w' => ∃ A' n' c', e = .returned (.tuple #[.agg #[.int .i64 (hwL L l t), .slice A' n' c'], .bool (hwB L l t)]) ∧ n' = (hwV L l t).length ∧ SlOwn pairS w' w.heap.size 88 (.slice A' n' c') (hwV L l t) ∧ Below w.heap.size w w' := by
  have HA := Lib.hid hA
  clear hA
  cases hp : hplB L l with
  | false =>
    have HV := Lib.hid (hw_off t hp)
    have HG := Lib.hid (fun w h => placesP_at L A c l false hp w hn h)
    clear hp
    go_enter Try.func20, Try.ntmps20
    go_wp2_with fail
    refine (HG.out _ (HA.out.below ((Below.refl _ w).alloc (Nat.le_refl _) _))).mono ?_
    rintro e w1 ⟨rfl, hb1⟩
    have z0 : w1.cell? ⟨w.heap.size, 0, none⟩ = some (.int .i64 0) := by rw [hb1.cell (p := ⟨w.heap.size, 0, none⟩) (by simp)]; simp
    have z1 : w1.cell? ⟨w.heap.size, 1, none⟩ = some (.slice none 0 0) := by rw [hb1.cell (p := ⟨w.heap.size, 1, none⟩) (by simp)]; simp
    have g0 : w1.frozen? ⟨w.heap.size, 0, none⟩ = false := by rw [hb1.frozen (p := ⟨w.heap.size, 0, none⟩) (by simp)]; simp
    have g1 : w1.frozen? ⟨w.heap.size, 1, none⟩ = false := by rw [hb1.frozen (p := ⟨w.heap.size, 1, none⟩) (by simp)]; simp
    have HB1 : Hid (Below w.heap.size w w1) := ((Below.refl _ w).alloc (Nat.le_refl _) _).trans (hb1.mono (by simp))
    clear hb1
    go_wp2
    refine bodyPost_ret (v := .tuple #[.agg #[.int .i64 0, .slice none 0 0], .bool false]) (by simp [results, Try.results20, go_sem, z0, z1]) rfl ⟨none, 0, 0, ret_rodb HV.out.2.2.symm HV.out.1.symm, by rw [HV.out.2.1]; rfl, by rw [HV.out.2.1]; exact SlOwn.nil _ _ _ _, ?_⟩
    exact (HB1.out.setCell (Nat.le_refl _) _).setCell (Nat.le_refl _) _
  | true =>
    have HV := Lib.hid (hw_on t hp)
    have HG := Lib.hid (fun w h => placesP_at L A c l true hp w hn h)
    have HRW := Lib.hid (fun w h => implRodOfWays_any L A c l t w hn h)
    rw [← HV.out.1, ← HV.out.2.1, ← HV.out.2.2] at HRW
    clear hp HV
    generalize hwB L l t = vb at HRW ⊢
    generalize hwV L l t = vv at HRW ⊢
    generalize hwL L l t = vl at HRW ⊢
    go_enter Try.func20, Try.ntmps20
    go_wp2_with fail
    refine (HG.out _ (HA.out.below ((Below.refl _ w).alloc (Nat.le_refl _) _))).mono ?_
    rintro e w1 ⟨rfl, hb1⟩
    have z0 : w1.cell? ⟨w.heap.size, 0, none⟩ = some (.int .i64 0) := by rw [hb1.cell (p := ⟨w.heap.size, 0, none⟩) (by simp)]; simp
    have z1 : w1.cell? ⟨w.heap.size, 1, none⟩ = some (.slice none 0 0) := by rw [hb1.cell (p := ⟨w.heap.size, 1, none⟩) (by simp)]; simp
    have g0 : w1.frozen? ⟨w.heap.size, 0, none⟩ = false := by rw [hb1.frozen (p := ⟨w.heap.size, 0, none⟩) (by simp)]; simp
    have g1 : w1.frozen? ⟨w.heap.size, 1, none⟩ = false := by rw [hb1.frozen (p := ⟨w.heap.size, 1, none⟩) (by simp)]; simp
    have HB1 : Hid (Below w.heap.size w w1) := ((Below.refl _ w).alloc (Nat.le_refl _) _).trans (hb1.mono (by simp))
    have hs1 : w.heap.size + 1 ≤ w1.heap.size := by have := hb1.size; simpa using this
    clear hb1
    go_wp2_with fail
    refine (HRW.out _ (HA.out.below HB1.out)).mono ?_
    rintro e w3 ⟨A3, n3, k3, rfl, hn3, ho3, hb3⟩
    have HB3 := Lib.hid (HB1.out.trans (hb3.mono HB1.out.size))
    have z0 := Below.cell_some hb3 z0
    have z1 := Below.cell_some hb3 z1
    have g0 := (hb3.frozen (p := ⟨w.heap.size, 0, none⟩) (by simp only; omega)).trans g0
    have g1 := (hb3.frozen (p := ⟨w.heap.size, 1, none⟩) (by simp only; omega)).trans g1
    have HO3 := Lib.hid ho3
    have HN3 := Lib.hid hn3
    clear hb3 ho3 hn3
    go_wp2
    refine bodyPost_ret (v := .tuple #[.agg #[.int .i64 vl, .slice A3 n3 k3], .bool vb]) (by simp [results, Try.results20, go_sem, z0, z1]) rfl ⟨A3, n3, k3, rfl, HN3.out, ?_, (HB3.out.setCell (Nat.le_refl _) _).setCell (Nat.le_refl _) _⟩
    exact ownsRow_base (ownsRow_setCell_below (ownsRow_setCell_below HO3.out (by simp only; omega) _) (by simp only; omega) _) (by omega)
end Go.Proofs.Ytiodlclaempihaa
