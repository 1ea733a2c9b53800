/- StRod, Str, Row, WaysT, Byte, Rep, Arr, Join, CmpA, All, Rods, AllR, WithMA in one text. -/
import Derived.Test.YtiodlclaempihaaGreatPlac
import Derived.Test.YtiodlclaempihaaGreatBits
import Derived.Test.YtiodlclaempihaaGreatZaA
import Derived.Test.YtiodlclaempihaaGreatBase
import Derived.Test.YtiodlclaempihaaGreatGood
import Derived.Lib.AppendZerosOnto
import Derived.Handy
import Derived.Lib.SlBuf
import Derived.Lib.MakeNoZero
import Derived.Deep.RegionHeld3
import Derived.Laws.CopyOwn
import Derived.Laws.Tables
import Derived.Laws.Rows
import Derived.Deep.MidRow
import Derived.ChangeKeysEq
import Derived.Deep.CutRange
/- StRod -/
namespace Go.Proofs.YtiodlclaempihaaGreat
open Go.RowKit

/-- the ants at places that go those ways -/
def rdL (l : List Int) (ys : List Int) : List (Int × Int) := l.zip ys
theorem rdL_snoc (l ys : List Int) (k : Nat) (x y : Int) (hx : l[k]? = some x) (hy : ys[k]? = some y) : (rdL l ys).take (k + 1) = (rdL l ys).take k ++ [(x, y)] := by
  have h : (rdL l ys)[k]? = some (x, y) := by
    unfold rdL
    rw [List.getElem?_zip_eq_some]
    exact ⟨hx, hy⟩
  obtain ⟨hk, h2⟩ := List.getElem?_eq_some_iff.1 h
  rw [List.take_succ_eq_append_getElem hk, h2]
theorem slAt_pair1 {w : World} {g : Nat} {x y : Int} {e : TypeId} {m : Nat × Nat} (h : w.heap[g]? = some (.cells #[.int .i64 x, .int .i64 y] e m)) : SlAt pairS w (some ⟨g, 0, none⟩) [(x, y)] := by
  refine .inr ⟨g, 0, rfl, (Array.getElem?_eq_some_iff.1 h).1, fun k z hk j hj => ?_⟩
  cases k with
  | succ k => simp at hk
  | zero =>
    simp only [List.getElem?_cons_zero, Option.some.injEq] at hk
    subst hk
    simp only [Nat.zero_mul, Nat.zero_add]
    rw [cell_of_row w g j _ _ _ h, ← Array.getElem?_toList]
    rfl

theorem own_lenR {α : Type} {S : Shape α} {w : World} {B n c : Nat} {e : TypeId} {A : Option Addr} {l : List α} (h : SlOwn S w B e (.slice A n c) l) : n = l.length := by
  rcases h.2 with ⟨h', h0⟩ | ⟨g, cap, cur, hv, _⟩
  · simp only [Value.slice.injEq] at h'; omega
  · simp only [Value.slice.injEq] at hv; exact hv.2.1
theorem and1 (n : Nat) (h : n < 9223372036854775808) : bits BinOp.and IntKind.i64 (n : Int) 1 = ((n % 2 : Nat) : Int) := by
  unfold bits
  have h2 : (BitVec.ofInt 64 (n : Int) &&& BitVec.ofInt 64 1).toNat = n % 2 := by
    rw [BitVec.toNat_and, BitVec.toNat_ofInt, BitVec.toNat_ofInt]
    have e1 : ((n : Int) % ((2 ^ 64 : Nat) : Int)).toNat = n := by omega
    rw [e1]
    show n &&& 1 = n % 2
    exact Nat.and_one_is_mod n
  show IntKind.i64.wrap (((BitVec.ofInt 64 (n : Int) &&& BitVec.ofInt 64 1).toNat : Nat) : Int) = _
  rw [h2]
  exact IntWalk.i64_in _ (by omega)
theorem bit_at (k e : Nat) (h : (k : Int) ≤ 4096) : (bits BinOp.and IntKind.i64 ((k : Int) / 2 ^ e) 1 == 1) = decide (k / 2 ^ e % 2 = 1) := by
  have e1 : (k : Int) / 2 ^ e = ((k / 2 ^ e : Nat) : Int) := by
    rw [Int.natCast_ediv, Int.natCast_pow]; rfl
  have h2 : k / 2 ^ e ≤ k := Nat.div_le_self _ _
  rw [e1, and1 _ (by omega)]
  by_cases h3 : k / 2 ^ e % 2 = 1
  · rw [h3]; simp
  · have h4 : k / 2 ^ e % 2 = 0 := by omega
    rw [h4]; simp

end Go.Proofs.YtiodlclaempihaaGreat

/- Str -/
namespace Go.Proofs.YtiodlclaempihaaGreat
open Go.RowKit

def btL (l : List UInt8) (k : Nat) : Int := ((l.getD k 0).toNat : Int)
theorem get_btL (s : ByteArray) : ∀ (n : Nat) (h : n < s.size), ((s[n]'h).toNat : Int) = btL s.data.toList n := fun n h => by
  have h' : n < s.data.size := h
  unfold btL
  rw [List.getD_eq_getElem?_getD, Array.getElem?_toList, Array.getElem?_eq_getElem h']
  rfl
theorem len_toList (s : ByteArray) : s.data.toList.length = s.size := Array.length_toList

def wayB (x : UInt8) : Int := if x = 108 then -1 else if x = 114 then 1 else 0
def okB (x : UInt8) : Bool := decide (x = 108 ∨ x = 114)
theorem okB_way {x : UInt8} (h : okB x = true) : wayB x = -1 ∨ wayB x = 1 := by
  unfold okB at h
  rcases of_decide_eq_true h with rfl | rfl
  · exact .inl rfl
  · exact .inr rfl
theorem byte_eq {x : UInt8} {n : Nat} (hn : n < 256) : (x.toNat : Int) = n ↔ x = UInt8.ofNat n := by
  constructor
  · intro h
    apply UInt8.toNat_inj.mp
    rw [UInt8.toNat_ofNat_of_lt' hn]
    omega
  · rintro rfl
    rw [UInt8.toNat_ofNat_of_lt' hn]
theorem ways_ok {b : List UInt8} (h : b.all okB = true) : ∀ y ∈ b.map wayB, y = -1 ∨ y = 1 := by
  intro y hy
  obtain ⟨x, hx, rfl⟩ := List.mem_map.1 hy
  exact okB_way (List.all_eq_true.1 h x hx)
end Go.Proofs.YtiodlclaempihaaGreat

/- Row -/
namespace Go.Proofs.YtiodlclaempihaaGreat
open Go.RowKit

def rwB (L : Int) (l : List Int) (t : ByteArray) : Bool := plB L l && (t.size == l.length) && t.data.toList.all okB
/-- what RodOfWays returns -/
def rwV (L : Int) (l : List Int) (t : ByteArray) : List (Int × Int) := if rwB L l t then rdL l (t.data.toList.map wayB) else []
def rwL (L : Int) (l : List Int) (t : ByteArray) : Int := if rwB L l t then L else 0
theorem rwB_false {L : Int} {l : List Int} {t : ByteArray} (h : rwB L l t = false) : rwV L l t = [] ∧ rwL L l t = 0 := by unfold rwV rwL; rw [h]; exact ⟨rfl, rfl⟩
theorem rwV_len (L : Int) (l : List Int) (t : ByteArray) : (rwV L l t).length ≤ 12 := by
  unfold rwV
  split
  · rename_i h
    unfold rwB at h
    simp only [Bool.and_eq_true] at h
    have := ((plB_iff L l).1 h.1.1).2.1.2
    unfold rdL
    rw [List.length_zip]
    omega
  · simp
theorem not_all {b : List UInt8} {k : Nat} {x : UInt8} (hx : b[k]? = some x) (h : okB x = false) : b.all okB = false := by
  rw [List.all_eq_false]
  exact ⟨x, List.mem_of_getElem? hx, by rw [h]; simp⟩
theorem ret_rodb {L L' : Int} {A : Option Addr} {n c : Nat} {x y : Bool} (h : L = L') (h' : x = y) : Ending.returned (.tuple #[.agg #[.int .i64 L, .slice A n c], .bool x]) = .returned (.tuple #[.agg #[.int .i64 L', .slice A n c], .bool y]) := by rw [h, h']

theorem way_any (x : UInt8) (w : World) :
    Calls Tryz.prog 105 #[.int .u8 x.toNat] w fun e w' => e = .returned (.tuple #[.int .i64 (wayB x), .bool (okB x)]) ∧ w' = w := by
  have e108 : (x.toNat : Int) = 108 ↔ x = 108 := byte_eq (n := 108) (by decide)
  have e114 : (x.toNat : Int) = 114 ↔ x = 114 := byte_eq (n := 114) (by decide)
  by_cases h1 : x = 108
  · have i1 := e108.mpr h1
    have v : Ending.returned (.tuple #[.int .i64 (wayB x), .bool (okB x)]) = .returned (.tuple #[.int .i64 (-1), .bool true]) := by rw [h1]; rfl
    rw [v]
    clear v e108 e114
    go_enter Tryz.func105, Tryz.ntmps105
    go_wp2
    go_ret2
    exact ⟨rfl, rfl⟩
  · have i1 : ¬ (x.toNat : Int) = 108 := fun h => h1 (e108.mp h)
    by_cases h2 : x = 114
    · have i2 := e114.mpr h2
      have v : Ending.returned (.tuple #[.int .i64 (wayB x), .bool (okB x)]) = .returned (.tuple #[.int .i64 1, .bool true]) := by rw [h2]; rfl
      rw [v]
      clear v e108 e114
      go_enter Tryz.func105, Tryz.ntmps105
      go_wp2
      go_ret2
      exact ⟨rfl, rfl⟩
    · have i2 : ¬ (x.toNat : Int) = 114 := fun h => h2 (e114.mp h)
      have v : Ending.returned (.tuple #[.int .i64 (wayB x), .bool (okB x)]) = .returned (.tuple #[.int .i64 0, .bool false]) := by unfold wayB okB; rw [if_neg h1, if_neg h2, decide_eq_false (by rintro (h | h); exact h1 h; exact h2 h)]
      rw [v]
      clear v e108 e114
      go_enter Tryz.func105, Tryz.ntmps105
      go_wp2
      go_ret2
      exact ⟨rfl, rfl⟩
theorem way_at (x : UInt8) (v y : Int) (r : Bool) (hv : (x.toNat : Int) = v) (hy : wayB x = y) (hr : okB x = r) (w : World) :
    Calls Tryz.prog 105 #[.int .u8 v] w fun e w' => e = .returned (.tuple #[.int .i64 y, .bool r]) ∧ w' = w := by
  subst hv; subst hy; subst hr; exact way_any x w

set_option maxRecDepth 100000 in
set_option maxHeartbeats 4000000 in
theorem implRodOfWays_any (L : Int) (A : Option Addr) (c : Nat) (l : List Int) (t : ByteArray) (w : World) (hn : (l.length : Int) ≤ 9223372036854775807) (hA : SlAt intS w A l) :
    Calls Tryz.prog 89 #[.int .i64 L, .slice A l.length c, .string t] w fun e w' => ∃ A' n' c', e = .returned (.tuple #[.agg #[.int .i64 (rwL L l t), .slice A' n' c'], .bool (rwB L l t)]) ∧ n' = (rwV L l t).length ∧ SlOwn pairS w' w.heap.size 90 (.slice A' n' c') (rwV L l t) ∧ Below w.heap.size w w' := by
  have HA := Lib.hid hA
  clear hA
  cases hp : plB L l with
  | false =>
    have hV : rwB L l t = false := by unfold rwB; rw [hp]; simp
    have HV := Lib.hid (rwB_false hV)
    have HB := Lib.hid hV
    have HG := Lib.hid (fun w h => arePlaces_at L A c l false hp w hn h)
    clear hp hV
    go_enter Tryz.func89, Tryz.ntmps89
    go_wp2_with fail
    refine (HG.out _ (HA.out.below ((Below.refl _ w).alloc (Nat.le_refl _) _))).mono ?_
    rintro e w1 ⟨rfl, hb1⟩
    have z0 : w1.cell? ⟨w.heap.size, 0, none⟩ = some (.int .i64 0) := by rw [hb1.cell (p := ⟨w.heap.size, 0, none⟩) (by simp)]; simp
    have z1 : w1.cell? ⟨w.heap.size, 1, none⟩ = some (.slice none 0 0) := by rw [hb1.cell (p := ⟨w.heap.size, 1, none⟩) (by simp)]; simp
    have g0 : w1.frozen? ⟨w.heap.size, 0, none⟩ = false := by rw [hb1.frozen (p := ⟨w.heap.size, 0, none⟩) (by simp)]; simp
    have g1 : w1.frozen? ⟨w.heap.size, 1, none⟩ = false := by rw [hb1.frozen (p := ⟨w.heap.size, 1, none⟩) (by simp)]; simp
    have HB1 : Hid (Below w.heap.size w w1) := ((Below.refl _ w).alloc (Nat.le_refl _) _).trans (hb1.mono (by simp))
    clear hb1
    go_wp2
    refine bodyPost_ret (v := .tuple #[.agg #[.int .i64 0, .slice none 0 0], .bool false]) (by simp [results, Tryz.results89, go_sem, z0, z1]) rfl ⟨none, 0, 0, ret_rodb HV.out.2.symm HB.out.symm, by rw [HV.out.1]; rfl, by rw [HV.out.1]; exact SlOwn.nil _ _ _ _, ?_⟩
    exact (HB1.out.setCell (Nat.le_refl _) _).setCell (Nat.le_refl _) _
  | true =>
    obtain ⟨_, ⟨h1, h2⟩, _⟩ := (plB_iff L l).1 hp
    have HG := Lib.hid (fun w h => arePlaces_at L A c l true hp w hn h)
    by_cases hsz : t.size = l.length
    · obtain ⟨i0, hi, hz0, hz1, hz2⟩ := info_parts antI
      have hl := len_toList t
      have hbt := get_btL t
      obtain ⟨b, hgb⟩ : ∃ b, t.data.toList = b := ⟨_, rfl⟩
      rw [hgb] at hl hbt
      have hrb : rwB L l t = b.all okB := by unfold rwB; rw [hp, hgb]; simp [hsz]
      have hrv : rwV L l t = if b.all okB then rdL l (b.map wayB) else [] := by unfold rwV; rw [hrb, hgb]
      have hrl : rwL L l t = if b.all okB then L else 0 := by unfold rwL; rw [hrb]
      have HRB := Lib.hid hrb
      have HRV := Lib.hid hrv
      have HRL := Lib.hid hrl
      have HBL : Hid (b.length = l.length) := hl.trans hsz
      have hsb : (t.size : Int) = (l.length : Int) := by omega
      clear hp hgb hl hrb hrv hrl
      go_enter Tryz.func89, Tryz.ntmps89
      go_wp2_with fail
      refine (HG.out _ (HA.out.below ((Below.refl _ w).alloc (Nat.le_refl _) _))).mono ?_
      rintro e w1 ⟨rfl, hb1⟩
      have z0 : w1.cell? ⟨w.heap.size, 0, none⟩ = some (.int .i64 0) := by rw [hb1.cell (p := ⟨w.heap.size, 0, none⟩) (by simp)]; simp
      have z1 : w1.cell? ⟨w.heap.size, 1, none⟩ = some (.slice none 0 0) := by rw [hb1.cell (p := ⟨w.heap.size, 1, none⟩) (by simp)]; simp
      have g0 : w1.frozen? ⟨w.heap.size, 0, none⟩ = false := by rw [hb1.frozen (p := ⟨w.heap.size, 0, none⟩) (by simp)]; simp
      have g1 : w1.frozen? ⟨w.heap.size, 1, none⟩ = false := by rw [hb1.frozen (p := ⟨w.heap.size, 1, none⟩) (by simp)]; simp
      have HB1 : Hid (Below w.heap.size w w1) := ((Below.refl _ w).alloc (Nat.le_refl _) _).trans (hb1.mono (by simp))
      have hs1 : w.heap.size + 1 ≤ w1.heap.size := by have := hb1.size; simpa using this
      clear hb1
      go_wp2_with (at_make; refine wpList_make_own _ rfl _ _ _ rfl w1.heap.size 90 i0 _ 2 Tryz.underlying69 hi hz0 hz1 .i64 .i64 _ l.length rfl rfl rfl (by rw [hz2]; omega) (by unfold maxLen; omega) (Nat.le_refl _) ?_; intro w2 hown hg)
      have HB2 := Lib.hid ((Below.refl w1.heap.size w1).grown hg (Nat.le_refl _) (by simp))
      have HO2 : Hid (SlOwn pairS w2 w1.heap.size 90 (.slice (some ⟨w1.heap.size, 0, none⟩) 0 l.length) ((rdL l (b.map wayB)).take 0)) := hown
      clear hg hown
      have HRLN : Hid ((rdL l (b.map wayB)).length = l.length) := by show _ = _; unfold rdL; rw [List.length_zip, List.length_map, HBL.out]; omega
      go_loopw [8, 30] (fun v i wr => ∃ (k : Nat) (A5 : Option Addr) (n5 c5 : Nat), k ≤ l.length ∧ i = .int .i64 k ∧ v = .slice A5 n5 c5 ∧ (b.take k).all okB = true ∧ Below w1.heap.size w1 wr ∧ SlOwn pairS wr w1.heap.size 90 (.slice A5 n5 c5) ((rdL l (b.map wayB)).take k))
        (fun _ i _ => l.length - (intOf i).toNat)
      case atStart => exact ⟨0, _, _, _, Nat.zero_le _, rfl, rfl, rfl, HB2.out, HO2.out⟩
      case round =>
        obtain ⟨k, A5, n5, c5, hk, rfl, rfl, hall, hbr, hown⟩ := hrel
        have HALL := Lib.hid hall
        have HBr := Lib.hid hbr
        have HOr := Lib.hid hown
        have z0 := Below.cell_some hbr z0
        have z1 := Below.cell_some hbr z1
        have g0 := (hbr.frozen (p := ⟨w.heap.size, 0, none⟩) (by simp only; omega)).trans g0
        have g1 := (hbr.frozen (p := ⟨w.heap.size, 1, none⟩) (by simp only; omega)).trans g1
        have hsr := hbr.size
        clear hall hbr hown
        by_cases hlt : k < l.length
        · have hkb : k < b.length := by have := HBL.out; omega
          have hx : b[k]? = some b[k] := List.getElem?_eq_getElem hkb
          have hbk : btL b k = (b[k].toNat : Int) := by unfold btL; rw [List.getD_eq_getElem?_getD, hx]; rfl
          have htk : b.take (k + 1) = b.take k ++ [b[k]] := List.take_succ_eq_append_getElem hkb
          have hyx : (b.map wayB)[k]? = some (wayB b[k]) := by rw [List.getElem?_map, hx]; rfl
          have hkt : k < t.size := by omega
          have HTK := Lib.hid htk
          have HNO := Lib.hid (fun h => not_all hx h)
          obtain ⟨b0, off, rfl, l0, hc⟩ := (HA.out.below (HB1.out.trans (HBr.out.mono (by omega)))).int_at hlt
          have a0 := hc k _ (List.getElem?_eq_getElem hlt)
          have hsn := rdL_snoc l (b.map wayB) k _ _ (List.getElem?_eq_getElem hlt) hyx
          have HTL : Hid (((rdL l (b.map wayB)).take k).length ≤ 12) := by have := HRLN.out; show _ ≤ _; rw [List.length_take]; omega
          clear htk hc hyx
          generalize l[k] = p at *
          generalize b[k] = x at *
          have hbw := hbt k hkt
          rw [hbk] at hbw
          obtain ⟨v, hv⟩ : ∃ v, (x.toNat : Int) = v := ⟨_, rfl⟩
          obtain ⟨y, hy⟩ : ∃ y, wayB x = y := ⟨_, rfl⟩
          rw [hv] at hbk hbw
          rw [hy] at hsn
          have HSN := Lib.hid hsn
          have hk2 : (k : Int) < (l.length : Int) := by omega
          clear hsn hx
          generalize (rdL l (b.map wayB)).take k = m at *
          cases hok : okB x with
          | true =>
            have HO : Hid ((b.take (k + 1)).all okB = true) := by show _ = _; rw [HTK.out, List.all_append, HALL.out]; simp [hok]
            have HW := Lib.hid (way_at x v y true hv hy hok)
            clear hv hy hok
            go_wp2_with fail
            refine (HW.out _).mono ?_
            rintro e w3 ⟨rfl, rfl⟩
            go_wp2_with (at_builtin; go_must (refine wpList_append_slsv pairS _ rfl _ _ 69 rfl w1.heap.size 90 i0 _ 16 Tryz.underlying69 hi hz0 hz1 hz2 rfl (by decide) _ m rfl (SlOwn.below HOr.out ((Below.refl _ w3).alloc (Nat.le_refl _) _)) (some ⟨w3.heap.size, 0, none⟩) 1 1 [(p, y)] rfl rfl (slAt_pair1 (heap_new (by simp))) (by have := HTL.out; simp only [List.length_cons, List.length_nil]; omega) (by simp; omega) ?_); intro A6 n6 k6 w6 hn6 hown6 hb6; have HO6 := Lib.hid hown6; have HB6 := Lib.hid hb6; clear hn6 hown6 hb6)
            go_roundw
            case rel => exact ⟨k + 1, A6, n6, k6, by omega, by go_num, rfl, HO.out, HBr.out.trans (((Below.refl _ w3).alloc hsr _).trans HB6.out), by rw [HSN.out]; exact HO6.out⟩
            case measure => simp [intOf]; omega
          | false =>
            have HF : Hid (b.all okB = false) := HNO.out hok
            have HV1 : Hid (rwV L l t = []) := by show _ = _; rw [HRV.out, HF.out]; rfl
            have HV2 : Hid (rwL L l t = 0) := by show _ = _; rw [HRL.out, HF.out]; rfl
            have HV3 : Hid (rwB L l t = false) := HRB.out.trans HF.out
            have HW := Lib.hid (way_at x v y false hv hy hok)
            clear hv hy hok
            go_wp2_with fail
            refine (HW.out _).mono ?_
            rintro e w3 ⟨rfl, rfl⟩
            go_wp2
            refine bodyPost_ret (v := .tuple #[.agg #[.int .i64 0, .slice none 0 0], .bool false]) (by simp [results, Tryz.results89, go_sem, z0, z1]) rfl ⟨none, 0, 0, ret_rodb HV2.out.symm HV3.out.symm, by rw [HV1.out]; rfl, by rw [HV1.out]; exact SlOwn.nil _ _ _ _, ?_⟩
            exact ((HB1.out.trans (HBr.out.mono (by omega))).setCell (Nat.le_refl _) _).setCell (Nat.le_refl _) _
        · obtain rfl : k = l.length := by omega
          have htk : b.take l.length = b := by rw [← HBL.out, List.take_length]
          have htr : (rdL l (b.map wayB)).take l.length = rdL l (b.map wayB) := by
            have := List.take_length (l := rdL l (b.map wayB))
            rwa [HRLN.out] at this
          have hall : b.all okB = true := by have := HALL.out; rwa [htk] at this
          have HV1 : Hid (rwV L l t = rdL l (b.map wayB)) := by show _ = _; rw [HRV.out, hall]; rfl
          have HV2 : Hid (rwL L l t = L) := by show _ = _; rw [HRL.out, hall]; rfl
          have HV3 : Hid (rwB L l t = true) := HRB.out.trans hall
          rw [htr] at HOr
          have HN : Hid (n5 = l.length) := (own_lenR HOr.out).trans HRLN.out
          have hk2 : ¬ (l.length : Int) < (l.length : Int) := by omega
          clear htk htr hall
          go_wp2
          refine bodyPost_ret (v := .tuple #[.agg #[.int .i64 L, .slice A5 n5 c5], .bool true]) (by simp [results, Tryz.results89, go_sem, z0, z1]) rfl ⟨A5, n5, c5, ret_rodb HV2.out.symm HV3.out.symm, by rw [HV1.out, HN.out, HRLN.out], ?_, ((HB1.out.trans (HBr.out.mono (by omega))).setCell (Nat.le_refl _) _).setCell (Nat.le_refl _) _⟩
          rw [HV1.out]
          exact ownsRow_base (ownsRow_setCell_below (ownsRow_setCell_below HOr.out (by simp only; omega) _) (by simp only; omega) _) (by omega)
    · have hV : rwB L l t = false := by unfold rwB; rw [hp]; simp [hsz]
      have HV := Lib.hid (rwB_false hV)
      have HB := Lib.hid hV
      have hsb : ¬ (t.size : Int) = (l.length : Int) := by omega
      clear hp hV
      go_enter Tryz.func89, Tryz.ntmps89
      go_wp2_with fail
      refine (HG.out _ (HA.out.below ((Below.refl _ w).alloc (Nat.le_refl _) _))).mono ?_
      rintro e w1 ⟨rfl, hb1⟩
      have z0 : w1.cell? ⟨w.heap.size, 0, none⟩ = some (.int .i64 0) := by rw [hb1.cell (p := ⟨w.heap.size, 0, none⟩) (by simp)]; simp
      have z1 : w1.cell? ⟨w.heap.size, 1, none⟩ = some (.slice none 0 0) := by rw [hb1.cell (p := ⟨w.heap.size, 1, none⟩) (by simp)]; simp
      have g0 : w1.frozen? ⟨w.heap.size, 0, none⟩ = false := by rw [hb1.frozen (p := ⟨w.heap.size, 0, none⟩) (by simp)]; simp
      have g1 : w1.frozen? ⟨w.heap.size, 1, none⟩ = false := by rw [hb1.frozen (p := ⟨w.heap.size, 1, none⟩) (by simp)]; simp
      have HB1 : Hid (Below w.heap.size w w1) := ((Below.refl _ w).alloc (Nat.le_refl _) _).trans (hb1.mono (by simp))
      clear hb1
      go_wp2
      refine bodyPost_ret (v := .tuple #[.agg #[.int .i64 0, .slice none 0 0], .bool false]) (by simp [results, Tryz.results89, go_sem, z0, z1]) rfl ⟨none, 0, 0, ret_rodb HV.out.2.symm HB.out.symm, by rw [HV.out.1]; rfl, by rw [HV.out.1]; exact SlOwn.nil _ _ _ _, ?_⟩
      exact (HB1.out.setCell (Nat.le_refl _) _).setCell (Nat.le_refl _) _
end Go.Proofs.YtiodlclaempihaaGreat

/- WaysT -/
namespace Go.Proofs.YtiodlclaempihaaGreat
open Go.RowKit

def oneW (y : Int) : ByteArray := if y < 0 then ⟨#[108]⟩ else ⟨#[114]⟩
def wT (l : List (Int × Int)) : ByteArray := l.foldl (fun s p => s ++ oneW p.2) ⟨#[]⟩
theorem oneW_size (y : Int) : (oneW y).size = 1 := by unfold oneW; split <;> rfl
theorem wT_snoc (l : List (Int × Int)) (k : Nat) (x : Int × Int) (h : l[k]? = some x) : wT (l.take (k + 1)) = wT (l.take k) ++ oneW x.2 := by
  obtain ⟨hk, rfl⟩ := List.getElem?_eq_some_iff.1 h
  unfold wT
  rw [List.take_succ_eq_append_getElem hk, List.foldl_append]
  rfl
theorem wT_size (l : List (Int × Int)) : ∀ k, k ≤ l.length → (wT (l.take k)).size = k := by
  intro k
  induction k with
  | zero => intro _; rfl
  | succ k ih =>
    intro hk
    rw [wT_snoc l k _ (List.getElem?_eq_getElem hk), ByteArray.size_append, ih (by omega), oneW_size]
theorem ret_str' {a b : ByteArray} (h : a = b) : Ending.returned (.string a) = .returned (.string b) := by rw [h]
theorem ret_strb {a b : ByteArray} {x y : Bool} (h : a = b) (h' : x = y) : Ending.returned (.tuple #[.string a, .bool x]) = .returned (.tuple #[.string b, .bool y]) := by rw [h, h']

end Go.Proofs.YtiodlclaempihaaGreat

/- Byte -/
namespace Go.Proofs.YtiodlclaempihaaGreat
open Go.RowKit

def byteS : Shape Int := ⟨1, fun x => [.int .u8 x], fun _ => rfl, fun _ u hu => by simp at hu; subst hu; rfl, by omega⟩
theorem byteI : (Tryz.prog.info? 5).map (fun i => (i.zero, i.size, i.bytes)) = some (some (.int .u8 0), byteS.size, 1) := by kernel_rfl
theorem SlAt.byte_at {w : World} {A : Option Addr} {l : List Int} (h : SlAt byteS w A l) {k : Nat} (hk : k < l.length) :
    ∃ b off, A = some ⟨b, off, none⟩ ∧ b < w.heap.size ∧ ∀ j x, l[j]? = some x → w.cell? ⟨b, off + j, none⟩ = some (.int .u8 x) := by
  obtain ⟨b, off, hA, hlt, hc⟩ := h.at_ hk
  exact ⟨b, off, hA, hlt, fun j x hx => by simpa [byteS] using hc j x hx 0 (by decide)⟩

set_option maxHeartbeats 1000000 in
theorem lastByte_any (A : Option Addr) (c : Nat) (l : List Int) (x : Int) (i : Nat) (w : World) (hn : (l.length : Int) ≤ 65536) (hi : l[i]? = some x) (hno : ∀ j, i < j → j < l.length → l.getD j 0 ≠ x) (hA : SlAt byteS w A l) :
    Calls Tryz.prog 116 #[.slice A l.length c, .int .u8 x] w fun e w' => e = .returned (.int .i64 i) ∧ w = w' := by
  have hil := (List.getElem?_eq_some_iff.1 hi).1
  obtain ⟨b, off, rfl, _, hc⟩ := hA.byte_at hil
  have HC := Lib.hid hc
  have HI := Lib.hid hi
  have HNO := Lib.hid hno
  clear hc hi hno hA
  go_enter Tryz.func116, Tryz.ntmps116
  go_wp2
  go_loop [5] (fun j => ∃ k : Nat, i ≤ k ∧ k < l.length ∧ j = .int .i64 k) (fun j => (intOf j).toNat)
  case atStart => exact ⟨l.length - 1, by omega, by omega, by congr 1; omega⟩
  case round =>
    obtain ⟨k, hk, hkl, rfl⟩ := hrel
    have a0 := HC.out k _ (List.getElem?_eq_getElem hkl)
    have h0 : (0 : Int) ≤ (k : Int) := by omega
    have hkl2 : (k : Int) < (l.length : Int) := by omega
    by_cases he : k = i
    · subst he
      have hx : l[k] = x := by have := HI.out; rw [List.getElem?_eq_getElem hkl] at this; exact Option.some.inj this
      rw [hx] at a0
      go_wp2
      go_ret
      exact ⟨ret_int rfl, rfl⟩
    · have hx : l[k] ≠ x := by have := HNO.out k (by omega) hkl; rw [List.getD_eq_getElem?_getD, List.getElem?_eq_getElem hkl] at this; exact this
      generalize l[k] = y at *
      have hxy : (y == x) = false := by simpa using hx
      go_wp2
      go_round
      case rel => exact ⟨k - 1, by omega, by omega, by congr 1; omega⟩
      case measure => simp [intOf]; omega
theorem lastIndexB_any (A : Option Addr) (c : Nat) (l : List Int) (x : Int) (i : Nat) (w : World) (hn : (l.length : Int) ≤ 65536) (hi : l[i]? = some x) (hno : ∀ j, i < j → j < l.length → l.getD j 0 ≠ x) (hA : SlAt byteS w A l) :
    Calls Tryz.prog 104 #[.slice A l.length c, .int .u8 x] w fun e w' => e = .returned (.int .i64 i) ∧ w = w' := by
  have H := Lib.hid (lastByte_any A c l x i w hn hi hno hA)
  clear hi hno hA
  go_enter Tryz.func104, Tryz.ntmps104
  go_wp2_with fail
  refine H.out.mono ?_
  rintro e w' ⟨rfl, rfl⟩
  go_wp2
  go_ret
  exact ⟨ret_int rfl, rfl⟩
set_option maxRecDepth 100000 in
set_option maxHeartbeats 1000000 in
theorem growB_any (n : Nat) (w : World) (hn : (n : Int) ≤ 1048576) :
    Calls Tryz.prog 115 #[.slice none 0 0, .int .i64 n] w fun e w' => ∃ A c, e = .returned (.slice A 0 c) ∧ SlOwn byteS w' w.heap.size 5 (.slice A 0 c) [] ∧ Below w.heap.size w w' := by
  obtain ⟨i0, hi, hz0, hz1, hz2⟩ := info_parts byteI
  by_cases h0 : n = 0
  · subst h0
    clear hi hz0 hz1 hz2
    go_enter Tryz.func115, Tryz.ntmps115
    go_wp2
    go_ret
    exact ⟨none, 0, rfl, SlOwn.nil _ _ _ _, Below.refl _ _⟩
  · have hp : (0 : Int) < (n : Int) := by omega
    have hsz : i0.size = byteS.size := hz1
    have hold : (Builtin.firstCells i0.size 0 (.slice none 0 0)).run Tryz.prog w.drew = .ok ([] : List Value).toArray w.drew := run_firstCells_none w.drew i0.size 0 0 0
    have hnx : Builtin.nextslicecap (0 + n) 0 * i0.bytes ≤ 281474976710656 := growslice_fits (by omega) (by rw [hz2]; omega)
    have hrz : ∀ ty, (Builtin.append_ #[60, 3] ty #[.slice none 0 0, .int .i64 (n : Int)]).run Tryz.prog w = _ := fun ty =>
      Lib.run_append_grow_zeros w 60 3 ty 5 i0 _ .i64 .i64 Tryz.underlying60 Tryz.underlying3 hi hz0 none 0 0 [] hold n (by omega) (by rw [hsz]; exact byteS.pos) (by omega) (by omega) (by rw [hz2]; omega) hnx
    have hown : SlOwn byteS (w.drew.alloc (.cells (([] : List Value).toArray ++ Builtin.zeroCells (Value.int .u8 0).cells n ++ Builtin.zeroCells (Value.int .u8 0).cells (grownCap w (0 + n) 0 5 - (0 + n))) 5)) w.heap.size 5 (.slice (some ⟨w.heap.size, 0, none⟩) 0 (grownCap w (0 + n) 0 5)) [] := by
      have hge := grownCap_ge w (0 + n) 0 5
      have hle := grownCap_le_maxLen w (0 + n) 0 5 (by unfold maxLen; omega)
      refine World.ownsRow_made w.drew _ _ (Nat.le_refl _) hle ?_
      simp only [Array.size_append, size_zeroCells]
      have e : (Value.int .u8 0).cells.size = byteS.size := rfl
      rw [e]
      have e2 : ([] : List Value).toArray.size = 0 := rfl
      rw [e2, Nat.zero_add, ← Nat.add_mul]
      congr 1
      omega
    have hG := grownCap_ge w (0 + n) 0 5
    have hG2 := grownCap_le_maxLen w (0 + n) 0 5 (by unfold maxLen; omega)
    unfold maxLen at hG2
    generalize grownCap w (0 + n) 0 5 = G at *
    generalize hob : (Obj.cells (([] : List Value).toArray ++ Builtin.zeroCells (Value.int .u8 0).cells n ++ Builtin.zeroCells (Value.int .u8 0).cells (G - (0 + n))) 5) = ob at *
    have HOWN := Lib.hid hown
    have HRZ := Lib.hid hrz
    have hG3 : (n : Int) ≤ (G : Int) := by omega
    have hG4 : (G : Int) ≤ 9223372036854775807 := by omega
    clear hown hrz hnx hold hi hz0 hz1 hz2 hsz hob hG hG2
    go_enter Tryz.func115, Tryz.ntmps115
    go_wp2_with (at_builtin; refine Lib.wpList_append_run _ rfl _ _ _ _ rfl _ _ rfl rfl _ _ (HRZ.out _) ?_)
    go_ret
    exact ⟨_, _, rfl, HOWN.out, (Below.refl _ _).drew.alloc (by simp) _⟩

/-- parts: where each lies, its room, its bytes -/
def PartsAt (w : World) (g : Nat) (ps : List (Option Addr × Nat × List Int)) : Prop :=
  g < w.heap.size ∧ ∀ j p, ps[j]? = some p → w.cell? ⟨g, j, none⟩ = some (.slice p.1 p.2.2.length p.2.1) ∧ SlAt byteS w p.1 p.2.2
def flatP (ps : List (Option Addr × Nat × List Int)) : List Int := ps.flatMap fun p => p.2.2
theorem flatP_snoc (ps : List (Option Addr × Nat × List Int)) (j : Nat) (hj : j < ps.length) : flatP (ps.take (j + 1)) = flatP (ps.take j) ++ (ps[j]).2.2 := by
  unfold flatP
  rw [List.take_succ_eq_append_getElem hj, List.flatMap_append]
  simp
theorem flatP_le (ps : List (Option Addr × Nat × List Int)) (h : ∀ p ∈ ps, p.2.2.length ≤ 12) : ∀ j, j ≤ ps.length → (flatP (ps.take j)).length ≤ 12 * j := by
  intro j
  induction j with
  | zero => intro _; simp [flatP]
  | succ j ih =>
    intro hj
    rw [flatP_snoc ps j (by omega), List.length_append]
    have := ih (by omega)
    have := h _ (List.getElem_mem (show j < ps.length by omega))
    omega
set_option maxRecDepth 100000 in
set_option maxHeartbeats 2000000 in
theorem concatB_any (g c2 : Nat) (ps : List (Option Addr × Nat × List Int)) (w : World) (hk : ps.length ≤ 3) (hl : ∀ p ∈ ps, p.2.2.length ≤ 12) (hP : PartsAt w g ps) :
    Calls Tryz.prog 103 #[.slice (some ⟨g, 0, none⟩) ps.length c2] w fun e w' => ∃ A' n' c', e = .returned (.slice A' n' c') ∧ n' = (flatP ps).length ∧ SlOwn byteS w' w.heap.size 5 (.slice A' n' c') (flatP ps) ∧ Below w.heap.size w w' := by
  obtain ⟨i0, hi, hz0, hz1, hz2⟩ := info_parts byteI
  have HP := Lib.hid hP
  have HFL := Lib.hid (flatP_le ps hl)
  have HL := Lib.hid hl
  have hgw := hP.1
  clear hP hl
  go_enter Tryz.func103, Tryz.ntmps103
  go_wp2
  go_loop [3, 11] (fun s i => ∃ j : Nat, j ≤ ps.length ∧ i = .int .i64 j ∧ s = .int .i64 ((flatP (ps.take j)).length : Nat)) (fun _ i => ps.length - (intOf i).toNat)
  case atStart => exact ⟨0, Nat.zero_le _, rfl, rfl⟩
  case round =>
    obtain ⟨j, hj, rfl, rfl⟩ := hrel
    by_cases hlt : j < ps.length
    · have hjl : (j : Int) < (ps.length : Int) := by omega
      have a0 := (HP.out.2 j _ (List.getElem?_eq_getElem hlt)).1
      have hsn := congrArg List.length (flatP_snoc ps j hlt)
      rw [List.length_append] at hsn
      have hle := HFL.out j hj
      have hpl := HL.out _ (List.getElem_mem hlt)
      have HSN := Lib.hid hsn
      clear hsn
      generalize (flatP (ps.take j)).length = s at *
      generalize ps[j] = p at *
      obtain ⟨pa, pc, pl⟩ := p
      simp only at a0 hpl HSN
      have hpos : ¬ ((s : Int) + (pl.length : Int)) < 0 := by omega
      go_wp2
      go_round
      case rel => exact ⟨j + 1, by omega, by go_num, by rw [HSN.out]; go_num⟩
      case measure => simp [intOf]; omega
    · obtain rfl : j = ps.length := by omega
      have hjl : ¬ (ps.length : Int) < (ps.length : Int) := by omega
      have hle := HFL.out ps.length (Nat.le_refl _)
      have HE : Hid (ps.take ps.length = ps) := List.take_length
      rw [HE.out] at hle
      have HGR := Lib.hid (growB_any (flatP ps).length w (by omega))
      have HFP : Hid (((flatP (ps.take ps.length)).length : Nat) = (flatP ps).length) := by show _ = _; rw [HE.out]
      rw [HE.out]
      generalize hT : (flatP ps).length = T at *
      have HT := Lib.hid hT
      clear hT
      go_wp2_with fail
      refine HGR.out.mono ?_
      rintro e w1 ⟨A1, k1, rfl, ho1, hb1⟩
      have HO1 := Lib.hid ho1
      have HB1 := Lib.hid hb1
      have hs1 := hb1.size
      clear ho1 hb1
      go_wp2
      go_loopw [6, 27] (fun v i wr => ∃ (j : Nat) (A5 : Option Addr) (n5 c5 : Nat), j ≤ ps.length ∧ i = .int .i64 j ∧ v = .slice A5 n5 c5 ∧ Below w.heap.size w wr ∧ SlOwn byteS wr w.heap.size 5 (.slice A5 n5 c5) (flatP (ps.take j)))
        (fun _ i _ => ps.length - (intOf i).toNat)
      case atStart => exact ⟨0, A1, 0, k1, Nat.zero_le _, rfl, rfl, HB1.out, HO1.out⟩
      case round =>
        obtain ⟨j, A5, n5, c5, hj, rfl, rfl, hbr, hown⟩ := hrel
        have HBr := Lib.hid hbr
        have HOr := Lib.hid hown
        have hsr := hbr.size
        clear hbr hown
        by_cases hlt : j < ps.length
        · have hjl : (j : Int) < (ps.length : Int) := by omega
          have hpj := HP.out.2 j _ (List.getElem?_eq_getElem hlt)
          have a0 := Below.cell_some HBr.out hpj.1
          have HSL := Lib.hid (hpj.2.below HBr.out)
          have hpl := HL.out _ (List.getElem_mem hlt)
          have HSN := Lib.hid (flatP_snoc ps j hlt)
          have hle := HFL.out j hj
          clear hpj
          generalize flatP (ps.take j) = q at *
          generalize ps[j] = p at *
          obtain ⟨pa, pc, pl⟩ := p
          simp only at a0 hpl HSN HSL
          go_wp2_with (at_builtin; go_must (refine wpList_append_slsv byteS _ rfl _ _ 60 rfl w.heap.size 5 i0 _ 1 Tryz.underlying60 hi hz0 hz1 hz2 rfl (by decide) _ q rfl HOr.out pa pl.length pc pl rfl rfl HSL.out (by omega) hsr ?_); intro A6 n6 k6 w6 hn6 hown6 hb6; have HO6 := Lib.hid hown6; have HB6 := Lib.hid hb6; clear hn6 hown6 hb6)
          go_roundw
          case rel => exact ⟨j + 1, A6, n6, k6, by omega, by go_num, rfl, HBr.out.trans HB6.out, by rw [HSN.out]; exact HO6.out⟩
          case measure => simp [intOf]; omega
        · obtain rfl : j = ps.length := by omega
          have HE : Hid (ps.take ps.length = ps) := List.take_length
          rw [HE.out] at HOr
          have HN : Hid (n5 = T) := by
            rcases HOr.out.2 with ⟨h', h0⟩ | ⟨g, cap, cur, hv, _⟩
            · simp only [Value.slice.injEq] at h'; show _ = _; rw [h'.2.1, ← HT.out, h0]
            · simp only [Value.slice.injEq] at hv; show _ = _; rw [hv.2.1, ← HT.out]
          go_wp2
          go_ret
          exact ⟨A5, n5, c5, rfl, HN.out.trans HT.out.symm, HOr.out, HBr.out⟩
end Go.Proofs.YtiodlclaempihaaGreat

/- Rep -/
namespace Go.Proofs.YtiodlclaempihaaGreat
open Go.RowKit

theorem byteSz : (Tryz.prog.info? 5).map (·.size) = some 1 := by kernel_rfl
theorem makeZ (n : Nat) (hn : n ≤ 12) (w : World) : ∃ cs : Array Value, (callFunc 114 #[.int .i64 n]).run Tryz.prog w = .ok (.value (.slice (some ⟨w.heap.size, 0, none⟩) n cs.size)) ((w.alloc (.cells cs 5)).drewN 2) ∧ n ≤ cs.size ∧ cs.size ≤ maxLen := by
  obtain ⟨cs, hrunM, hle, hmx⟩ := Lib.run_makeNoZero (P := Tryz.prog) w #[3] 60 5 Tryz.underlying60 n (by omega)
  refine ⟨cs, ?_, hle, hmx (by unfold maxLen; omega)⟩
  rw [run_callFunc_extern Tryz.func114 (by kernel_rfl) (by kernel_rfl) (by kernel_rfl) (e := Extern.BytealgMakeNoZero.makeNoZero #[3] #[60]) (by kernel_rfl), hrunM]
  rfl

/-- a buffer whose first B bytes are b -/
structure Fill (w0 wr : World) (h n : Nat) (b : Int) (B : Nat) : Prop where
  below : Below h w0 wr
  lt : h < wr.heap.size
  there : ∀ j, j < n → (wr.cell? ⟨h, j, none⟩).isSome = true
  free : ∀ j, j < n → wr.frozen? ⟨h, j, none⟩ = false
  holds : ∀ j, j < B → wr.cell? ⟨h, j, none⟩ = some (.int .u8 b)
theorem Fill.drew {w0 wr : World} {h n B : Nat} {b : Int} (f : Fill w0 wr h n b B) : Fill w0 wr.drew h n b B := ⟨f.below.drew, f.lt, f.there, f.free, f.holds⟩
theorem fill_copy {w0 wr : World} {h n B : Nat} {b : Int} (f : Fill w0 wr h n b B) (a : Addr) (sLen sCap C : Nat) (ty : TypeId) (hC : C = Nat.min sLen (n - B)) (hB : B ≤ n) (hs : ∀ j, j < C → wr.cell? (a.add j) = some (.int .u8 b)) :
    ∃ wr', (Builtin.copy_ #[60, 60] ty #[.slice (some ⟨h, B, none⟩) (n - B) (n - B), .slice (some a) sLen sCap]).run Tryz.prog wr = .ok (.int .i64 C) wr' ∧ Fill w0 wr' h n b (B + C) := by
  have hCn : C ≤ n - B := by rw [hC]; exact Nat.min_le_right _ _
  have hr := run_copy_cells (P := Tryz.prog) wr 60 60 ty 5 h B (n - B) (n - B) a sLen sCap (List.replicate C (.int .u8 b)) Tryz.underlying60 byteSz (by rw [List.length_replicate]; exact hC)
    (fun j u hu => by
      have hj : j < C := by have := (List.getElem?_eq_some_iff.1 hu).1; simpa using this
      rw [List.getElem?_replicate, if_pos hj] at hu
      injection hu with hu
      rw [← hu]; exact hs j hj)
    (fun j hj => by rw [List.length_replicate] at hj; exact f.there _ (by omega))
    (fun j hj => by rw [List.length_replicate] at hj; exact f.free _ (by omega))
    (fun u hu => by rw [List.eq_of_mem_replicate hu]; rfl)
  rw [List.length_replicate] at hr
  have hin := World.cell?_setCells_in h (List.replicate C (.int .u8 b)) B wr (fun j hj => by rw [List.length_replicate] at hj; exact f.there _ (by omega))
  have hout := World.cell?_setCells_out h (List.replicate C (Value.int .u8 b)) B wr
  have hin' : ∀ j, j < C → (wr.setCells h B (List.replicate C (.int .u8 b))).cell? ⟨h, B + j, none⟩ = some (.int .u8 b) := fun j hj => by
    rw [hin j (by rw [List.length_replicate]; exact hj), List.getElem_replicate]
  have hout' : ∀ j, ¬ (B ≤ j ∧ j < B + C) → (wr.setCells h B (List.replicate C (.int .u8 b))).cell? ⟨h, j, none⟩ = wr.cell? ⟨h, j, none⟩ := fun j hj =>
    hout ⟨h, j, none⟩ (fun _ _ => by rw [List.length_replicate]; show j < _ ∨ _ ≤ j; omega)
  refine ⟨_, hr, Lib.below_setCells h (Nat.le_refl _) _ _ f.below, ?_, ?_, ?_, ?_⟩
  · have hb : Below 0 wr (wr.setCells h B (List.replicate C (.int .u8 b))) := Lib.below_setCells h (Nat.zero_le _) _ _ ⟨rfl, rfl, rfl, Nat.le_refl _, fun _ _ => rfl⟩
    exact Nat.lt_of_lt_of_le f.lt hb.size
  · intro j hj
    by_cases h1 : B ≤ j ∧ j < B + C
    · obtain ⟨d, rfl⟩ : ∃ d, j = B + d := ⟨j - B, by omega⟩
      rw [hin' d (by omega)]; rfl
    · rw [hout' j h1]; exact f.there j hj
  · intro j hj
    rw [World.frozen?_setCells]
    exact f.free j hj
  · intro j hj
    by_cases h1 : B ≤ j ∧ j < B + C
    · obtain ⟨d, rfl⟩ : ∃ d, j = B + d := ⟨j - B, by omega⟩
      exact hin' d (by omega)
    · rw [hout' j h1]; exact f.holds j (by omega)

set_option maxHeartbeats 4000000 in
theorem mul_one (n : Nat) (h1 : 1 ≤ n) (h2 : n ≤ 12) (w : World) :
    Calls Tryz.prog 113 #[.int .u64 1, .int .u64 n] w fun e w' => e = .returned (.tuple #[.int .u64 0, .int .u64 n]) ∧ w = w' := by
  have HM : Hid (Calls Tryz.prog 127 #[.int .u64 1, .int .u64 n] w fun e w' => e = .returned (.tuple #[.int .u64 0, .int .u64 n]) ∧ w = w') := by
    show Calls _ _ _ _ _
    rcases (by omega : n = 1 ∨ n = 2 ∨ n = 3 ∨ n = 4 ∨ n = 5 ∨ n = 6 ∨ n = 7 ∨ n = 8 ∨ n = 9 ∨ n = 10 ∨ n = 11 ∨ n = 12) with rfl | rfl | rfl | rfl | rfl | rfl | rfl | rfl | rfl | rfl | rfl | rfl
    all_goals
      go_enter Tryz.func127, Tryz.ntmps127
      go_wp2
      go_ret2
      exact ⟨rfl, rfl⟩
  go_enter Tryz.func113, Tryz.ntmps113
  go_wp2_with fail
  refine HM.out.mono ?_
  rintro e w' ⟨rfl, rfl⟩
  go_wp2
  go_ret2
  exact ⟨rfl, rfl⟩

set_option maxRecDepth 100000 in
set_option maxHeartbeats 4000000 in
theorem repeat_any (g : Nat) (b : Int) (n : Nat) (w : World) (h1 : 1 ≤ n) (h2 : n ≤ 12) (hc : w.cell? ⟨g, 0, none⟩ = some (.int .u8 b)) :
    Calls Tryz.prog 101 #[.slice (some ⟨g, 0, none⟩) 1 1, .int .i64 n] w fun e w' => ∃ A, e = .returned (.slice A n n) ∧ SlAt byteS w' A (List.replicate n b) ∧ Below w.heap.size w w' := by
  have hgl := World.block_lt_of_cell? _ _ hc
  have HMU := Lib.hid (fun w => mul_one n h1 h2 w)
  obtain ⟨cs, hcall, hle, hmx⟩ := makeZ n h2 w
  obtain ⟨W, hW⟩ : ∃ W, W = (w.alloc (.cells cs 5)).drewN 2 := ⟨_, rfl⟩
  rw [← hW] at hcall
  have F0 : Fill w W w.heap.size n b 0 := by
    have B0 := Lib.Buf.start w cs 5 n 2 hle
    rw [← hW] at B0
    exact ⟨B0.below, by rw [hW]; simp, B0.there, B0.free, fun j hj => by omega⟩
  have hc1 : W.cell? ⟨g, 0, none⟩ = some (.int .u8 b) := (F0.below.cell (p := ⟨g, 0, none⟩) hgl).trans hc
  obtain ⟨W1, hcp, F1⟩ := fill_copy F0 ⟨g, 0, none⟩ 1 1 1 3 (by show 1 = min 1 (n - 0); omega) (Nat.zero_le _) (fun j hj => by
    have hj0 : j = 0 := by omega
    rw [hj0, Addr.add_lit]; exact hc1)
  rw [Nat.sub_zero] at hcp
  rw [Nat.zero_add] at F1
  have HF1 := Lib.hid F1
  have i1 : (n : Int) ≤ (cs.size : Int) := by omega
  have i2 : (0 : Int) < (n : Int) := by omega
  clear hW F0 F1 hc1 hc
  go_enter Tryz.func101, Tryz.ntmps101
  go_wp2_with fail
  refine (HMU.out _).mono ?_
  rintro e w' ⟨rfl, rfl⟩
  go_wp2_with (at_builtin; refine Lib.wpList_copy_run _ rfl _ _ 60 60 rfl _ _ rfl rfl hcp ?_)
  clear hcp hcall
  go_loopw [10] (fun p wr => ∃ B : Nat, 1 ≤ B ∧ B ≤ n ∧ p = .int .i64 B ∧ Fill w wr w.heap.size n b B) (fun p _ => n - (intOf p).toNat)
  case atStart => exact ⟨1, Nat.le_refl _, h1, rfl, HF1.out⟩
  case round =>
    obtain ⟨B, hB1, hBn, rfl, hf⟩ := hrel
    have HF := Lib.hid hf
    clear hf
    by_cases hlt : B < n
    · have hlt2 : (B : Int) < (n : Int) := by omega
      have hne : ¬ n = B := by omega
      have hmin : min (B : Int) (n : Int) = (B : Int) := by omega
      obtain ⟨C, hC⟩ : ∃ C, C = Nat.min B (n - B) := ⟨_, rfl⟩
      have hC2 : C = min B (n - B) := hC
      obtain ⟨W2, hcp, F2⟩ := fill_copy HF.out.drew ⟨w.heap.size, 0, none⟩ B n C 3 hC (by omega) (fun j hj => by
        rw [Addr.add_lit, Nat.zero_add]; exact HF.out.drew.holds j (by omega))
      have HF2 := Lib.hid F2
      have hCb : 1 ≤ C ∧ B + C ≤ n := by omega
      clear F2 hC hC2
      go_wp2
      all_goals (try (exfalso; omega))
      all_goals (
        go_region
        go_wp2
        go_roundw
        case rel => exact ⟨B + C, by omega, by omega, by go_num, HF2.out⟩
        case measure => simp [intOf]; omega)
    · obtain rfl : B = n := by omega
      have hlt2 : ¬ (B : Int) < (B : Int) := by omega
      have HSL : Hid (SlAt byteS wr (some ⟨w.heap.size, 0, none⟩) (List.replicate B b)) := by
        refine .inr ⟨w.heap.size, 0, rfl, HF.out.lt, fun k x hk j hj => ?_⟩
        obtain rfl : j = 0 := by have : j < 1 := hj; omega
        have hkb : k < B := by have := (List.getElem?_eq_some_iff.1 hk).1; simpa using this
        rw [List.getElem?_replicate, if_pos hkb] at hk
        injection hk with hk
        show wr.cell? ⟨w.heap.size, 0 + k * 1 + 0, none⟩ = some (.int .u8 x)
        rw [Nat.zero_add, Nat.mul_one, Nat.add_zero, HF.out.holds k hkb, hk]
      go_wp2
      go_ret
      exact ⟨_, rfl, HSL.out, HF.out.below⟩
end Go.Proofs.YtiodlclaempihaaGreat

/- Arr -/
namespace Go.Proofs.YtiodlclaempihaaGreat
open Go.RowKit

/-- copy of elements of several cells -/
theorem run_copy_rows (P : Program) (w : World) (dT sT ty elem : TypeId) (g o dLen dCap size : Nat) (a : Addr) (sLen sCap : Nat) (cur : Array Value) (t : TypeId) (cs : List Value)
    (hu : P.underlying dT = some (.slice elem)) (hs : (P.info? elem).map (·.size) = some size)
    (hg : w.heap[g]? = some (.cells cur t (0, 0))) (hn : cs.length = Nat.min sLen dLen * size)
    (hsrc : ∀ j v, cs[j]? = some v → w.cell? (a.add j) = some v) (hfit : o + cs.length ≤ cur.size) (h1 : ∀ v ∈ cs, v.oneCell' = true) :
    (Builtin.copy_ #[dT, sT] ty #[.slice (some ⟨g, o, none⟩) dLen dCap, .slice (some a) sLen sCap]).run P w =
      .ok (goInt (Nat.min sLen dLen)) (w.setRow g (cur.toList.take o ++ cs ++ cur.toList.drop (o + cs.length)).toArray) := by
  have hl := run_loadCells_list (P := P) w a cs hsrc
  have hst := run_storeCells_at P g o t cs 0 cur w hg (by simpa using hfit) h1
  cases hq : P.info? elem with
  | none => simp [hq] at hs
  | some i =>
    have hi : i.size = size := by simpa [hq] using hs
    simp [Builtin.copy_, run_underlying hu, Builtin.lenOf, Builtin.firstCells, sizeOf, typeInfo, hq, hi, ← hn, hl, hst]

theorem wpList_store_row {P : Program} {w : World} {ops : Array Oper} {rest : List Oper} {o : Oper} {a : Act} {Q : Exit → Act → World → Prop} (hgd : o.guard = none) (ty : TypeId) (x v : Operand) (ho : o.op = .store ty x v)
    (g : Nat) (hx : a.eval x = .pointer (some ⟨g, 0, none⟩)) (t : TypeId) (cs cs' : Array Value) (hv : a.eval v = .agg cs') (hg : w.heap[g]? = some (.cells cs t (0, 0)))
    (hi : (P.info? ty).map (·.size) = some cs'.size) (hlen : cs.size = cs'.size) (h1 : cs'.all (·.oneCell') = true)
    (h : wpList P ops Q rest (a.put o.dst undef) (w.setRow g cs')) : wpList P ops Q (o :: rest) a w := by
  refine wpList_plain hgd fun K hK => ?_
  unfold Oper.wp execOp
  have e : (storeVar ty ⟨g, 0, none⟩ (.agg cs')).run P w = .ok () (w.setRow g cs') := by
    first | exact run_storeVar_row w g t ty cs cs' hg hi hlen h1 | exact run_storeVar_row P w g t ty cs cs' hg hi hlen h1
  simp only [ho, hx, hv, Instr.storeAt, Instr.sureAddr, Sem.run_bind, Sem.run_pure, Result.andThen_ok, e]
  exact hK _ _ h
theorem run_copy_rows_ex (P : Program) (w : World) (dT sT ty elem : TypeId) (g off dLen dCap size : Nat) (ad : Addr) (sLen sCap : Nat) (cur : List Value) (t : TypeId) (cs : List Value)
    (hu : P.underlying dT = some (.slice elem)) (hs : (P.info? elem).map (·.size) = some size) (hg : w.heap[g]? = some (.cells cur.toArray t (0, 0))) (hle : sLen ≤ dLen) (hn : cs.length = sLen * size)
    (hsrc : ∀ j v, cs[j]? = some v → w.cell? (ad.add j) = some v) (hfit : off + cs.length ≤ cur.length) (h1 : ∀ v ∈ cs, v.oneCell' = true) :
    ∃ w', (Builtin.copy_ #[dT, sT] ty #[.slice (some ⟨g, off, none⟩) dLen dCap, .slice (some ad) sLen sCap]).run P w = .ok (.int .i64 sLen) w' ∧ w'.heap[g]? = some (.cells (splice cur off cs).toArray t (0, 0)) ∧ w.grownBy w' (some g) := by
  have hm : Nat.min sLen dLen = sLen := Nat.min_eq_left hle
  have hrun := run_copy_rows P w dT sT ty elem g off dLen dCap size ad sLen sCap cur.toArray t cs hu hs hg (by rw [hm]; exact hn) hsrc (by simpa using hfit) h1
  rw [hm] at hrun
  refine ⟨_, hrun, ?_, ⟨rfl, rfl, rfl, by simp [World.setRow], fun k _ hk => setRow_other w g k _ (fun e => hk (by rw [e]))⟩⟩
  simpa [splice] using setRow_heap w g _ _ t _ hg

theorem there_row (w : World) (g : Nat) (t : TypeId) (old cells : Array Value) (hg : w.heap[g]? = some (.cells old t (0, 0))) (hl : old.size = cells.size) : w.there g 0 cells.size := fun j hj => by
  rw [Nat.zero_add]
  have h : j < old.size := by omega
  exact ⟨by rw [cell_of_row w g j old t _ hg]; simp [h], by simp [World.frozen?, hg]⟩
theorem setCells_setRow {P : Program} (w : World) (g : Nat) (t ty : TypeId) (old : Array Value) (cs : List Value) (hg : w.heap[g]? = some (.cells old t (0, 0))) (hi : (P.info? ty).map (·.size) = some cs.toArray.size) (hl : old.size = cs.toArray.size)
    (h1 : cs.toArray.all (·.oneCell') = true) : w.setCells g 0 cs = w.setRow g cs.toArray := by
  have a := run_storeVar_mid (P := P) w g 0 ty cs.toArray (there_row w g t old _ hg hl) hi h1
  have b := run_storeVar_row (P := P) w g t ty old cs.toArray hg hi hl h1
  rw [a] at b
  injection b with _ b

end Go.Proofs.YtiodlclaempihaaGreat

/- Join -/
namespace Go.Proofs.YtiodlclaempihaaGreat
open Go.RowKit

/-- twelve bytes: those, and zeros behind them -/
def chV (x : List Int) : List Value := (byteS.row x ++ List.replicate 12 (Value.int .u8 0)).take 12
theorem chV_len (x : List Int) : (chV x).length = 12 := by unfold chV; rw [List.length_take, List.length_append, List.length_replicate]; omega
theorem chV_one (x : List Int) : ∀ u ∈ chV x, u.oneCell' = true := by
  intro u hu
  unfold chV at hu
  rcases List.mem_append.1 (List.mem_of_mem_take hu) with hu | hu
  · exact byteS.row_oneCell x u hu
  · obtain rfl := List.eq_of_mem_replicate hu; rfl
theorem chV_nil : chV [] = List.replicate 12 (Value.int .u8 0) := by unfold chV; simp [Shape.row]
theorem rowB_len (x : List Int) : (byteS.row x).length = x.length := by rw [byteS.row_length]; exact Nat.mul_one _
theorem chV_splice (x : List Int) (h : x.length ≤ 12) : splice (List.replicate 12 (Value.int .u8 0)) 0 (byteS.row x) = chV x := by
  unfold splice chV
  rw [List.take_zero, List.nil_append, Nat.zero_add, rowB_len, List.drop_replicate, List.take_append, List.take_of_length_le (by rw [rowB_len]; exact h), rowB_len, List.take_replicate]
  congr 2
  omega
def chS : Shape (List Int) := ⟨12, chV, chV_len, chV_one, by omega⟩
theorem chUnd : Tryz.prog.underlying 99 = some (.array (Tryz.prog.arrayLen 99) (Tryz.prog.elem 99)) := by kernel_rfl
theorem chLen : Tryz.prog.arrayLen 99 = 12 := by kernel_rfl
theorem chElem : Tryz.prog.elem 99 = 5 := by kernel_rfl
theorem chSiz : (Tryz.prog.info? 99).map (·.size) = some 12 := by kernel_rfl
theorem chSizV (x : List Int) : (Tryz.prog.info? 99).map (·.size) = some (chV x).toArray.size := by rw [List.size_toArray, chV_len]; exact chSiz
theorem chAllV (x : List Int) : (chV x).toArray.all (·.oneCell') = true := by rw [List.all_toArray]; exact List.all_eq_true.2 (chV_one x)
theorem byteSzJ : (Tryz.prog.info? 5).map (·.size) = some 1 := by kernel_rfl

theorem add_plainJ (g o n : Nat) : (⟨g, o, none⟩ : Addr).add n = ⟨g, o + n, none⟩ := by unfold Addr.add; split <;> simp_all
theorem chSl_all (w : World) (g : Nat) : (Instr.sliceAt 99 (.pointer (some ⟨g, 0, none⟩)) none none none).run Tryz.prog w = .ok (.slice (some ⟨g, 0, none⟩) 12 12) w := by
  rw [run_sliceAt_array_all w 99 ⟨g, 0, none⟩ chUnd, chElem, chLen]
  simp [Tryz.sizeOf5, Result.andThen, slicedAt, add_plainJ]
theorem chSl_hm (w : World) (g n : Nat) (hn : n ≤ 12) : (Instr.sliceAt 99 (.pointer (some ⟨g, 0, none⟩)) none (some (.int .i64 n)) (some (.int .i64 n))).run Tryz.prog w = .ok (.slice (some ⟨g, 0, none⟩) n n) w := by
  rw [run_sliceAt_array_hm w 99 ⟨g, 0, none⟩ chUnd .i64 .i64 n n (by omega) (by omega) (by rw [chLen]; omega), chElem]
  simp [Tryz.sizeOf5, Result.andThen, slicedAt, add_plainJ]
theorem chSl_h (w : World) (g n : Nat) (hn : n ≤ 12) : (Instr.sliceAt 99 (.pointer (some ⟨g, 0, none⟩)) none (some (.int .i64 n)) none).run Tryz.prog w = .ok (.slice (some ⟨g, 0, none⟩) n 12) w := by
  rw [run_sliceAt_array_h w 99 ⟨g, 0, none⟩ chUnd .i64 n (by omega) (by rw [chLen]; omega), chElem, chLen]
  simp [Tryz.sizeOf5, Result.andThen, slicedAt, add_plainJ]

set_option maxRecDepth 100000 in
set_option maxHeartbeats 4000000 in
theorem join_any (g c2 : Nat) (ps : List (Option Addr × Nat × List Int)) (w : World) (hk : ps.length ≤ 3) (hl : ∀ p ∈ ps, p.2.2.length ≤ 12) (hn0 : 1 ≤ (flatP ps).length) (hn : (flatP ps).length ≤ 12) (hP : PartsAt w g ps) :
    Calls Tryz.prog 102 #[.slice (some ⟨g, 0, none⟩) ps.length c2] w fun e w' => e = .returned (.agg (chV (flatP ps)).toArray) ∧ Below w.heap.size w w' := by
  have HC : Hid (∀ W, Below w.heap.size w W → Calls Tryz.prog 103 #[.slice (some ⟨g, 0, none⟩) ps.length c2] W fun e w' => ∃ A' n' c', e = .returned (.slice A' n' c') ∧ n' = (flatP ps).length ∧ SlOwn byteS w' W.heap.size 5 (.slice A' n' c') (flatP ps) ∧ Below W.heap.size W w') := fun W hW =>
    concatB_any g c2 ps W hk hl ⟨Nat.lt_of_lt_of_le hP.1 hW.size, fun j p hj => ⟨Below.cell_some hW (hP.2 j p hj).1, (hP.2 j p hj).2.below hW⟩⟩
  have HN := Lib.hid hn
  have HN0 := Lib.hid hn0
  clear hk hl hP hn hn0
  generalize flatP ps = f at *
  generalize ps.length = np at *
  obtain ⟨X, hX⟩ : ∃ X, X = (w.alloc (Obj.cells (List.replicate 12 (Value.int .u8 0)).toArray 99)).alloc (Obj.cells (List.replicate 12 (Value.int .u8 0)).toArray 99) := ⟨_, rfl⟩
  have hBX : Below w.heap.size w X := by rw [hX]; exact ((Below.refl _ _).alloc (Nat.le_refl _) _).alloc (by simp) _
  have hR0 : X.heap[w.heap.size]? = some (.cells (List.replicate 12 (Value.int .u8 0)).toArray 99 (0, 0)) := by
    rw [hX, heap_alloc_old _ _ (by simp)]; exact heap_new rfl
  have hR1 : X.heap[w.heap.size + 1]? = some (.cells (List.replicate 12 (Value.int .u8 0)).toArray 99 (0, 0)) := by
    rw [hX]; exact heap_new (by simp)
  have hXs : X.heap.size = w.heap.size + 2 := by rw [hX]; simp
  have HBX := Lib.hid hBX
  have HR0 := Lib.hid hR0
  have HR1 := Lib.hid hR1
  clear hBX hR0 hR1
  go_enter Tryz.func102, Tryz.ntmps102
  go_wp2
  generalize hQ : World.alloc (World.alloc w _) _ = X1
  obtain rfl : X1 = X := by rw [hX, ← hQ]; rfl
  clear hQ hX
  have slk := fun w' => chSl_all w' (w.heap.size + 1)
  have HBD : Hid (Below w.heap.size w X1.drew) := HBX.out.drew
  have HD0 : Hid (X1.drew.heap[w.heap.size]? = some (.cells (List.replicate 12 (Value.int .u8 0)).toArray 99 (0, 0))) := HR0.out
  have HD1 : Hid (X1.drew.heap[w.heap.size + 1]? = some (.cells (List.replicate 12 (Value.int .u8 0)).toArray 99 (0, 0))) := HR1.out
  have HDS : Hid (w.heap.size + 2 ≤ X1.drew.heap.size) := by show _ ≤ X1.heap.size; omega
  go_region_held3 (fun _ => True)
    (trivial)
    (first
      | (go_at_call 103; refine (HC.out _ HBD.out).mono ?_; rintro e w3 ⟨A3, n3, k3, rfl, hn3, ho3, hb3⟩; have HR3 : Hid (w3.heap[w.heap.size]? = some (.cells (List.replicate 12 (Value.int .u8 0)).toArray 99 (0, 0))) := (hb3.block w.heap.size (by have := HDS.out; omega)).trans HD0.out; have HS3 : Hid (w3.heap[w.heap.size + 1]? = some (.cells (List.replicate 12 (Value.int .u8 0)).toArray 99 (0, 0))) := (hb3.block (w.heap.size + 1) (by have := HDS.out; omega)).trans HD1.out; have HB3 := Lib.hid (HBD.out.trans (hb3.mono HBD.out.size)); have hA3 : ∃ a, A3 = some a ∧ ∀ j u, (byteS.row f)[j]? = some u → w3.cell? (a.add j) = some u := (by
            have hsl := SlOwn.sl ho3
            rcases hsl with h0 | ⟨b, off, hA, hlt, h⟩
            · have := HN0.out; rw [h0] at this; simp at this
            · subst hA; exact ⟨_, rfl, (SlOwn.sl ho3).cells_at⟩); obtain ⟨a3, rfl, hcs⟩ := hA3; obtain ⟨w6, hcp, hr6, hg6⟩ := run_copy_rows_ex Tryz.prog w3 60 60 3 5 (w.heap.size + 1) 0 12 12 1 a3 n3 k3 (List.replicate 12 (Value.int .u8 0)) 99 (byteS.row f) Tryz.underlying60 byteSzJ HS3.out (by have := HN.out; omega) (by rw [rowB_len, hn3]; omega) hcs (by rw [rowB_len, List.length_replicate]; have := HN.out; omega) (byteS.row_oneCell f); have HR6 := Lib.hid hr6; have HG6 := Lib.hid hg6; clear hn3 ho3 hb3 hr6 hg6 hcs))
  all_goals (
    have HR7 : Hid (w6.heap[w.heap.size + 1]? = some (.cells (chV f).toArray 99 (0, 0))) := by
      show _ = _
      rw [← chV_splice f HN.out]
      exact HR6.out
    have HR8 : Hid (w6.heap[w.heap.size]? = some (.cells (List.replicate 12 (Value.int .u8 0)).toArray 99 (0, 0))) := (HG6.out.block w.heap.size (Array.getElem?_eq_some_iff.1 HR3.out).1 (fun e => by injection e with e; omega)).trans HR3.out
    have HB6 : Hid (Below w.heap.size w w6) := HB3.out.grown HG6.out HB3.out.size (fun g hg => by injection hg with hg; omega)
    clear hcp slk
    go_wp2_with (first
      | (refine wpList_load_row rfl 99 _ rfl (w.heap.size + 1) rfl 99 (chV f).toArray (0, 0) _ HR7.out chUnd rfl (chSizV f) ?_)
      | (refine wpList_store_row rfl 99 _ _ rfl w.heap.size rfl 99 _ (chV f).toArray rfl HR8.out (chSizV f) (by rw [List.size_toArray, List.size_toArray, chV_len, List.length_replicate]) (chAllV f) ?_))
    have HRE : Hid ((w6.setRow w.heap.size (chV f).toArray).heap[w.heap.size]? = some (.cells (chV f).toArray 99 (0, 0))) := setRow_heap w6 _ _ _ _ _ HR8.out
    have HBE : Hid (Below w.heap.size w (w6.setRow w.heap.size (chV f).toArray)) :=
      HB6.out.grown (row := some w.heap.size) ⟨rfl, rfl, rfl, by simp [World.setRow], fun k _ hk => setRow_other w6 _ k _ (fun e => hk (by rw [e]))⟩ HB6.out.size (fun g hg => by injection hg with hg; omega)
    refine bodyPost_ret (v := .agg (chV f).toArray) (results_cell_row (p := 2) (ty := 99) Tryz.results102 _ _ w.heap.size 99 _ _ _ ?_ HRE.out chUnd rfl (chSizV f)) rfl ⟨?_, HBE.out⟩
    · rfl
    · rfl)
end Go.Proofs.YtiodlclaempihaaGreat

/- CmpA -/
namespace Go.Proofs.YtiodlclaempihaaGreat
open Go.RowKit

def padL (x : List Int) : List Int := x ++ List.replicate (12 - x.length) 0
theorem chV_pad (x : List Int) (h : x.length ≤ 12) : chV x = (padL x).map (Value.int .u8) := by
  have e : byteS.row x = x.map (Value.int .u8) := by
    induction x with
    | nil => rfl
    | cons y x ih => rw [Shape.row_cons, ih (by simp at h; omega)]; rfl
  unfold chV padL
  rw [List.take_append, List.take_of_length_le (by rw [rowB_len]; exact h), rowB_len, List.take_replicate, e, List.map_append, List.map_replicate]
  congr 2
  omega
theorem padL_len (x : List Int) (h : x.length ≤ 12) : (padL x).length = 12 := by unfold padL; rw [List.length_append, List.length_replicate]; omega
theorem padL_inj {x y : List Int} (h : x.length = y.length) (e : padL x = padL y) : x = y := by
  unfold padL at e
  rw [h] at e
  exact List.append_cancel_right e
theorem mapM_some {α β : Type} (f : α → Option β) (g : α → β) : ∀ (is : List α), (∀ i ∈ is, f i = some (g i)) → is.mapM f = some (is.map g)
  | [], _ => rfl
  | i :: is, h => by
    rw [List.mapM_cons, h i List.mem_cons_self, mapM_some f g is (fun j hj => h j (List.mem_cons_of_mem _ hj))]
    rfl
theorem cellsU8 : Tryz.prog.cellsOf 5 = 1 := by kernel_rfl
theorem plainU8 : Tryz.prog.plainKey 5 = true := by kernel_rfl
theorem chArr : Tryz.prog.underlying 99 = some (.array 12 5) := by kernel_rfl
theorem lits12 (l : List Int) (hl : l.length = 12) (hb : ∀ b ∈ l, 0 ≤ b ∧ b ≤ 255) :
    (List.range 12).mapM (fun i => Tryz.prog.keyLits 1 5 (((l.map (Value.int .u8)).toArray.toList.drop (i * Tryz.prog.cellsOf 5)).take (Tryz.prog.cellsOf 5))) = some ((List.range 12).map fun i => [Lit.int .u8 (l.getD i 0)]) := by
  refine mapM_some _ _ _ fun i hi => ?_
  have hi' : i < l.length := by rw [hl]; exact List.mem_range.1 hi
  rw [cellsU8, Nat.mul_one]
  have e : ((l.map (Value.int .u8)).toArray.toList.drop i).take 1 = [Value.int .u8 (l.getD i 0)] := by
    rw [List.drop_eq_getElem_cons (by simpa using hi')]
    simp [List.getD_eq_getElem?_getD, hi']
  rw [e]
  have hm := hb _ (List.getElem_mem hi')
  have hw : (Lit.int .u8 (l.getD i 0)).wf = true := by
    rw [List.getD_eq_getElem?_getD, List.getElem?_eq_getElem hi']
    exact WalkArith.wf_u8 hm
  unfold Program.keyLits
  rw [Tryz.underlying5]
  simp only [hw, and_self, if_true]
theorem eq12 (l m : List Int) (hl : l.length = 12) (hm : m.length = 12) (bl : ∀ b ∈ l, 0 ≤ b ∧ b ≤ 255) (bm : ∀ b ∈ m, 0 ≤ b ∧ b ≤ 255) (w : World) :
    (Op.equalIn 10000 99 (.agg (l.map (Value.int .u8)).toArray) (.agg (m.map (Value.int .u8)).toArray)).run Tryz.prog w = .ok (decide (l = m)) w := by
  obtain ⟨i0, hi, _⟩ := info_parts byteI
  have h1 := run_equalIn_array (P := Tryz.prog) w 9999 (t := 99) (l.map (Value.int .u8)).toArray (m.map (Value.int .u8)).toArray chArr hi
  obtain ⟨r, hr, hiff⟩ := run_eqItems_plain (P := Tryz.prog) w 9998 plainU8 (l.map (Value.int .u8)).toArray (m.map (Value.int .u8)).toArray (D := 1) (D' := 1) (List.range 12) _ _ (lits12 l hl bl) (lits12 m hm bm)
  have hrm : r = decide (l = m) := by
    have key : (((List.range 12).map fun i => [Lit.int .u8 (l.getD i 0)]).flatten = ((List.range 12).map fun i => [Lit.int .u8 (m.getD i 0)]).flatten) ↔ l = m := by
      constructor
      · intro h
        apply List.ext_getElem (by omega)
        intro i h1 h2
        have h3 := congrArg (fun L => L[i]?) h
        have e : ∀ q : List Int, ((List.range 12).map fun i => [Lit.int .u8 (q.getD i 0)]).flatten = (List.range 12).map fun i => Lit.int .u8 (q.getD i 0) := fun q => by
          induction (List.range 12) with
          | nil => rfl
          | cons a s ih => rw [List.map_cons, List.flatten_cons, ih]; rfl
        rw [e, e] at h3
        simp only [List.getElem?_map, List.getElem?_range (show i < 12 by omega), Option.map_some, Option.some.injEq, Lit.int.injEq, true_and] at h3
        rw [List.getD_eq_getElem?_getD, List.getD_eq_getElem?_getD, List.getElem?_eq_getElem h1, List.getElem?_eq_getElem h2] at h3
        exact h3
      · intro h; rw [h]
    cases r with
    | true => rw [decide_eq_true (key.1 (hiff.1 rfl))]
    | false =>
      rw [decide_eq_false]
      intro h
      have := hiff.2 (key.2 h)
      cases this
  rw [← hrm]
  show (Op.equalIn (9999 + 1) _ _ _).run Tryz.prog w = _
  rw [h1]; exact hr
end Go.Proofs.YtiodlclaempihaaGreat

/- All -/
namespace Go.Proofs.YtiodlclaempihaaGreat
open Go.RowKit

/-- ways as letters -/
def letL (ys : List Int) : List Int := ys.map fun y => if y = 1 then 114 else 108
theorem letL_len (ys : List Int) : (letL ys).length = ys.length := by simp [letL]
theorem letL_rep (n : Nat) (y : Int) : letL (List.replicate n y) = List.replicate n (if y = 1 then 114 else 108) := by simp [letL]
theorem letL_inj {xs ys : List Int} (hx : ∀ y ∈ xs, y = -1 ∨ y = 1) (hy : ∀ y ∈ ys, y = -1 ∨ y = 1) (h : letL xs = letL ys) : xs = ys := by
  induction xs generalizing ys with
  | nil => cases ys with
    | nil => rfl
    | cons y ys => simp [letL] at h
  | cons x xs ih =>
    cases ys with
    | nil => simp [letL] at h
    | cons y ys =>
      unfold letL at h
      rw [List.map_cons, List.map_cons] at h
      injection h with h1 h2
      rw [ih (fun z hz => hx z (List.mem_cons_of_mem _ hz)) (fun z hz => hy z (List.mem_cons_of_mem _ hz)) h2]
      have e1 := hx x List.mem_cons_self
      have e2 := hy y List.mem_cons_self
      rcases e1 with rfl | rfl <;> rcases e2 with rfl | rfl <;> first | rfl | (simp at h1)

theorem letL_bd (ys : List Int) : ∀ b ∈ padL (letL ys), 0 ≤ b ∧ b ≤ 255 := by
  intro b hb
  unfold padL at hb
  rcases List.mem_append.1 hb with h | h
  · obtain ⟨y, _, rfl⟩ := List.mem_map.1 h
    split <;> omega
  · obtain rfl := List.eq_of_mem_replicate h; omega
theorem fold12 (M : List Value) (h : M.length = 12) (z : Value) : List.foldl (fun cs x => cs.setIfInBounds x.snd x.fst) #[z, z, z, z, z, z, z, z, z, z, z, z] M.zipIdx = M.toArray := by
  match M, h with
  | [a1, a2, a3, a4, a5, a6, a7, a8, a9, a10, a11, a12], _ => simp [List.zipIdx_cons, List.foldl_cons]
theorem below_setRow {n : Nat} {w0 w : World} {g : Nat} (h : Below n w0 w) (hg : n ≤ g) (hs : n ≤ w.heap.size) (M : Array Value) : Below n w0 (w.setRow g M) :=
  Below.grown (row := some g) h ⟨rfl, rfl, rfl, by simp [World.setRow], fun k _ hk => setRow_other _ _ k _ (fun e => hk (by rw [e]))⟩ hs (fun g' hg' => by injection hg' with hg'; omega)
theorem SlOwn.allocA {α : Type} {S : Shape α} {w : World} {B : Nat} {e : TypeId} {v : Value} {l : List α} (h : SlOwn S w B e v l) (o : Obj) : SlOwn S (w.alloc o) B e v l := h.below ((Below.refl _ _).alloc (Nat.le_refl _) _)
theorem own_setRow {α : Type} {S : Shape α} {w : World} {B : Nat} {e : TypeId} {v : Value} {l : List α} (h : SlOwn S w B e v l) {g : Nat} (hg : g < B) (M : Array Value) : SlOwn S (w.setRow g M) B e v l := by
  refine ⟨h.1, ?_⟩
  rcases h.2 with h' | ⟨g', cap, cur, hv, hgb, hrow, rest⟩
  · exact .inl h'
  · exact .inr ⟨g', cap, cur, hv, hgb, by rw [setRow_other _ _ _ _ (by omega)]; exact hrow, rest⟩
theorem own_base {α : Type} {S : Shape α} {w : World} {B B' : Nat} {e : TypeId} {v : Value} {l : List α} (h : SlOwn S w B e v l) (hB : B' ≤ B) : SlOwn S w B' e v l := by
  refine ⟨h.1, ?_⟩
  rcases h.2 with h' | ⟨g', cap, cur, hv, hgb, hrow, rest⟩
  · exact .inl h'
  · exact .inr ⟨g', cap, cur, hv, Nat.le_trans hB hgb, hrow, rest⟩
theorem slAt_ch1 {w : World} {g : Nat} {x : List Int} {cs : Array Value} {e : TypeId} {m : Nat × Nat} (h : w.heap[g]? = some (.cells cs e m)) (hc : cs = (chV x).toArray) : SlAt chS w (some ⟨g, 0, none⟩) [x] := by
  subst hc
  refine .inr ⟨g, 0, rfl, (Array.getElem?_eq_some_iff.1 h).1, fun k y hk j hj => ?_⟩
  cases k with
  | succ k => simp at hk
  | zero =>
    simp only [List.getElem?_cons_zero, Option.some.injEq] at hk
    subst hk
    simp only [Nat.zero_mul, Nat.zero_add]
    rw [cell_of_row w g j _ _ _ h, ← Array.getElem?_toList]
    rfl
theorem slAt_row {w : World} {g : Nat} {x : List Int} {e : TypeId} {m : Nat × Nat} (hx : x.length ≤ 12) (h : w.heap[g]? = some (.cells (chV x).toArray e m)) : SlAt byteS w (some ⟨g, 0, none⟩) (padL x) := by
  refine .inr ⟨g, 0, rfl, (Array.getElem?_eq_some_iff.1 h).1, fun k y hk j hj => ?_⟩
  obtain rfl : j = 0 := by have : j < 1 := hj; omega
  show w.cell? ⟨g, 0 + k * 1 + 0, none⟩ = some (.int .u8 y)
  rw [Nat.zero_add, Nat.mul_one, Nat.add_zero, cell_of_row w g k _ _ _ h, ← Array.getElem?_toList, chV_pad x hx, List.getElem?_map, hk]
  rfl
theorem slAt_part {w : World} {b off : Nat} {l : List Int} (h : SlAt byteS w (some ⟨b, off, none⟩) l) (i k : Nat) : SlAt byteS w (some ⟨b, off + i, none⟩) ((l.drop i).take k) := by
  rcases h with rfl | ⟨b', off', hA, hlt, h⟩
  · exact .inl (by simp)
  · simp only [Option.some.injEq, Addr.mk.injEq, and_true] at hA
    obtain ⟨rfl, rfl⟩ := hA
    refine .inr ⟨b, off + i, rfl, hlt, fun j x hj t ht => ?_⟩
    have h2 : l[i + j]? = some x := by
      rw [List.getElem?_take] at hj
      split at hj
      · rw [List.getElem?_drop] at hj; exact hj
      · cases hj
    have := h (i + j) x h2 t ht
    rw [show off + i + j * byteS.size + t = off + (i + j) * byteS.size + t by rw [Nat.add_mul]; show _ = off + (i * 1 + _) + _; omega]
    exact this
theorem parts3 {W : World} {a1 a2 a3 : Option Addr} {n1 n2 n3 c1 c2 c3 : Nat} {l1 l2 l3 : List Int} {t : TypeId} (h1 : n1 = l1.length) (h2 : n2 = l2.length) (h3 : n3 = l3.length) (s1 : SlAt byteS W a1 l1) (s2 : SlAt byteS W a2 l2) (s3 : SlAt byteS W a3 l3) :
    PartsAt (W.alloc (Obj.cells #[.slice a1 n1 c1, .slice a2 n2 c2, .slice a3 n3 c3] t)) W.heap.size [(a1, c1, l1), (a2, c2, l2), (a3, c3, l3)] := by
  subst h1; subst h2; subst h3
  refine ⟨by simp, fun j p hj => ?_⟩
  match j, hj with
  | 0, hj =>
    simp only [List.getElem?_cons_zero, Option.some.injEq] at hj
    subst hj
    exact ⟨by simp, s1.alloc _⟩
  | 1, hj =>
    simp only [List.getElem?_cons_succ, List.getElem?_cons_zero, Option.some.injEq] at hj
    subst hj
    exact ⟨by simp, s2.alloc _⟩
  | 2, hj =>
    simp only [List.getElem?_cons_succ, List.getElem?_cons_zero, Option.some.injEq] at hj
    subst hj
    exact ⟨by simp, s3.alloc _⟩
  | j + 3, hj => simp at hj
theorem chI : (Tryz.prog.info? 99).map (fun i => (i.zero, i.size, i.bytes)) = some (some (.agg #[.int .u8 0, .int .u8 0, .int .u8 0, .int .u8 0, .int .u8 0, .int .u8 0, .int .u8 0, .int .u8 0, .int .u8 0, .int .u8 0, .int .u8 0, .int .u8 0]), chS.size, 12) := by kernel_rfl
theorem chGuard : Tryz.prog.eqGuardType Tryz.prog.depth 99 = false := by kernel_rfl
theorem slB (w : World) (b off n l h m : Nat) (h1 : l ≤ h) (h2 : h ≤ m) (h3 : m ≤ n) (hl : l < m) : (Instr.sliceAt 60 (.slice (some ⟨b, off, none⟩) n n) (some (.int .i64 l)) (some (.int .i64 h)) (some (.int .i64 m))).run Tryz.prog w = .ok (.slice (some ⟨b, off + l, none⟩) (h - l) (m - l)) w := by
  have ht' : Tryz.prog.underlying 60 = some (.slice (Tryz.prog.elem 60)) := by simp [Program.elem, Tryz.underlying60]
  have he : Tryz.prog.elem 60 = 5 := by simp [Program.elem, Tryz.underlying60]
  rw [run_sliceAt_slice w 60 _ _ _ _ ht', run_slice_lhm w 60 _ _ _ ht' .i64 .i64 .i64 _ _ _ (by omega) (by omega) (by omega) (by omega), he, Tryz.sizeOf5]
  have : ¬ m = l := by omega
  simp [Result.andThen, sliced, Addr.add, this]
theorem slB0 (b off n l : Nat) (h3 : l ≤ n) : ∃ A, (∀ w : World, (Instr.sliceAt 60 (.slice (some ⟨b, off, none⟩) n n) (some (.int .i64 l)) (some (.int .i64 n)) (some (.int .i64 n))).run Tryz.prog w = .ok (.slice A (n - l) (n - l)) w) ∧ (l < n → A = some ⟨b, off + l, none⟩) := by
  by_cases h : l < n
  · exact ⟨some ⟨b, off + l, none⟩, fun w => slB w b off n l n n (by omega) (by omega) (by omega) h, fun _ => rfl⟩
  · obtain rfl : l = n := by omega
    have ht' : Tryz.prog.underlying 60 = some (.slice (Tryz.prog.elem 60)) := by simp [Program.elem, Tryz.underlying60]
    have he : Tryz.prog.elem 60 = 5 := by simp [Program.elem, Tryz.underlying60]
    refine ⟨some ⟨b, off, none⟩, fun w => ?_, fun h => absurd h (by omega)⟩
    rw [run_sliceAt_slice w 60 _ _ _ _ ht', run_slice_lhm w 60 _ _ _ ht' .i64 .i64 .i64 _ _ _ (by omega) (by omega) (by omega) (by omega), he, Tryz.sizeOf5]
    simp [Result.andThen, sliced]
def lenOf : Value → Nat
  | .slice _ n _ => n
  | _ => 0

set_option maxRecDepth 100000 in
set_option maxHeartbeats 4000000 in
theorem allWays_any (n : Nat) (w : World) (h1 : 1 ≤ n) (h2 : n ≤ 12) :
    Calls Tryz.prog 88 #[.int .i64 n] w fun e w' => ∃ A c, e = .returned (.slice A (2 ^ n) c) ∧ SlOwn chS w' w.heap.size 99 (.slice A (2 ^ n) c) ((List.range (2 ^ n)).map fun k => letL (wyN n k)) ∧ Below w.heap.size w w' := by
  have HREP := Lib.hid (fun g b w h => repeat_any g b n w h1 h2 h)
  go_enter Tryz.func88, Tryz.ntmps88
  go_wp2_with fail
  refine (HREP.out w.heap.size 108 _ (by simp)).mono ?_
  rintro e w1 ⟨Al, rfl, hsl, hb1⟩
  have HB1 : Hid (Below w.heap.size w w1) := ((Below.refl _ w).alloc (Nat.le_refl _) _).trans (hb1.mono (by simp))
  have HSL := Lib.hid hsl
  have hs1 : w.heap.size + 1 ≤ w1.heap.size := by have := hb1.size; simpa using this
  clear hb1 hsl
  go_wp2_with fail
  refine (HREP.out w1.heap.size 114 _ (by simp)).mono ?_
  rintro e w2 ⟨Ar, rfl, hsr, hb2⟩
  have hba2 : Below w1.heap.size w1 w2 := ((Below.refl _ w1).alloc (Nat.le_refl _) _).trans (hb2.mono (by simp))
  have HB2 : Hid (Below w.heap.size w w2) := HB1.out.trans (hba2.mono HB1.out.size)
  have HSL2 := Lib.hid (HSL.out.below hba2)
  have HSR2 := Lib.hid hsr
  have hs2 := hba2.size
  clear hb2 hsr hba2 HSL
  -- the first and the last ways
  have HP1 : Hid (PartsAt (w2.alloc (Obj.cells #[.slice Al n n] 60)) w2.heap.size [(Al, n, List.replicate n 108)]) := by
    refine ⟨by simp, fun j p hj => ?_⟩
    cases j with
    | succ j => simp at hj
    | zero =>
      simp only [List.getElem?_cons_zero, Option.some.injEq] at hj
      subst hj
      exact ⟨by simp, HSL2.out.alloc _⟩
  have HF1 : Hid (flatP [(Al, n, List.replicate n (108 : Int))] = List.replicate n 108) := by show _ = _; simp [flatP]
  have HJ1 := join_any w2.heap.size 1 _ _ (by simp) (by simp; omega) (by rw [HF1.out]; simp; omega) (by rw [HF1.out]; simp; omega) HP1.out
  rw [HF1.out] at HJ1
  have HJ1' := Lib.hid HJ1
  clear HJ1
  obtain ⟨M0, hM0⟩ : ∃ M, M = chV (List.replicate n 108) := ⟨_, rfl⟩
  rw [← hM0] at HJ1'
  have HM0 := Lib.hid hM0
  clear hM0
  go_wp2_with fail
  refine HJ1'.out.mono ?_
  rintro e w3 ⟨rfl, hb3⟩
  have hba3 : Below w2.heap.size w2 w3 := ((Below.refl _ w2).alloc (Nat.le_refl _) _).trans (hb3.mono (by simp))
  have HB3 : Hid (Below w.heap.size w w3) := HB2.out.trans (hba3.mono HB2.out.size)
  have HSL3 := Lib.hid (HSL2.out.below hba3)
  have HSR3 := Lib.hid (HSR2.out.below hba3)
  have hs3 := hba3.size
  clear hb3 hba3 HP1 HJ1' HSL2 HSR2
  have HP2 : Hid (PartsAt (w3.alloc (Obj.cells #[.slice Ar n n] 60)) w3.heap.size [(Ar, n, List.replicate n 114)]) := by
    refine ⟨by simp, fun j p hj => ?_⟩
    cases j with
    | succ j => simp at hj
    | zero =>
      simp only [List.getElem?_cons_zero, Option.some.injEq] at hj
      subst hj
      exact ⟨by simp, HSR3.out.alloc _⟩
  have HF2 : Hid (flatP [(Ar, n, List.replicate n (114 : Int))] = List.replicate n 114) := by show _ = _; simp [flatP]
  have HJ2 := join_any w3.heap.size 1 _ _ (by simp) (by simp; omega) (by rw [HF2.out]; simp; omega) (by rw [HF2.out]; simp; omega) HP2.out
  rw [HF2.out] at HJ2
  have HJ2' := Lib.hid HJ2
  clear HJ2
  obtain ⟨ML, hML⟩ : ∃ M, M = chV (List.replicate n 114) := ⟨_, rfl⟩
  rw [← hML] at HJ2'
  have HML := Lib.hid hML
  clear hML
  go_wp2_with fail
  refine HJ2'.out.mono ?_
  rintro e w4 ⟨rfl, hb4⟩
  have hba4 : Below w3.heap.size w3 w4 := ((Below.refl _ w3).alloc (Nat.le_refl _) _).trans (hb4.mono (by simp))
  have HB4 : Hid (Below w.heap.size w w4) := HB3.out.trans (hba4.mono HB3.out.size)
  have HSL4 := Lib.hid (HSL3.out.below hba4)
  have HSR4 := Lib.hid (HSR3.out.below hba4)
  have hs4 := hba4.size
  clear hb4 hba4 HP2 HJ2' HSL3 HSR3
  have HMS0 : Hid ((Tryz.prog.info? 99).map (·.size) = some M0.toArray.size) := by show _ = _; rw [HM0.out]; exact chSizV _
  have HMSL : Hid ((Tryz.prog.info? 99).map (·.size) = some ML.toArray.size) := by show _ = _; rw [HML.out]; exact chSizV _
  have HMA0 : Hid (M0.toArray.all (·.oneCell') = true) := by show _ = _; rw [HM0.out]; exact chAllV _
  have HMAL : Hid (ML.toArray.all (·.oneCell') = true) := by show _ = _; rw [HML.out]; exact chAllV _
  have HME0 : Hid ((List.replicate 12 (Value.int .u8 0)).toArray.size = M0.toArray.size) := by show _ = _; rw [HM0.out, List.size_toArray, List.size_toArray, chV_len, List.length_replicate]
  have HMEL : Hid ((List.replicate 12 (Value.int .u8 0)).toArray.size = ML.toArray.size) := by show _ = _; rw [HML.out, List.size_toArray, List.size_toArray, chV_len, List.length_replicate]
  have HZ0 : Hid (((w4.alloc (Obj.cells (List.replicate 12 (Value.int .u8 0)).toArray 99)).alloc (Obj.cells (List.replicate 12 (Value.int .u8 0)).toArray 99)).heap[w4.heap.size]? = some (.cells (List.replicate 12 (Value.int .u8 0)).toArray 99 (0, 0))) := by
    show _ = _
    rw [heap_alloc_old _ _ (by simp)]; exact heap_new rfl
  have HZ1 : Hid ((((w4.alloc (Obj.cells (List.replicate 12 (Value.int .u8 0)).toArray 99)).alloc (Obj.cells (List.replicate 12 (Value.int .u8 0)).toArray 99)).setRow w4.heap.size M0.toArray).heap[w4.heap.size + 1]? = some (.cells (List.replicate 12 (Value.int .u8 0)).toArray 99 (0, 0))) := by
    show _ = _
    rw [setRow_other _ _ _ _ (by omega)]; exact heap_new (by simp)
  have HZ2 : Hid (((((w4.alloc (Obj.cells (List.replicate 12 (Value.int .u8 0)).toArray 99)).alloc (Obj.cells (List.replicate 12 (Value.int .u8 0)).toArray 99)).setRow w4.heap.size M0.toArray).setRow (w4.heap.size + 1) ML.toArray).heap[w4.heap.size]? = some (.cells M0.toArray 99 (0, 0))) := by
    show _ = _
    rw [setRow_other _ _ _ _ (by omega)]; exact setRow_heap _ _ _ _ _ _ HZ0.out
  have hM12 : M0.length = 12 := by rw [HM0.out]; exact chV_len _
  go_wp2_with (first
    | (refine wpList_store_row rfl 99 _ _ rfl w4.heap.size rfl 99 (List.replicate 12 (Value.int .u8 0)).toArray M0.toArray rfl HZ0.out HMS0.out HME0.out HMA0.out ?_)
    | (refine wpList_store_row rfl 99 _ _ rfl (w4.heap.size + 1) rfl 99 (List.replicate 12 (Value.int .u8 0)).toArray ML.toArray rfl HZ1.out HMSL.out HMEL.out HMAL.out ?_)
    | (refine wpList_load_row rfl 99 _ rfl w4.heap.size rfl 99 M0.toArray (0, 0) _ HZ2.out chUnd rfl HMS0.out ?_))
  have HM12 := Lib.hid hM12
  have HF12 := Lib.hid (fold12 M0 hM12 (.int .u8 0))
  clear hM12
  obtain ⟨Y, hY⟩ : ∃ Y, Y = ((((w4.alloc (Obj.cells (List.replicate 12 (Value.int .u8 0)).toArray 99)).alloc (Obj.cells (List.replicate 12 (Value.int .u8 0)).toArray 99)).setRow w4.heap.size M0.toArray).setRow (w4.heap.size + 1) ML.toArray).alloc (Obj.cells M0.toArray 99) := ⟨_, rfl⟩
  generalize hQ : World.alloc _ (Obj.cells (List.foldl _ _ _) _) = Y1
  obtain rfl : Y1 = Y := by rw [hY, ← hQ, HF12.out]; rfl
  clear hQ
  have hYz : (((((w4.alloc (Obj.cells (List.replicate 12 (Value.int .u8 0)).toArray 99)).alloc (Obj.cells (List.replicate 12 (Value.int .u8 0)).toArray 99)).setRow w4.heap.size M0.toArray).setRow (w4.heap.size + 1) ML.toArray)).heap.size = w4.heap.size + 2 := by simp [World.setRow]
  have hYr0 : Y1.heap[w4.heap.size]? = some (.cells M0.toArray 99 (0, 0)) := by
    rw [hY, heap_alloc_old _ _ (by rw [hYz]; omega)]; exact HZ2.out
  have hYr1 : Y1.heap[w4.heap.size + 1]? = some (.cells ML.toArray 99 (0, 0)) := by
    rw [hY, heap_alloc_old _ _ (by rw [hYz]; omega)]; exact setRow_heap _ _ _ _ _ _ HZ1.out
  have hYb : Below w4.heap.size w4 Y1 := by
    rw [hY]
    refine Below.alloc ?_ (by rw [hYz]; omega) _
    refine below_setRow ?_ (by omega) (by simp [World.setRow]; omega) _
    refine below_setRow ?_ (by omega) (by simp; omega) _
    exact ((Below.refl _ _).alloc (Nat.le_refl _) _).alloc (by simp) _
  have hYo : SlOwn chS Y1 (w4.heap.size + 2) 99 (.slice (some ⟨w4.heap.size + 1 + 1, 0, none⟩) 1 1) [letL (wyN n 0)] := by
    refine ⟨by rw [chS.row_length], .inr ⟨w4.heap.size + 1 + 1, 1, M0.toArray, rfl, by omega, ?_, by simp, by unfold maxLen; omega, by rw [List.size_toArray, HM12.out]; rfl, ?_⟩⟩
    · rw [hY]; exact heap_new (by rw [hYz])
    · rw [chS.row_one]
      show M0.take 12 = chV _
      rw [List.take_of_length_le (by rw [HM12.out]; exact Nat.le_refl _), HM0.out, wyN_zero, letL_rep]
      rfl
  have HYR0 : Hid (Y1.heap[w4.heap.size]? = some (.cells (chV (letL (wyN n 0))).toArray 99 (0, 0))) := by
    show _ = _
    rw [hYr0, HM0.out, wyN_zero, letL_rep]; rfl
  have HYR1 := Lib.hid hYr1
  have HYB := Lib.hid hYb
  have HYO := Lib.hid hYo
  clear hYz hYr0 hYr1 hYb hYo hY HZ0 HZ1 HZ2 HF12 HMS0 HMA0 HME0 HMEL HM0 HM12 HREP
  obtain ⟨bl, ol, rfl, -, -⟩ := HSL4.out.byte_at (k := 0) (by simp; omega)
  obtain ⟨br, orr, rfl, -, -⟩ := HSR4.out.byte_at (k := 0) (by simp; omega)
  have hpow : 1 ≤ 2 ^ n := Nat.one_le_two_pow
  obtain ⟨i0, hi, hz0, hz1, hz2⟩ : ∃ i0, Tryz.prog.info? 99 = some i0 ∧ i0.zero = some (.agg #[.int .u8 0, .int .u8 0, .int .u8 0, .int .u8 0, .int .u8 0, .int .u8 0, .int .u8 0, .int .u8 0, .int .u8 0, .int .u8 0, .int .u8 0, .int .u8 0]) ∧ i0.size = chS.size ∧ i0.bytes = 12 := info_parts chI
  have hp12 : 2 ^ n ≤ 4096 := by
    have : 2 ^ n ≤ 2 ^ 12 := Nat.pow_le_pow_right (by omega) h2
    omega
  go_loopw [8] (fun v wr => ∃ (k : Nat) (A5 : Option Addr) (c5 : Nat), k + 1 ≤ 2 ^ n ∧ v = .slice A5 (k + 1) c5 ∧ Below w4.heap.size w4 wr ∧ wr.heap[w4.heap.size]? = some (.cells (chV (letL (wyN n k))).toArray 99 (0, 0)) ∧ wr.heap[w4.heap.size + 1]? = some (.cells ML.toArray 99 (0, 0)) ∧
      SlOwn chS wr (w4.heap.size + 2) 99 (.slice A5 (k + 1) c5) ((List.range (k + 1)).map fun k => letL (wyN n k)))
    (fun v _ => 2 ^ n - lenOf v)
  case atStart => exact ⟨0, _, 1, hpow, rfl, HYB.out, HYR0.out, HYR1.out, HYO.out⟩
  case round =>
    obtain ⟨k, A5, c5, hk, rfl, hbr, hr0, hr1, hown⟩ := hrel
    have hys := wyN_len n k
    have hlen : (letL (wyN n k)).length = n := by rw [letL_len, hys]
    have hcmp : (Op.equalIn 10000 99 (.agg (chV (letL (wyN n k))).toArray) (.agg ML.toArray)).run Tryz.prog wr = .ok (!decide (k + 1 < 2 ^ n)) wr := by
      have e114 : List.replicate n (114 : Int) = letL (List.replicate n 1) := by rw [letL_rep]; rfl
      rw [HML.out, e114, chV_pad _ (by omega), chV_pad _ (by rw [letL_len, List.length_replicate]; exact h2),
        eq12 _ _ (padL_len _ (by omega)) (padL_len _ (by rw [letL_len, List.length_replicate]; exact h2)) (letL_bd _) (letL_bd _)]
      congr 2
      by_cases hlt : k + 1 < 2 ^ n
      · rw [decide_eq_true hlt, decide_eq_false, Bool.not_true]
        intro e
        have e2 := padL_inj (by rw [letL_len, letL_len, hys, List.length_replicate]) e
        exact wyN_ne n k hlt (letL_inj (wyN_mem n k) (fun y hy => .inr (List.eq_of_mem_replicate hy)) e2)
      · have hke : k = 2 ^ n - 1 := by omega
        rw [decide_eq_false hlt, decide_eq_true, Bool.not_false]
        rw [hke, wyN_full]
    have HBr := Lib.hid hbr
    have HR0 := Lib.hid hr0
    have HR1 := Lib.hid hr1
    obtain ⟨YK, hYK⟩ : ∃ Y, Y = (List.range (k + 1)).map fun k => letL (wyN n k) := ⟨_, rfl⟩
    rw [← hYK] at hown
    have hly : YK.length = k + 1 := by rw [hYK]; simp
    have HLY := Lib.hid hly
    have HYK := Lib.hid hYK
    clear hly hYK
    have HOr := Lib.hid hown
    have hsr := hbr.size
    have HSZK : Hid ((Tryz.prog.info? 99).map (·.size) = some (chV (letL (wyN n k))).toArray.size) := chSizV _
    clear hbr hr0 hr1 hown
    by_cases hlt : k + 1 < 2 ^ n
    · rw [decide_eq_true hlt] at hcmp
      obtain ⟨i, hin, hi1, hi2, hi3⟩ := wyN_succ n k hlt
      have hpl : (padL (letL (wyN n k))).length = 12 := padL_len _ (by omega)
      have HLI : Hid (Calls Tryz.prog 104 #[.slice (some ⟨w4.heap.size, 0, none⟩) 12 12, .int .u8 108] wr fun e w' => e = .returned (.int .i64 i) ∧ wr = w') := by
        have h := lastIndexB_any (some ⟨w4.heap.size, 0, none⟩) 12 (padL (letL (wyN n k))) 108 i wr (by rw [hpl]; omega) ?_ ?_ (slAt_row (by omega) HR0.out)
        · rw [hpl] at h; exact h
        · unfold padL letL
          rw [List.getElem?_append_left (by rw [List.length_map, hys]; exact hin), List.getElem?_map, List.getElem?_eq_getElem (by rw [hys]; exact hin)]
          rw [List.getD_eq_getElem?_getD, List.getElem?_eq_getElem (by rw [hys]; exact hin)] at hi1
          simp only [Option.getD_some] at hi1
          rw [Option.map_some, hi1]; rfl
        · intro j hj hj2
          unfold padL letL
          rw [List.getD_eq_getElem?_getD]
          by_cases hjn : j < n
          · have h3 := hi2 j hj hjn
            rw [List.getElem?_append_left (by rw [List.length_map, hys]; exact hjn), List.getElem?_map]
            rw [List.getD_eq_getElem?_getD, List.getElem?_eq_getElem (by rw [hys]; exact hjn)] at h3
            simp only [Option.getD_some] at h3
            rw [List.getElem?_eq_getElem (by rw [hys]; exact hjn), Option.map_some, h3]
            decide
          · rw [List.getElem?_append_right (by rw [List.length_map, hys]; omega), List.getElem?_replicate]
            split <;> simp
      have e1 : ((i : Int) + 1) = ((i + 1 : Nat) : Int) := by omega
      have slr : ∀ w' : World, (Instr.sliceAt 60 (.slice (some ⟨br, orr, none⟩) n n) (some (.int .i64 i)) (some (.int .i64 ((i : Int) + 1))) (some (.int .i64 ((i : Int) + 1)))).run Tryz.prog w' = .ok (.slice (some ⟨br, orr + i, none⟩) 1 1) w' := fun w' => by
        rw [e1, slB w' br orr n i (i + 1) (i + 1) (by omega) (by omega) (by omega) (by omega), Nat.add_sub_cancel_left]
      obtain ⟨A3, sll, hA3⟩ := slB0 bl ol n (i + 1) (by omega)
      rw [← e1] at sll
      clear e1
      have HFL : Hid (flatP [((some ⟨w4.heap.size, 0, none⟩ : Option Addr), i, (letL (wyN n k)).take i), (some ⟨br, orr + i, none⟩, 1, [114]), (A3, n - (i + 1), List.replicate (n - (i + 1)) 108)] = letL (wyN n (k + 1))) := by
        show _ = _
        rw [hi3]
        unfold flatP letL
        simp [List.map_take, List.map_replicate, Nat.sub_sub, Nat.add_comm]
      have hS1 : SlAt byteS wr (some ⟨w4.heap.size, 0, none⟩) ((letL (wyN n k)).take i) := by
        have h := slAt_part (slAt_row (x := letL (wyN n k)) (by omega) HR0.out) 0 i
        rw [List.drop_zero, Nat.add_zero] at h
        unfold padL at h
        rwa [List.take_append_of_le_length (by rw [hlen]; omega)] at h
      have hS2 : SlAt byteS wr (some ⟨br, orr + i, none⟩) [114] := by
        have h := slAt_part (HSR4.out.below HBr.out) i 1
        rw [List.drop_replicate, List.take_replicate, Nat.min_eq_left (by omega)] at h
        exact h
      have hS3 : SlAt byteS wr A3 (List.replicate (n - (i + 1)) 108) := by
        by_cases h : i + 1 < n
        · rw [hA3 h]
          have h := slAt_part (HSL4.out.below HBr.out) (i + 1) (n - (i + 1))
          rw [List.drop_replicate, List.take_replicate, Nat.min_self] at h
          exact h
        · have : n - (i + 1) = 0 := by omega
          rw [this]; exact .inl rfl
      clear hA3
      obtain ⟨n3, hn3⟩ : ∃ n3, n3 = n - (i + 1) := ⟨_, rfl⟩
      rw [← hn3] at sll hS3 HFL
      have HN3 := Lib.hid hn3
      clear hn3
      have HS1 := Lib.hid hS1
      have HS2 := Lib.hid hS2
      have HS3 := Lib.hid hS3
      have hl1 : ((letL (wyN n k)).take i).length = i := by rw [List.length_take, hlen]; omega
      have HL1 := Lib.hid hl1
      have hnl : (letL (wyN n (k + 1))).length = n := by rw [letL_len, wyN_len]
      have HNL := Lib.hid hnl
      obtain ⟨M, hM⟩ : ∃ M, M = chV (letL (wyN n (k + 1))) := ⟨_, rfl⟩
      have HM := Lib.hid hM
      have hHl : ∀ p ∈ [((some ⟨w4.heap.size, 0, none⟩ : Option Addr), i, (letL (wyN n k)).take i), (some ⟨br, orr + i, none⟩, 1, [(114 : Int)]), (A3, n3, List.replicate n3 (108 : Int))], p.2.2.length ≤ 12 := by
        intro p hp
        simp only [List.mem_cons, List.not_mem_nil, or_false] at hp
        rcases hp with rfl | rfl | rfl
        · show ((letL (wyN n k)).take i).length ≤ 12
          omega
        · show 1 ≤ 12
          omega
        · show (List.replicate n3 (108 : Int)).length ≤ 12
          rw [List.length_replicate, HN3.out]; omega
      have HPT : Hid (PartsAt (wr.alloc (Obj.cells #[Value.slice (some ⟨w4.heap.size, 0, none⟩) i i, Value.slice (some ⟨br, orr + i, none⟩) 1 1, Value.slice A3 n3 n3] 60)).drew wr.heap.size [((some ⟨w4.heap.size, 0, none⟩ : Option Addr), i, (letL (wyN n k)).take i), (some ⟨br, orr + i, none⟩, 1, [(114 : Int)]), (A3, n3, List.replicate n3 (108 : Int))]) :=
        parts3 (W := wr) hl1.symm rfl (List.length_replicate).symm hS1 hS2 hS3
      have HJ := join_any wr.heap.size 3 _ _ (by simp) hHl (by rw [HFL.out, hnl]; omega) (by rw [HFL.out, hnl]; omega) HPT.out
      rw [HFL.out, ← hM] at HJ
      have HJ' := Lib.hid HJ
      have HHD : Hid (Below wr.heap.size wr (wr.alloc (Obj.cells #[Value.slice (some ⟨w4.heap.size, 0, none⟩) i i, Value.slice (some ⟨br, orr + i, none⟩) 1 1, Value.slice A3 n3 n3] 60)).drew) := ((Below.refl _ wr).alloc (Nat.le_refl _) _).drew
      clear hHl HJ
      clear hM hpl hi1 hi2 hi3 hS1 hS2 hS3 hl1 hnl hys hlen
      have HSZM : Hid ((Tryz.prog.info? 99).map (·.size) = some M.toArray.size) := by show _ = _; rw [HM.out]; exact chSizV _
      have HALLM : Hid (M.toArray.all (·.oneCell') = true) := by show _ = _; rw [HM.out]; exact chAllV _
      have HM12 : Hid (M.length = 12) := by show _ = _; rw [HM.out]; exact chV_len _
      have hszm : (Tryz.prog.info? 99).map (·.size) = some M.length := by rw [HM12.out]; exact chSiz
      have honem : ∀ v ∈ M, v.oneCell' = true := by rw [HM.out]; exact chV_one _
      obtain ⟨K, hK⟩ : ∃ K, K = chV (letL (wyN n k)) := ⟨_, rfl⟩
      have HFM : Hid (List.foldl (fun cs x => cs.setIfInBounds x.snd x.fst) #[.int .u8 0, .int .u8 0, .int .u8 0, .int .u8 0, .int .u8 0, .int .u8 0, .int .u8 0, .int .u8 0, .int .u8 0, .int .u8 0, .int .u8 0, .int .u8 0] M.zipIdx = (chV (letL (wyN n (k + 1)))).toArray) := (fold12 M HM12.out (.int .u8 0)).trans (by rw [HM.out])
      have HSE : Hid (K.toArray.size = M.toArray.size) := by show _ = _; rw [hK, HM.out, List.size_toArray, List.size_toArray, chV_len, chV_len]
      rw [← hK] at hcmp HR0 HSZK
      have hgd : ∀ a b : Operand, (eqGuard .neq 99 a b (.agg K.toArray) (.agg ML.toArray)).run Tryz.prog wr = .ok () wr := fun a b => run_eqGuard_agg wr (op := .neq) (t := 99) (x := a) (y := b) (xs := K.toArray) (ys := ML.toArray) (hm := chGuard)
      have HK := Lib.hid hK
      clear hK
      have hw1 : IntKind.i64.wrap ((i : Int) + 1) = (i : Int) + 1 := IntWalk.i64_in _ (by omega)
      have slk := fun w' => chSl_all w' w4.heap.size
      have slm := fun w' => chSl_hm w' w4.heap.size i (by omega)
      go_wp2_with (first
        | (refine wpList_load_row rfl 99 _ rfl w4.heap.size rfl 99 K.toArray (0, 0) _ HR0.out chUnd rfl HSZK.out ?_)
        | (refine wpList_load_row rfl 99 _ rfl (w4.heap.size + 1) rfl 99 ML.toArray (0, 0) _ HR1.out chUnd rfl HMSL.out ?_))
      refine HLI.out.mono ?_
      rintro e w5 ⟨rfl, rfl⟩
      go_upto_region 7 with fail
      have HGL : Hid (w4.heap.size < wr.heap.size) := (Array.getElem?_eq_some_iff.1 HR0.out).1
      have HGL1 : Hid (w4.heap.size + 1 < wr.heap.size) := (Array.getElem?_eq_some_iff.1 HR1.out).1
      go_region_held3 (fun _ => True) (trivial)
        (first
          | (go_at_call 102; refine HJ'.out.mono ?_; rintro e w6 ⟨rfl, hb⟩; have HB6 : Hid (Below wr.heap.size wr w6) := HHD.out.trans (hb.mono HHD.out.size); have HR6 : Hid (w6.heap[w4.heap.size]? = some (.cells K.toArray 99 (0, 0))) := (HB6.out.block w4.heap.size HGL.out).trans HR0.out; have hst := there_row w6 w4.heap.size _ _ M.toArray HR6.out HSE.out; have HSC := Lib.hid (setCells_setRow (P := Tryz.prog) w6 w4.heap.size 99 99 K.toArray M HR6.out HSZM.out HSE.out HALLM.out); clear hb))
      all_goals (
        have HR7 : Hid ((w6.setCells w4.heap.size 0 M).heap[w4.heap.size]? = some (.cells M.toArray 99 (0, 0))) := by
          show _ = _
          rw [HSC.out]; exact setRow_heap w6 w4.heap.size _ M.toArray _ _ HR6.out
        have HB7 : Hid (Below w4.heap.size w4 (w6.setCells w4.heap.size 0 M)) := by
          show Below _ _ _
          rw [HSC.out]
          exact below_setRow (HBr.out.trans (HB6.out.mono HBr.out.size)) (Nat.le_refl _) (Nat.le_trans HBr.out.size HB6.out.size) _
        have HR71 : Hid ((w6.setCells w4.heap.size 0 M).heap[w4.heap.size + 1]? = some (.cells ML.toArray 99 (0, 0))) := by
          show _ = _
          rw [HSC.out, setRow_other _ _ _ _ (by omega)]
          exact (HB6.out.block (w4.heap.size + 1) HGL1.out).trans HR1.out
        have HO7 : Hid (SlOwn chS (w6.setCells w4.heap.size 0 M) (w4.heap.size + 2) 99 (.slice A5 (k + 1) c5) YK) := by
          show SlOwn _ _ _ _ _ _
          rw [HSC.out]
          exact own_setRow (HOr.out.below HB6.out) (by omega) _
        clear hst HSC hcmp
        generalize w6.setCells w4.heap.size 0 M = W7 at *
        have hm12 : M.length = 12 := HM12.out
        have T1 : Hid (SlAt chS (W7.alloc (Obj.cells (List.foldl (fun cs x => cs.setIfInBounds x.snd x.fst) #[.int .u8 0, .int .u8 0, .int .u8 0, .int .u8 0, .int .u8 0, .int .u8 0, .int .u8 0, .int .u8 0, .int .u8 0, .int .u8 0, .int .u8 0, .int .u8 0] M.zipIdx) 99)) (some ⟨W7.heap.size, 0, none⟩) [letL (wyN n (k + 1))]) := slAt_ch1 (heap_new rfl) HFM.out
        have T2 : Hid (SlOwn chS (W7.alloc (Obj.cells (List.foldl (fun cs x => cs.setIfInBounds x.snd x.fst) #[.int .u8 0, .int .u8 0, .int .u8 0, .int .u8 0, .int .u8 0, .int .u8 0, .int .u8 0, .int .u8 0, .int .u8 0, .int .u8 0, .int .u8 0, .int .u8 0] M.zipIdx) 99)) (w4.heap.size + 2) 99 (.slice A5 (k + 1) c5) YK) := HO7.out.allocA _
        have T3 : Hid (YK.length + [letL (wyN n (k + 1))].length ≤ 1048576) := by show _ ≤ _; rw [HLY.out, List.length_singleton]; omega
        have hs7 : w4.heap.size + 2 ≤ W7.heap.size := (Array.getElem?_eq_some_iff.1 HR71.out).1
        go_wp2_with (first
          | (refine wpList_load_row rfl 99 _ rfl w4.heap.size rfl 99 M.toArray (0, 0) _ HR7.out chUnd rfl HSZM.out ?_)
          | (at_builtin; go_must (refine wpList_append_slsv chS _ rfl _ _ 96 rfl (w4.heap.size + 2) 99 i0 _ 12 Tryz.underlying96 hi hz0 hz1 hz2 rfl (by decide) (.slice A5 (k + 1) c5) YK rfl T2.out (some ⟨W7.heap.size, 0, none⟩) 1 1 [letL (wyN n (k + 1))] rfl rfl T1.out T3.out (by simp; omega) ?_); intro A8 n8 c8 w8 hn8 ho8 hb8; obtain rfl : n8 = k + 1 + 1 := (by rw [hn8, List.length_append, HLY.out]; rfl); have HO8 := Lib.hid ho8; have HB8 : Hid (Below (w4.heap.size + 2) W7 w8) := ((Below.refl (w4.heap.size + 2) W7).alloc hs7 _).trans hb8; clear hn8 ho8 hb8))
        go_roundw
        case rel => exact ⟨k + 1, A8, c8, by omega, rfl, HB7.out.trans (HB8.out.mono (by omega)), (HB8.out.block w4.heap.size (by omega)).trans (by rw [HR7.out, HM.out]), (HB8.out.block (w4.heap.size + 1) (by omega)).trans HR71.out, by rw [List.range_succ, List.map_append, ← HYK.out]; exact HO8.out⟩
        case measure => simp [lenOf]; omega)
    · rw [decide_eq_false hlt] at hcmp
      have he : 2 ^ n = k + 1 := by omega
      obtain ⟨K, hK⟩ : ∃ K, K = chV (letL (wyN n k)) := ⟨_, rfl⟩
      rw [← hK] at hcmp HR0 HSZK
      have hgd : ∀ a b : Operand, (eqGuard .neq 99 a b (.agg K.toArray) (.agg ML.toArray)).run Tryz.prog wr = .ok () wr := fun a b => run_eqGuard_agg wr (op := .neq) (t := 99) (x := a) (y := b) (xs := K.toArray) (ys := ML.toArray) (hm := chGuard)
      clear hK
      have HE := Lib.hid he
      clear he
      go_wp2_with (first
        | (refine wpList_load_row rfl 99 _ rfl w4.heap.size rfl 99 K.toArray (0, 0) _ HR0.out chUnd rfl HSZK.out ?_)
        | (refine wpList_load_row rfl 99 _ rfl (w4.heap.size + 1) rfl 99 ML.toArray (0, 0) _ HR1.out chUnd rfl HMSL.out ?_))
      go_ret
      exact ⟨A5, c5, by rw [HE.out]; rfl, by rw [HE.out]; exact HYK.out ▸ own_base HOr.out (by have := HB4.out.size; omega), HB4.out.trans (HBr.out.mono HB4.out.size)⟩
end Go.Proofs.YtiodlclaempihaaGreat

/- Rods -/
namespace Go.Proofs.YtiodlclaempihaaGreat
open Go.RowKit

/-- a rod in a slice: its length, and its ants' slice -/
def rodS : Shape (Int × Option Addr × Nat × Nat) := ⟨2, fun p => [.int .i64 p.1, .slice p.2.1 p.2.2.1 p.2.2.2], fun _ => rfl, fun _ u hu => by simp at hu; rcases hu with rfl | rfl <;> rfl, by omega⟩
theorem rodI : (Tryz.prog.info? 71).map (fun i => (i.zero, i.size, i.bytes)) = some (some (.agg #[.int .i64 0, .slice none 0 0]), rodS.size, 32) := by kernel_rfl
theorem own_keep {α β : Type} {S : Shape α} {T : Shape β} {w w' : World} {B B' : Nat} {e e' : TypeId} {v v' : Value} {l : List α} {l' : List β} (h : SlOwn S w B e v l) (hr : SlOwn T w B' e' v' l') (hne : e ≠ e') (hg : w.grownBy w' v'.ownBlock) : SlOwn S w' B e v l := by
  refine ⟨h.1, ?_⟩
  rcases h.2 with h2 | ⟨g, cap, cur, hv, hB, hrow, h3⟩
  · exact .inl h2
  · refine .inr ⟨g, cap, cur, hv, hB, ?_, h3⟩
    rw [hg.block g (Array.getElem?_eq_some_iff.1 hrow).1 ?_]
    · exact hrow
    · intro e1
      rcases hr.2 with ⟨h4, _⟩ | ⟨g', cap', cur', hv', _, hrow', _⟩
      · rw [h4] at e1; simp [Value.ownBlock] at e1
      · rw [hv'] at e1
        simp [Value.ownBlock] at e1
        subst e1
        rw [hrow] at hrow'
        simp only [Option.some.injEq, Obj.cells.injEq] at hrow'
        exact hne hrow'.2.1
/-- the ants of rods -/
def RodsAt (w : World) (L : Int) (l : List Int) (R : List (Int × Option Addr × Nat × Nat)) : Prop :=
  ∀ j p, R[j]? = some p → p.1 = L ∧ p.2.2.1 = l.length ∧ SlOwn pairS w 0 90 (.slice p.2.1 p.2.2.1 p.2.2.2) (rdL l (wyN l.length j))
theorem RodsAt.below {w w' : World} {L : Int} {l : List Int} {R : List (Int × Option Addr × Nat × Nat)} (h : RodsAt w L l R) (hb : Below w.heap.size w w') : RodsAt w' L l R :=
  fun j p hp => ⟨(h j p hp).1, (h j p hp).2.1, (h j p hp).2.2.below hb⟩
theorem RodsAt.snoc {w : World} {L : Int} {l : List Int} {R : List (Int × Option Addr × Nat × Nat)} (h : RodsAt w L l R) {A : Option Addr} {c : Nat} (ho : SlOwn pairS w 0 90 (.slice A l.length c) (rdL l (wyN l.length R.length))) : RodsAt w L l (R ++ [(L, A, l.length, c)]) := by
  intro j p hp
  by_cases hj : j < R.length
  · rw [List.getElem?_append_left hj] at hp; exact h j p hp
  · rw [List.getElem?_append_right (by omega)] at hp
    by_cases hj2 : j = R.length
    · subst hj2
      rw [Nat.sub_self] at hp
      simp only [List.getElem?_cons_zero, Option.some.injEq] at hp
      subst hp
      exact ⟨rfl, rfl, ho⟩
    · rw [List.getElem?_eq_none (by simp; omega)] at hp; cases hp
theorem RodsAt.keep {β : Type} {T : Shape β} {w w' : World} {L : Int} {l : List Int} {R : List (Int × Option Addr × Nat × Nat)} {B' : Nat} {v' : Value} {l' : List β} (h : RodsAt w L l R) (hr : SlOwn T w B' 71 v' l') (hg : w.grownBy w' v'.ownBlock) : RodsAt w' L l R :=
  fun j p hp => ⟨(h j p hp).1, (h j p hp).2.1, own_keep (h j p hp).2.2 hr (by decide) hg⟩
theorem wpList_append_slsg {α : Type} (S : Shape α) {P : Program} (w : World) {ops : Array Oper} {rest : List Oper} {o : Oper} {a : Act} {Q : Exit → Act → World → Prop} (hgd : o.guard = none) (s x : Operand) (t : TypeId)
    (ho : o.op = .call { callee := .builtin .append, args := #[s, x], argTypes := #[t, t] })
    (B : Nat) (e : TypeId) (i : TypeInfo) (z : Value) (bytes : Nat) (ht : P.underlying t = some (.slice e)) (hi : P.info? e = some i) (hz : i.zero = some z)
    (hsize : i.size = S.size) (hby : i.bytes = bytes) (hzs : z.cells.size = S.size) (hB64 : bytes ≤ 64)
    (v : Value) (l : List α) (hs : a.eval s = v) (hown : SlOwn S w B e v l)
    (A : Option Addr) (n c : Nat) (m : List α) (hx : a.eval x = .slice A n c) (hn : n = m.length) (hm : SlAt S w A m)
    (hlen : l.length + m.length ≤ 1048576) (hbase : B ≤ w.heap.size)
    (h : ∀ A' n' c' w', n' = (l ++ m).length → SlOwn S w' B e (.slice A' n' c') (l ++ m) → Below B w w' → w.grownBy w' v.ownBlock → wpList P ops Q rest (a.put o.dst (.slice A' n' c')) w') : wpList P ops Q (o :: rest) a w := by
  refine wpList_plain hgd fun K hK => ?_
  have := step_append_slsv S (ops := ops) (K := K) (Q := Q) (E := True) w hgd s x t ho B e i z bytes ht hi hz hsize hby hzs hB64 v l hs hown A n c m hx hn hm hlen hbase (fun A' n' c' w' h1 h2 h3 h4 => hK _ _ (h A' n' c' w' h1 h2 h3 h4))
  have hw : Region.wanted o (yielded ops a.tmps) = true := by simp [Region.wanted, hgd]
  rw [if_pos hw] at this
  exact this
theorem slAt_rod1 {w : World} {g : Nat} {L : Int} {A : Option Addr} {n c : Nat} {e : TypeId} {m : Nat × Nat} (h : w.heap[g]? = some (.cells #[.int .i64 L, .slice A n c] e m)) : SlAt rodS w (some ⟨g, 0, none⟩) [(L, A, n, c)] := by
  refine .inr ⟨g, 0, rfl, (Array.getElem?_eq_some_iff.1 h).1, fun k z hk j hj => ?_⟩
  cases k with
  | succ k => simp at hk
  | zero =>
    simp only [List.getElem?_cons_zero, Option.some.injEq] at hk
    subst hk
    simp only [Nat.zero_mul, Nat.zero_add]
    rw [cell_of_row w g j _ _ _ h, ← Array.getElem?_toList]
    rfl

/-! ### the texts of ways -/
def txU (ys : List Int) : List UInt8 := ys.map fun y => if y = 1 then 114 else 108
theorem txU_len (ys : List Int) : (txU ys).length = ys.length := by simp [txU]
theorem txU_at (ys : List Int) (j : Nat) (hj : j < (txU ys).length) : (((txU ys)[j].toNat : Nat) : Int) = (letL ys)[j]'(by rw [letL_len]; rw [txU_len] at hj; exact hj) := by
  simp only [txU, letL, List.getElem_map]
  split <;> rfl
theorem txU_way (ys : List Int) (h : ∀ y ∈ ys, y = -1 ∨ y = 1) : (txU ys).map wayB = ys := by
  unfold txU
  rw [List.map_map]
  conv => rhs; rw [← List.map_id ys]
  apply List.map_congr_left
  intro y hy
  rcases h y hy with rfl | rfl <;> rfl
theorem txU_ok (ys : List Int) : (txU ys).all okB = true := by
  rw [List.all_eq_true]
  intro b hb
  obtain ⟨y, _, rfl⟩ := List.mem_map.1 hb
  split <;> rfl
def txB (ys : List Int) : ByteArray := ⟨(txU ys).toArray⟩
theorem rwB_tx {L : Int} {l ys : List Int} (hp : plB L l = true) (hl : ys.length = l.length) : rwB L l (txB ys) = true := by
  unfold rwB txB
  have e : (ByteArray.mk (txU ys).toArray).size = l.length := by show (txU ys).toArray.size = _; rw [List.size_toArray, txU_len, hl]
  rw [hp, e]
  simp [txU_ok]
theorem rwV_tx {L : Int} {l ys : List Int} (hp : plB L l = true) (hl : ys.length = l.length) (h : ∀ y ∈ ys, y = -1 ∨ y = 1) : rwV L l (txB ys) = rdL l ys ∧ rwL L l (txB ys) = L := by
  unfold rwV rwL
  rw [rwB_tx hp hl]
  refine ⟨?_, rfl⟩
  show rdL l (((txU ys).toArray.toList).map wayB) = _
  rw [List.toList_toArray, txU_way ys h]
theorem rdL_len (l ys : List Int) (h : ys.length = l.length) : (rdL l ys).length = l.length := by unfold rdL; rw [List.length_zip, h]; omega

theorem ch_range {w : World} {A : Option Addr} {X : List (List Int)} {k : Nat} (h : SlAt chS w A X) (hk : k < X.length) : ∃ b off, A = some ⟨b, off, none⟩ ∧ b < w.heap.size ∧ w.rangeAt b (off + k * 12) (chV X[k]) := by
  rcases h with rfl | ⟨b, off, hA, hlt, h⟩
  · simp at hk
  · refine ⟨b, off, hA, hlt, fun j v hv => ?_⟩
    have hj : j < 12 := by have := (List.getElem?_eq_some_iff.1 hv).1; rwa [chV_len] at this
    have := h k X[k] (List.getElem?_eq_getElem hk) j hj
    rw [show off + k * 12 + j = off + k * chS.size + j from rfl, this]
    exact hv
end Go.Proofs.YtiodlclaempihaaGreat

/- AllR -/
namespace Go.Proofs.YtiodlclaempihaaGreat
open Go.RowKit

set_option maxRecDepth 100000 in
set_option maxHeartbeats 4000000 in
theorem rodsOfAll_none (L : Int) (A : Option Addr) (c : Nat) (l : List Int) (w : World) (hn : (l.length : Int) ≤ 9223372036854775807) (hA : SlAt intS w A l) (hp : plB L l = false) :
    Calls Tryz.prog 67 #[.int .i64 L, .slice A l.length c] w fun e w' => e = .returned (.tuple #[.slice none 0 0, .bool false]) ∧ Below w.heap.size w w' := by
  have HG := Lib.hid (arePlaces_at L A c l false hp w hn hA)
  clear hA hp
  go_enter Tryz.func67, Tryz.ntmps67
  go_wp2_with fail
  refine HG.out.mono ?_
  rintro e w1 ⟨rfl, hb⟩
  go_wp2
  exact bodyPost_ret (v := .tuple #[.slice none 0 0, .bool false]) (results_tmp2 Tryz.results67 _ _ _) rfl ⟨rfl, hb⟩

set_option maxRecDepth 100000 in
set_option maxHeartbeats 4000000 in
theorem rodsOfAll_any (L : Int) (A : Option Addr) (c : Nat) (l : List Int) (w : World) (hA : SlAt intS w A l) (hp : plB L l = true) :
    Calls Tryz.prog 67 #[.int .i64 L, .slice A l.length c] w fun e w' => ∃ A' c' R, e = .returned (.tuple #[.slice A' (2 ^ l.length) c', .bool true]) ∧ R.length = 2 ^ l.length ∧ SlOwn rodS w' w.heap.size 71 (.slice A' (2 ^ l.length) c') R ∧ RodsAt w' L l R ∧ Below w.heap.size w w' := by
  obtain ⟨hh1, ⟨hl1, hl2⟩, hrow⟩ := (plB_iff L l).1 hp
  have hn : (l.length : Int) ≤ 9223372036854775807 := by omega
  have HG := Lib.hid (arePlaces_at L A c l true hp w hn hA)
  have HP := Lib.hid hp
  have HA := Lib.hid hA
  have HN := Lib.hid hn
  have HAW := Lib.hid (fun w => allWays_any l.length w hl1 hl2)
  have hpow : 1 ≤ 2 ^ l.length := Nat.one_le_two_pow
  have hp12 : 2 ^ l.length ≤ 4096 := by
    have : 2 ^ l.length ≤ 2 ^ 12 := Nat.pow_le_pow_right (by omega) hl2
    omega
  clear hA hp hn hh1 hrow
  go_enter Tryz.func67, Tryz.ntmps67
  go_wp2_with fail
  refine HG.out.mono ?_
  rintro e w1 ⟨rfl, hb⟩
  have HB1 := Lib.hid hb
  have HA1 := Lib.hid (HA.out.below hb)
  have hs1 := hb.size
  clear hb
  go_wp2_with fail
  refine (HAW.out w1).mono ?_
  rintro e w2 ⟨A2, c2, rfl, ho2, hb2⟩
  have HO2 := Lib.hid ho2
  have HB2 : Hid (Below w.heap.size w w2) := HB1.out.trans (hb2.mono hs1)
  have HA2 := Lib.hid (HA1.out.below hb2)
  have hs2 := hb2.size
  clear ho2 hb2 HA HA1 HG HAW HB1
  obtain ⟨T, hT⟩ : ∃ T, T = 2 ^ l.length := ⟨_, rfl⟩
  rw [← hT] at HO2 hpow hp12 ⊢
  have HT := Lib.hid hT
  clear hT
  obtain ⟨X, hX⟩ : ∃ X, X = (List.range T).map fun k => letL (wyN l.length k) := ⟨_, rfl⟩
  rw [← hX] at HO2
  have HXL : Hid (X.length = T) := by show _ = _; rw [hX]; simp
  have HXA : Hid (∀ k (hk : k < X.length), X[k] = letL (wyN l.length k)) := fun k hk => by subst hX; simp
  clear hX
  have HSL2 := Lib.hid HO2.out.sl
  obtain ⟨b2, off2, rfl, hlt2, -⟩ := ch_range HSL2.out (k := 0) (by rw [HXL.out]; omega)
  go_wp2_with fail
  obtain ⟨i0, hi, hz0, hz1, hz2⟩ := info_parts rodI
  obtain ⟨i1, hi1, hz10, hz11, hz12⟩ := info_parts chI
  have hs02 : w.heap.size ≤ w2.heap.size := Nat.le_trans hs1 hs2
  go_loopw [6, 19] (fun v i wr => ∃ (k : Nat) (A5 : Option Addr) (c5 : Nat) (R : List (Int × Option Addr × Nat × Nat)), k ≤ T ∧ i = .int .i64 k ∧ v = .slice A5 k c5 ∧ R.length = k ∧ Below w2.heap.size w2 wr ∧ SlOwn rodS wr w2.heap.size 71 (.slice A5 k c5) R ∧ RodsAt wr L l R)
    (fun _ i _ => T - (intOf i).toNat)
  case atStart => exact ⟨0, none, 0, [], Nat.zero_le _, rfl, rfl, rfl, Below.refl _ _, ⟨rfl, .inl ⟨rfl, rfl⟩⟩, fun j p hp => by simp at hp⟩
  case round =>
    obtain ⟨k, A5, c5, R, hk, rfl, rfl, hRl, hbr, hown, hrods⟩ := hrel
    have HBr := Lib.hid hbr
    have HOr := Lib.hid hown
    have HRl := Lib.hid hRl
    have HRr := Lib.hid hrods
    have hsr := hbr.size
    clear hbr hown hRl hrods
    by_cases hlt : k < T
    · have hki : (k : Int) < (T : Int) := by omega
      obtain ⟨b', off', hbo, hlt', hrg⟩ := ch_range (HSL2.out.below HBr.out) (k := k) (by rw [HXL.out]; omega)
      simp only [Option.some.injEq, Addr.mk.injEq, and_true] at hbo
      obtain ⟨rfl, rfl⟩ := hbo
      rw [HXA.out] at hrg
      obtain ⟨M, hM⟩ : ∃ M, M = chV (letL (wyN l.length k)) := ⟨_, rfl⟩
      rw [← hM] at hrg
      have HRG := Lib.hid hrg
      have HM := Lib.hid hM
      clear hrg hM
      have HSZM : Hid ((Tryz.prog.info? 99).map (·.size) = some M.length) := by show _ = _; rw [HM.out, chV_len]; exact chSiz
      have HSZA : Hid ((Tryz.prog.info? 99).map (·.size) = some M.toArray.size) := by show _ = _; rw [HM.out]; exact chSizV _
      have HALLM : Hid (M.toArray.all (·.oneCell') = true) := by show _ = _; rw [HM.out]; exact chAllV _
      have HME : Hid ((List.replicate 12 (Value.int .u8 0)).toArray.size = M.toArray.size) := by show _ = _; rw [HM.out, List.size_toArray, List.size_toArray, chV_len, List.length_replicate]
      have HZ : Hid ((wr.alloc (Obj.cells (List.replicate 12 (Value.int .u8 0)).toArray 99)).heap[wr.heap.size]? = some (.cells (List.replicate 12 (Value.int .u8 0)).toArray 99 (0, 0))) := heap_new rfl
      have HW6 : Hid ((((wr.alloc (Obj.cells (List.replicate 12 (Value.int .u8 0)).toArray 99)).setRow wr.heap.size M.toArray).heap[wr.heap.size]? = some (.cells M.toArray 99 (0, 0)))) := setRow_heap _ _ _ _ _ _ HZ.out
      have HB6 : Hid (Below wr.heap.size wr ((wr.alloc (Obj.cells (List.replicate 12 (Value.int .u8 0)).toArray 99)).setRow wr.heap.size M.toArray)) := below_setRow ((Below.refl _ _).alloc (Nat.le_refl _) _) (Nat.le_refl _) (by simp) _
      go_upto_region 7 with (first
        | (refine wpList_load_mid rfl 99 _ rfl b2 (off2 + k * 12) rfl M _ HRG.out chUnd rfl HSZM.out ?_)
        | (refine wpList_store_row rfl 99 _ _ rfl wr.heap.size rfl 99 (List.replicate 12 (Value.int .u8 0)).toArray M.toArray rfl HZ.out HSZA.out HME.out HALLM.out ?_))
      obtain ⟨W6, hW6⟩ : ∃ W, W = (wr.alloc (Obj.cells (List.replicate 12 (Value.int .u8 0)).toArray 99)).setRow wr.heap.size M.toArray := ⟨_, rfl⟩
      rw [← hW6] at HW6 HB6
      have hgen : ∀ V, V = (wr.alloc (Obj.cells (List.replicate 12 (Value.int .u8 0)).toArray 99)).setRow wr.heap.size M.toArray → V = W6 := fun V h => h.trans hW6.symm
      generalize hQ : World.setRow _ wr.heap.size M.toArray = V
      obtain rfl : V = W6 := hgen V hQ.symm
      clear hgen hQ hW6 HZ
      have hys := wyN_len l.length k
      have HRW : Hid (∀ W, SlAt intS W A l → Calls Tryz.prog 89 #[.int .i64 L, .slice A l.length c, .string (txB (wyN l.length k))] W fun e w' => ∃ A' c', e = .returned (.tuple #[.agg #[.int .i64 L, .slice A' l.length c'], .bool true]) ∧ SlOwn pairS w' W.heap.size 90 (.slice A' l.length c') (rdL l (wyN l.length k)) ∧ Below W.heap.size W w') := fun W hW => by
        refine (implRodOfWays_any L A c l (txB (wyN l.length k)) W HN.out hW).mono ?_
        rintro e w' ⟨A', n', c', he, hn', ho, hb⟩
        obtain ⟨e1, e2⟩ := rwV_tx (L := L) (l := l) (ys := wyN l.length k) HP.out hys (wyN_mem _ _)
        rw [e1, rdL_len l _ hys] at hn'
        subst hn'
        rw [e2, rwB_tx HP.out hys] at he
        rw [e1] at ho
        exact ⟨A', c', he, ho, hb⟩
      have HA6 := Lib.hid ((HA2.out.below HBr.out).below HB6.out)
      have HAd : Hid (SlAt intS V.drew A l) := HA6.out.below (Below.refl _ V).drew
      have HAz : Hid (SlAt intS (V.alloc (Obj.cells #[.int .i64 0, .slice none 0 0] 71)).drew A l) := HA6.out.below ((Below.refl _ V).alloc (Nat.le_refl _) _).drew
      have hcv : ∀ W : World, W.heap[wr.heap.size]? = some (.cells M.toArray 99 (0, 0)) → (convert 60 9 (.slice (some ⟨wr.heap.size, 0, none⟩) l.length 12)).run Tryz.prog W = .ok (.string (txB (wyN l.length k))) W := fun W hW => by
        have h := run_convert_bytes_back (P := Tryz.prog) W 60 9 5 ⟨wr.heap.size, 0, none⟩ 12 (txU (wyN l.length k)) Tryz.underlying60 Tryz.underlying5 Tryz.underlying9 (fun j hj => by
          have hj' : j < l.length := by rw [txU_len, hys] at hj; exact hj
          have hj2 : j < (letL (wyN l.length k)).length := by rw [letL_len, hys]; exact hj'
          rw [add_plainJ, cell_of_row W wr.heap.size (0 + j) _ _ _ hW, ← Array.getElem?_toList, HM.out, chV_pad _ (by rw [letL_len, hys]; exact hl2), txU_at]
          show (List.map _ _)[0 + j]? = _
          rw [Nat.zero_add, List.getElem?_map]
          unfold padL
          rw [List.getElem?_append_left hj2, List.getElem?_eq_getElem hj2]
          rfl)
        rw [txU_len, hys] at h
        exact h
      have cv1 := hcv V.drew HW6.out
      have cv2 := hcv (V.alloc (Obj.cells #[.int .i64 0, .slice none 0 0] 71)).drew ((heap_alloc_old _ _ (by have := (Array.getElem?_eq_some_iff.1 HW6.out).1; exact this)).trans HW6.out)
      have cv3 := hcv V HW6.out
      have cv4 := hcv (V.alloc (Obj.cells #[.int .i64 0, .slice none 0 0] 71)) ((heap_alloc_old _ _ (by have := (Array.getElem?_eq_some_iff.1 HW6.out).1; exact this)).trans HW6.out)
      have slk := fun w' => chSl_h w' wr.heap.size l.length hl2
      clear hcv hys
      obtain ⟨ys, hyY⟩ : ∃ ys, ys = wyN l.length k := ⟨_, rfl⟩
      rw [← hyY] at HRW cv1 cv2 cv3 cv4
      have HYY := Lib.hid hyY
      clear hyY
      have zZ0 : (V.alloc (Obj.cells #[.int .i64 0, .slice none 0 0] 71)).drew.cell? ⟨V.heap.size, 0, none⟩ = some (.int .i64 0) := by simp [go_sem]
      have zZ1 : (V.alloc (Obj.cells #[.int .i64 0, .slice none 0 0] 71)).drew.cell? ⟨V.heap.size, 1, none⟩ = some (.slice none 0 0) := by simp [go_sem]
      have yZ0 : (V.alloc (Obj.cells #[.int .i64 0, .slice none 0 0] 71)).drew.frozen? ⟨V.heap.size, 0, none⟩ = false := by simp [go_sem]
      have yZ1 : (V.alloc (Obj.cells #[.int .i64 0, .slice none 0 0] 71)).drew.frozen? ⟨V.heap.size, 1, none⟩ = false := by simp [go_sem]
      have BZ : Hid (Below V.heap.size V (V.alloc (Obj.cells #[.int .i64 0, .slice none 0 0] 71)).drew) := (((Below.refl _ _).alloc (Nat.le_refl _) _).drew)
      have BD : Hid (Below V.heap.size V V.drew) := ((Below.refl _ _).drew)
      simp only [Act.put]
      go_cut [9, 10] from 20 to 37 (fun p q wx => ∃ (g : Nat) (A3 : Option Addr) (k3 : Nat), p = .pointer (some ⟨g, 0, none⟩) ∧ q = .bool true ∧ V.heap.size ≤ g ∧ g < wx.heap.size ∧ Below V.heap.size V wx ∧ wx.cell? ⟨g, 0, none⟩ = some (.int .i64 L) ∧ wx.cell? ⟨g, 1, none⟩ = some (.slice A3 l.length k3) ∧ SlOwn pairS wx V.heap.size 90 (.slice A3 l.length k3) (rdL l ys))
      case first =>
        go_wp2_with fail
        refine (HRW.out _ HA6.out).mono ?_
        rintro e w3 ⟨A3, k3, rfl, ho3, hb3⟩
        have HB3 := Lib.hid hb3
        have HO3 := Lib.hid ho3
        clear ho3 hb3
        go_wp2_with fail
        go_meet
        case rel => exact ⟨w3.heap.size, A3, k3, rfl, rfl, HB3.out.size, by simp, HB3.out.alloc HB3.out.size _, by simp, by simp, ownsRow_below HO3.out ((Below.refl _ _).alloc (Nat.le_refl _) _)⟩
      case rest =>
        obtain ⟨g, A3, k3, hp, hq, hg1, hg2, hbx, o0, o1, ho⟩ := hcut
        subst hp hq
        clear cv1 cv2 cv3 cv4 slk zZ0 zZ1 yZ0 yZ1 BZ BD HAd HAz HRW
        have HBX : Hid (Below wr.heap.size wr wc) := HB6.out.trans (hbx.mono HB6.out.size)
        have hsx := HBX.out.size
        have HO3 : Hid (SlOwn pairS wc 0 90 (.slice A3 l.length k3) (rdL l (wyN l.length k))) := by show SlOwn _ _ _ _ _ _; rw [← HYY.out]; exact own_base ho (Nat.zero_le _)
        have HO7 := Lib.hid (HOr.out.below HBX.out)
        have HR7 := Lib.hid (HRr.out.below HBX.out)
        clear ho hbx
        have HRN : Hid (RodsAt wc L l (R ++ [(L, A3, l.length, k3)])) := HR7.out.snoc (by rw [HRl.out]; exact HO3.out)
        have HLN : Hid (R.length + [(L, A3, l.length, k3)].length ≤ 1048576) := by show _ ≤ _; rw [HRl.out, List.length_singleton]; omega
        go_wp2_with (at_builtin; go_must (refine wpList_append_slsg rodS _ rfl _ _ 77 rfl w2.heap.size 71 i0 _ 32 Tryz.underlying77 hi hz0 hz1 hz2 rfl (by decide) (.slice A5 k c5) R rfl (HO7.out.allocA _) (some ⟨wc.heap.size, 0, none⟩) 1 1 [(L, A3, l.length, k3)] rfl rfl (slAt_rod1 (heap_new rfl)) HLN.out (by simp; omega) ?_); intro A8 n8 c8 w8 hn8 ho8 hb8 hg8; obtain rfl : n8 = k + 1 := (by rw [hn8, List.length_append, HRl.out]; rfl); have HO8 := Lib.hid ho8; have HB8 : Hid (Below w2.heap.size wc w8) := ((Below.refl w2.heap.size wc).alloc (by omega) _).trans hb8; have HR8 := Lib.hid ((HRN.out.below ((Below.refl _ _).alloc (Nat.le_refl _) _)).keep (HO7.out.allocA _) hg8); clear hn8 ho8 hb8 hg8)
        go_roundw
        case rel => exact ⟨k + 1, A8, c8, R ++ [(L, A3, l.length, k3)], by omega, by go_num, rfl, by rw [List.length_append, HRl.out]; rfl, (HBr.out.trans (HBX.out.mono hsr)).trans HB8.out, HO8.out, HR8.out⟩
        case measure => simp [intOf]; omega
    · obtain rfl : k = T := by omega
      go_wp2
      refine bodyPost_ret (v := .tuple #[.slice A5 k c5, .bool true]) (results_tmp2 Tryz.results67 _ _ _) rfl ⟨A5, c5, R, by rw [← HT.out], HRl.out.trans HT.out, by rw [← HT.out]; exact own_base HOr.out hs02, HRr.out, HB2.out.trans (HBr.out.mono hs02)⟩
end Go.Proofs.YtiodlclaempihaaGreat

/- WithMA -/
namespace Go.Proofs.YtiodlclaempihaaGreat
open Go.RowKit

theorem rdL_at {l ys : List Int} (h : ys.length = l.length) {k : Nat} (hk : k < l.length) : (rdL l ys).getD k (0, 0) = (l.getD k 0, ys.getD k 0) := by
  unfold rdL
  rw [List.getD_eq_getElem?_getD, List.getD_eq_getElem?_getD, List.getD_eq_getElem?_getD, List.getElem?_eq_getElem (by rw [List.length_zip, h]; omega), List.getElem?_eq_getElem hk, List.getElem?_eq_getElem (by omega)]
  simp
theorem goodB_rd {L : Int} {l ys : List Int} (hp : plB L l = true) (h : ys.length = l.length) (hm : ∀ y ∈ ys, y = -1 ∨ y = 1) : goodB L (rdL l ys) = true := by
  obtain ⟨⟨h1, h2, h3⟩, ⟨h4, h5⟩, hrow⟩ := (plB_iff L l).1 hp
  unfold goodB
  rw [Bool.and_eq_true]
  refine ⟨by rw [hdr_iff, rdL_len l ys h]; omega, ?_⟩
  rw [List.all_eq_true]
  intro k hk
  rw [List.mem_range, rdL_len l ys h] at hk
  obtain ⟨a0, a1, a2⟩ := rowB_at hrow (List.getElem?_eq_getElem hk)
  have hy := hm _ (List.getElem_mem (by omega : k < ys.length))
  have e1 : l.getD k 0 = l[k] := by rw [List.getD_eq_getElem?_getD, List.getElem?_eq_getElem hk]; rfl
  have e2 : ys.getD k 0 = ys[k] := by rw [List.getD_eq_getElem?_getD, List.getElem?_eq_getElem (by omega)]; rfl
  unfold okAt
  rw [rdL_at h hk, Bool.and_eq_true]
  refine ⟨?_, ?_⟩
  · show isAntB (l.getD k 0) (ys.getD k 0) L = true
    rw [e1, e2]
    unfold isAntB
    rcases hy with hy | hy <;> simp [hy, a0, a1, a2]
  · rw [Bool.or_eq_true]
    cases k with
    | zero => exact .inl rfl
    | succ k =>
      right
      have := rowB_next hrow k hk
      rw [Nat.add_sub_cancel, rdL_at h (by omega)]
      unfold mayB
      rw [Bool.or_eq_true]
      exact .inl (decide_eq_true this)

/-- the rods of all ways, or none -/
theorem rodsOfAll_both (L : Int) (A : Option Addr) (c : Nat) (l : List Int) (w : World) (hn : (l.length : Int) ≤ 9223372036854775807) (hA : SlAt intS w A l) :
    Calls Tryz.prog 67 #[.int .i64 L, .slice A l.length c] w fun e w' => ∃ A' c' R, e = .returned (.tuple #[.slice A' R.length c', .bool (plB L l)]) ∧ R.length = (if plB L l then 2 ^ l.length else 0) ∧ SlOwn rodS w' w.heap.size 71 (.slice A' R.length c') R ∧ RodsAt w' L l R ∧ Below w.heap.size w w' := by
  cases hp : plB L l with
  | false =>
    refine (rodsOfAll_none L A c l w hn hA hp).mono ?_
    rintro e w1 ⟨rfl, hb⟩
    exact ⟨none, 0, [], rfl, rfl, ⟨rfl, .inl ⟨rfl, rfl⟩⟩, fun j p hp => by simp at hp, hb⟩
  | true =>
    refine (rodsOfAll_any L A c l w hA hp).mono ?_
    rintro e w1 ⟨A', c', R, rfl, hl, ho, hr, hb⟩
    exact ⟨A', c', R, by rw [hl], hl, by rw [hl]; exact ho, hr, hb⟩

end Go.Proofs.YtiodlclaempihaaGreat
