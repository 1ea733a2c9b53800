/- Words: the program's wordsWith: all words of told signs, each made of the one before. -/
import Derived.Test.YtfojldkiagemeaaDoorWoW
namespace Go.Proofs.YtfojldkiagemeaaDoor
open Go.RowKit

def lenV : Value → Nat
  | .slice _ n _ => n
  | _ => 0
theorem lastIndex_any (l : List UInt8) (hl : l.length ≤ 1048576) (w : World) :
    Calls Tryd.prog 15 #[.string (mkB l), .string ⟨#[108, 114]⟩] w fun e w' => e = .returned (.int .i64 (li l)) ∧ w' = w :=
  (Any.strings_LastIndex lastT (mkB l) ⟨#[108, 114]⟩ (by rw [mkB_size]; omega) w).mono fun e w' ⟨he, hw⟩ => ⟨by
    rw [he]
    show Ending.returned (.int .i64 (Lib.lastIndex l [108, 114])) = _
    rw [li_eq], hw⟩

set_option maxHeartbeats 8000000 in
set_option maxRecDepth 100000 in
theorem wordsWith_any (a b : Nat) (h14 : a + b ≤ 14) (w : World) :
    Calls Tryd.prog 11 #[.int .i64 a, .int .i64 b] w fun e w' => ∃ A n c, e = .returned (.slice A n c) ∧ n = (allW a b).length ∧ SlOwn strS w' w.heap.size 9 (.slice A n c) (wordsL (allW a b)) ∧ Below w.heap.size w w' := by
  obtain ⟨i0, hi, hz0, hz1, hz2⟩ := info_parts strInfo
  have HR := Lib.hid (fun W => restWith_any a b (by omega) (by omega) W)
  have hrl : (rst a b).length = a + b := by unfold rst; simp
  have HL0 := Lib.hid (fun W => lastIndex_any (rst a b) (by omega) W)
  have hhead := allW_head (a + b) a b (Nat.le_refl _)
  have HHEAD := Lib.hid hhead
  have HT16 : Hid ((allW a b).length ≤ 16384) := Lib.hid (all_len_le h14)
  obtain ⟨T, hT⟩ : ∃ T, T = (allW a b).length := ⟨_, rfl⟩
  have hTb : T ≤ 16384 := by rw [hT]; exact HT16.out
  have hT1 : 1 ≤ T := by rw [hT]; exact allW_pos a b
  have HT := Lib.hid hT
  have HTAKE : Hid (wordsL ((allW a b).take 1) = [mkB (rst a b)]) := Lib.hid (by
    have : (allW a b).take 1 = [rst a b] := by
      rw [List.take_add_one, hhead]; rfl
    rw [this]; rfl)
  rw [← hT]
  clear hT hhead hrl
  generalize hgr : rst a b = p0 at *
  clear hgr
  go_enter Tryd.func11, Tryd.ntmps11
  go_wp2_with fail
  refine (HR.out _).mono ?_
  rintro e w1 ⟨rfl, hb1⟩
  have HB1 := Lib.hid hb1
  have hs1 := hb1.size
  clear hb1
  go_wp2_with fail
  refine (HL0.out _).mono ?_
  rintro e w2 ⟨rfl, hw2⟩
  subst hw2
  go_wp2
  go_loopw [5, 6, 7] (fun s v i wr => ∃ (k : Nat) (p : List UInt8) (A : Option Addr) (c : Nat), (allW a b)[k]? = some p ∧ s = .string (mkB p) ∧ i = .int .i64 (li p) ∧ v = .slice A (k + 1) c ∧ SlOwn strS wr w.heap.size 9 (.slice A (k + 1) c) (wordsL ((allW a b).take (k + 1))) ∧ Below w.heap.size w wr)
    (fun _ v _ _ => T - lenV v)
  case atStart => exact ⟨0, p0, _, _, HHEAD.out, rfl, rfl, rfl, by rw [HTAKE.out]; exact slOwn_oneS (heap_new rfl) hs1, HB1.out.trans ((Below.refl _ _).alloc hs1 _)⟩
  case round =>
    obtain ⟨k, p, A, c, hp, rfl, rfl, rfl, hown, hbw⟩ := hrel
    have hkT : k < T := by rw [HT.out]; exact (List.getElem?_eq_some_iff.1 hp).1
    have hpl := (allW_at hp).2.2.1
    have hnx := all_next hp
    have HO := Lib.hid hown
    have HB := Lib.hid hbw
    have HLK : Hid ((wordsL ((allW a b).take (k + 1))).length = k + 1) := Lib.hid (by have := HT.out; rw [wordsL_len, List.length_take]; omega)
    have hws := hbw.size
    clear hown hbw
    rcases nxt_li p with ⟨hneg, hnone⟩ | ⟨i, hli, hib, hsome⟩
    · rw [hnone] at hnx
      have hkk : T ≤ k + 1 := by rw [HT.out]; exact List.getElem?_eq_none_iff.1 hnx.symm
      have HKE : Hid (k + 1 = T) := Lib.hid (by omega)
      have HALL : Hid ((allW a b).take (k + 1) = allW a b) := Lib.hid (List.take_of_length_le (by rw [← HT.out]; exact hkk))
      have hneg' : ¬ (0 : Int) ≤ li p := by omega
      rw [HALL.out] at HO
      clear hp hnone hnx
      go_wp2
      go_ret
      exact ⟨A, k + 1, c, rfl, HKE.out, HO.out, HB.out⟩
    · rw [hsome] at hnx
      have hge : (0 : Int) ≤ i := by omega
      have hnl := (allW_at hnx.symm).2.2.1
      have HNX := Lib.hid hnx.symm
      have HL1 := Lib.hid (fun W => lastIndex_any (putNext p i) (by omega) W)
      have hz : (mkB p).size = p.length := rfl
      have hx0 : (mkB p).extract 0 i = mkB (p.take i) := by rw [extract_mk, mkB_data, List.drop_zero]
      have hx1 : (mkB p).extract (i + 2) (a + b) = mkB (p.drop (i + 2)) := by rw [← hpl, extract_mk, mkB_data, List.take_length]
      have hw2 : IntKind.i64.wrap ((i : Int) + 2) = i + 2 := IntWalk.i64_in _ (by omega)
      have zr : (⟨#[114]⟩ : ByteArray).size = 1 := rfl
      have zl : (⟨#[108]⟩ : ByteArray).size = 1 := rfl
      have z0 : (mkB (p.take i)).size ≤ 14 := by rw [mkB_size, List.length_take]; omega
      have z1 : (mkB (p.drop (i + 2))).size ≤ 14 := by rw [mkB_size, List.length_drop]; omega
      have c1 := List.count_le_length (a := (108 : UInt8)) (l := 108 :: p.drop (i + 2))
      have c2 := List.count_le_length (a := (114 : UInt8)) (l := 108 :: p.drop (i + 2))
      rw [List.length_cons, List.length_drop] at c1 c2
      have HC : Hid (∀ W : World, Calls Tryd.prog 12 #[.string ((⟨#[108]⟩ : ByteArray) ++ mkB (p.drop (i + 2)))] W fun e w' => e = .returned (.tuple #[.int .i64 ((108 :: p.drop (i + 2)).count 108 : Nat), .int .i64 ((108 :: p.drop (i + 2)).count 114 : Nat)]) ∧ Below W.heap.size W w') := Lib.hid fun W =>
        (countSigns_any (108 :: p.drop (i + 2)) W).mono fun e w' ⟨he, hw⟩ => ⟨he, by rw [hw]; exact Below.refl _ _⟩
      have HPN : Hid (mkB (p.take i) ++ (⟨#[114]⟩ : ByteArray) ++ mkB (rst ((108 :: p.drop (i + 2)).count 108) ((108 :: p.drop (i + 2)).count 114)) = mkB (putNext p i)) := Lib.hid (by
        unfold putNext
        rw [show (⟨#[114]⟩ : ByteArray) = mkB [114] from rfl, mkB_append, mkB_append, List.append_assoc]; rfl)
      generalize (108 :: p.drop (i + 2)).count 108 = q1 at *
      generalize (108 :: p.drop (i + 2)).count 114 = q2 at *
      have z2 : (mkB (rst q1 q2)).size ≤ 28 := by rw [mkB_size]; unfold rst; simp; omega
      have HRR : Hid (∀ W : World, Calls Tryd.prog 14 #[.int .i64 q1, .int .i64 q2] W fun e w' => e = .returned (.string (mkB (rst q1 q2))) ∧ Below W.heap.size W w') := Lib.hid fun W => restWith_any q1 q2 (by omega) (by omega) W
      obtain ⟨np, hnp⟩ : ∃ np, mkB (putNext p i) = np := ⟨_, rfl⟩
      have HNP := Lib.hid hnp
      rw [hnp] at HPN HL1
      clear hnp
      generalize mkB (p.take i) = s0 at *
      generalize mkB (p.drop (i + 2)) = s1 at *
      generalize mkB (rst q1 q2) = s2 at *
      have f1 : ¬ 9223372036854775807 < s0.size + 1 := by omega
      have f2 : ¬ 9223372036854775807 < 1 + s1.size := by omega
      have f3 : ¬ 9223372036854775807 < s0.size + 1 + s2.size := by omega
      have HLI := Lib.hid hli
      rw [hli]
      clear hp hsome hnx hnl hli c1 c2
      go_wp2
      refine wp_region_ext (by kernel_rfl) (by kernel_rfl) ?_
      repeat (first | go_big_quiet_skip | (go_big_quiet_want; go_big_quiet_op; first | go_big_quiet_on | (apply Exists.intro; refine ⟨fun _ => ?_, ?_⟩; (first | (go_at_call 12; exact Ext.call (HC.out _)) | (go_at_call 14; exact Ext.call (HRR.out _))); go_big_quiet_on)))
      refine wpQuiet_nil ?_
      rintro _ ⟨x, rfl⟩
      rw [HPN.out]
      have hsx := x.h.size
      have HBX := Lib.hid (HB.out.trans (x.h.mono hws))
      have HOX := Lib.hid (HO.out.below x.h)
      go_wp2_with (at_builtin; go_must (refine wpList_append_slsw strS _ rfl _ _ 28 rfl w.heap.size 9 i0 _ 16 Tryd.underlying28 hi hz0 hz1 hz2 rfl (by decide) (.slice A (k + 1) c) (wordsL ((allW a b).take (k + 1))) rfl (HOX.out.allocS _) _ 1 1 [np] rfl rfl (slAt_oneS (heap_new rfl)) (by rw [HLK.out, List.length_singleton]; omega) (by simp; omega) ?_); intro A8 n8 c8 w8 ho8 hg8 hb8; obtain rfl : n8 = k + 1 + 1 := (by obtain ⟨_, _, e8, _⟩ := ho8.form; injection e8 with _ e8 _; rw [e8, List.length_append, HLK.out]; rfl); have HO8 := Lib.hid ho8; have HG8 : Hid (x.w.grownBy w8 (Value.slice A (k + 1) c).ownBlock) := Lib.hid (grown_transS (grown_allocS _ _) hg8); clear ho8 hg8 hb8) <;> skip
      refine (HL1.out _).mono ?_
      rintro e w9 ⟨rfl, hw9⟩
      subst hw9
      go_wp2
      go_roundw
      case rel =>
        refine ⟨k + 1, putNext p i, A8, c8, HNX.out, congrArg Value.string HNP.out.symm, rfl, rfl, ?_, HBX.out.trans ((Below.refl _ _).grown HG8.out (by omega) (fun g hg => own_blockG HOX.out g hg))⟩
        rw [List.take_add_one, HNX.out]
        show SlOwn strS _ _ _ _ (wordsL (List.take (k + 1) (allW a b) ++ [putNext p i]))
        rw [wordsL_snoc, HNP.out]
        exact HO8.out
      case measure =>
        have h1 := (List.getElem?_eq_some_iff.1 HNX.out).1
        rw [← HT.out] at h1
        show T - (k + 1 + 1) < T - (k + 1)
        omega
end Go.Proofs.YtfojldkiagemeaaDoor
