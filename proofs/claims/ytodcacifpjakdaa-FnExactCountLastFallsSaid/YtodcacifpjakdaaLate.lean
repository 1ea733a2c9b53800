/- LatestFall and MeanMeetings, both sides; the model's lowest terms. -/
import Derived.Test.YtodcacifpjakdaaPlac
import Derived.Test.YtodcacifpjakdaaLowF
import Derived.BigQuiet
namespace Go.Proofs.Ytodcacifpjakdaa
open Go.RowKit

theorem ret_ib' {a b : Int} {x y : Bool} (h : a = b) (h' : x = y) : Ending.returned (.tuple #[.int .i64 a, .bool x]) = .returned (.tuple #[.int .i64 b, .bool y]) := by rw [h, h']
theorem ret_iib' {a b c d : Int} {x y : Bool} (h : a = b) (h2 : c = d) (h' : x = y) : Ending.returned (.tuple #[.int .i64 a, .int .i64 c, .bool x]) = .returned (.tuple #[.int .i64 b, .int .i64 d, .bool y]) := by rw [h, h2, h']

theorem ret_ii {a b c d : Int} (h : a = b) (h2 : c = d) : Ending.returned (.tuple #[.int .i64 a, .int .i64 c]) = .returned (.tuple #[.int .i64 b, .int .i64 d]) := by rw [h, h2]
set_option maxHeartbeats 1000000 in
theorem stCommon_any (num den : Int) (w : World) (hd : 0 < den) (hd1 : den ≤ 1000000000000) (h0 : 0 ≤ num) (h1 : num ≤ 1000000000000) :
    Calls Try.prog 33 #[.int .i64 num, .int .i64 den] w fun e w' => e = .returned (.int .i64 (gcdN num den : Int)) ∧ Below w.heap.size w w' := by
  go_enter Try.func33, Try.ntmps33
  go_wp2
  go_loopw [0, 1] (fun p r wr => ∃ P R : Nat, p = .int .i64 P ∧ r = .int .i64 R ∧ Nat.gcd P R = gcdN num den ∧ (P : Int) ≤ 1000000000000 ∧ (R : Int) ≤ 1000000000000 ∧ Below w.heap.size w wr) (fun _ r _ => (intOf r).toNat)
  case atStart => exact ⟨num.natAbs, den.natAbs, by congr 1; omega, by congr 1; omega, Nat.gcd_comm _ _, by omega, by omega, Below.refl _ _⟩
  case round =>
    obtain ⟨P, R, rfl, rfl, hg, hp1, hr1, hb⟩ := hrel
    have HB := Lib.hid hb
    clear hb
    by_cases hr : R = 0
    · subst hr
      have hg' : P = gcdN num den := by rw [← hg]; simp
      have HG := Lib.hid hg'
      clear hg hg'
      go_wp2
      go_ret
      exact ⟨ret_int (by rw [HG.out]), HB.out⟩
    · have hrb : (((R : Nat) : Int) == 0) = false := by simp; omega
      have hrp : (0 : Int) < (R : Int) := by omega
      have hE : ((P : Nat) : Int) % ((R : Nat) : Int) = ((P % R : Nat) : Int) := rfl
      have hlt : P % R < R := Nat.mod_lt _ (by omega)
      have HG : Hid (Nat.gcd R (P % R) = gcdN num den) := by show _ = _; rw [gcd_step]; exact hg
      clear hg
      go_wp2
      go_region
      go_wp2
      go_roundw
      case rel => exact ⟨R, P % R, rfl, by rw [hE], HG.out, by omega, by omega, HB.out.drew⟩
      case measure =>
        have h2 : ((P : Int) % (R : Int)).toNat < R := by rw [hE, Int.toNat_natCast]; exact hlt
        simpa [intOf] using h2

set_option maxHeartbeats 1000000 in
theorem stLow_any (num den : Int) (w : World) (hd : 0 < den) (hd1 : den ≤ 1000000000000) (h0 : 0 ≤ num) (h1 : num ≤ 1000000000000) :
    Calls Try.prog 24 #[.int .i64 num, .int .i64 den] w fun e w' => e = .returned (.tuple #[.int .i64 (lowP num den).1, .int .i64 (lowP num den).2]) ∧ Below w.heap.size w w' := by
  have HC := Lib.hid (stCommon_any num den w hd hd1 h0 h1)
  have HQ := Lib.hid (lowP_tnum num den)
  have HP := Lib.hid (lowP_tden num den)
  have hb1 := lowP_num_abs (num := num) hd 1000000000000 (by omega) h1
  have hb2 := lowP_den_le (num := num) hd
  have hb3 := lowP_pos (num := num) hd
  have hgne : ¬ ((gcdN num den : Nat) : Int) = 0 := by have := gcdN_pos (num := num) hd; omega
  have hgnn : ¬ (gcdN num den : Nat) = 0 := by have := gcdN_pos (num := num) hd; omega
  go_enter Try.func24, Try.ntmps24
  go_wp2_with fail
  refine HC.out.mono ?_
  rintro e w1 ⟨rfl, hb⟩
  have HB := Lib.hid hb
  clear hb
  have HQ' := HQ.out
  have HP' := HP.out
  generalize gcdN num den = G at *
  obtain ⟨a, ha⟩ : ∃ a, (lowP num den).1 = a := ⟨_, rfl⟩
  obtain ⟨d, hd'⟩ : ∃ d, (lowP num den).2 = d := ⟨_, rfl⟩
  rw [ha] at hb1 HQ'
  rw [hd'] at hb2 hb3 HP'
  have HA := Lib.hid ha
  have HD := Lib.hid hd'
  clear ha hd'
  have hq1 : IntKind.i64.wrap a = a := IntWalk.i64_in _ (by omega)
  have hq2 : IntKind.i64.wrap d = d := IntWalk.i64_in _ (by omega)
  clear hb1 hb2 hb3
  go_wp2
  go_region
  go_wp2
  go_ret2
  exact ⟨ret_ii HA.out.symm HD.out.symm, HB.out.drew⟩

end Go.Proofs.Ytodcacifpjakdaa
