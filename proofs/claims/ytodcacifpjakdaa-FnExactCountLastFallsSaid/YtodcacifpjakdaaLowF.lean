/- Lowest terms, as the program comes to them. -/
import Derived.Test.YtodcacifpjakdaaProg
import Derived.Test.YtodcacifpjakdaaBase
import Derived.Test.YtodcacifpjakdaaMom
import Derived.BigQuiet
namespace Go.Proofs.Ytodcacifpjakdaa
open Go.RowKit

theorem natAbs_max (x : Int) : max x (-x) = (x.natAbs : Int) := by omega

/-- a result of two numbers lies in a block of its own, the first one that is made -/
structure ResAt (w wr : World) : Prop where
  size : w.heap.size < wr.heap.size
  c0 : wr.cell? ⟨w.heap.size, 0, none⟩ = some (.int .i64 0)
  c1 : wr.cell? ⟨w.heap.size, 1, none⟩ = some (.int .i64 0)
  f0 : wr.frozen? ⟨w.heap.size, 0, none⟩ = false
  f1 : wr.frozen? ⟨w.heap.size, 1, none⟩ = false
  below : Below w.heap.size w wr
  dr : w.drawn ≤ wr.drawn
theorem ResAt.parts {w wr : World} (h : ResAt w wr) : w.heap.size < wr.heap.size ∧ wr.cell? ⟨w.heap.size, 0, none⟩ = some (.int .i64 0) ∧ wr.cell? ⟨w.heap.size, 1, none⟩ = some (.int .i64 0) ∧ wr.frozen? ⟨w.heap.size, 0, none⟩ = false ∧ wr.frozen? ⟨w.heap.size, 1, none⟩ = false ∧ Below w.heap.size w wr :=
  ⟨h.size, h.c0, h.c1, h.f0, h.f1, h.below⟩
theorem resAt_start (w : World) (e : TypeId) : ResAt w (w.alloc (Obj.cells #[Value.int IntKind.i64 0, Value.int IntKind.i64 0] e)) :=
  ⟨by simp, by simp, by simp, by simp, by simp, (Below.refl _ _).alloc (Nat.le_refl _) _, Nat.le_refl _⟩
theorem ResAt.drew {w wr : World} (h : ResAt w wr) : ResAt w wr.drew :=
  ⟨by simpa using h.size, by simpa using h.c0, by simpa using h.c1, by simpa using h.f0, by simpa using h.f1, h.below.drew, Nat.le_succ_of_le h.dr⟩

set_option maxRecDepth 100000 in
set_option maxHeartbeats 1000000 in
theorem lowest_dr (num den : Int) (w : World) (hd : 0 < den) (hd1 : den ≤ 1000000000000) (h0 : -1000000000000 ≤ num) (h1 : num ≤ 1000000000000) :
    Calls Try.prog 25 #[.int .i64 num, .int .i64 den] w fun e w' => e = .returned (.agg #[.int .i64 (lowP num den).1, .int .i64 (lowP num den).2]) ∧ Below w.heap.size w w' ∧ w.drawn ≤ w'.drawn := by
  have HQ := Lib.hid (lowP_tnum num den)
  have HP := Lib.hid (lowP_tden num den)
  have hb1 := lowP_num_abs (num := num) hd 1000000000000 h0 h1
  have hb2 := lowP_den_le (num := num) hd
  have hb3 := lowP_pos (num := num) hd
  have hn : IntKind.i64.wrap (-num) = -num := IntWalk.i64_in _ (by omega)
  have HM := Lib.hid (natAbs_max num)
  go_enter Try.func25, Try.ntmps25
  go_wp2
  all_goals (
    go_loopw [5, 6] (fun p r wr => ∃ P R : Nat, p = .int .i64 P ∧ r = .int .i64 R ∧ Nat.gcd P R = gcdN num den ∧ 0 < P ∧ (P : Int) ≤ 1000000000000 ∧ (R : Int) ≤ 1000000000000 ∧ ResAt w wr) (fun _ r _ => (intOf r).toNat)
    case atStart => exact ⟨den.natAbs, num.natAbs, by congr 1; omega, by congr 1; omega, rfl, by omega, by omega, by omega, resAt_start w _⟩
    case round =>
      obtain ⟨P, R, rfl, rfl, hg, hp, hp1, hr1, hres⟩ := hrel
      obtain ⟨hs, c0, c1, f0, f1, hb⟩ := hres.parts
      have HRES := Lib.hid hres
      have HB := Lib.hid hb
      clear hres hb
      by_cases hr : R = 0
      · subst hr
        have hg' : P = gcdN num den := by rw [← hg]; simp
        subst hg'
        have HQ' := HQ.out
        have HP' := HP.out
        have hgne : ((gcdN num den : Int) == 0) = false := by simp; omega
        generalize gcdN num den = G at *
        obtain ⟨a, ha⟩ : ∃ a, (lowP num den).1 = a := ⟨_, rfl⟩
        obtain ⟨d, hd'⟩ : ∃ d, (lowP num den).2 = d := ⟨_, rfl⟩
        rw [ha] at hb1 HQ'
        rw [hd'] at hb2 hb3 HP'
        have HA := Lib.hid ha
        have HD := Lib.hid hd'
        clear ha hd'
        have hq1 : IntKind.i64.wrap a = a := IntWalk.i64_in _ (by omega)
        have hq2 : IntKind.i64.wrap d = d := IntWalk.i64_in _ (by omega)
        clear hb1 hb2 hb3 hn hg
        go_wp2
        go_region
        go_wp2
        exact bodyPost_ret (v := .agg #[.int .i64 a, .int .i64 d]) (by simp [results, Try.results25, go_sem, c0, c1]) rfl ⟨by rw [HA.out, HD.out], ((HB.out.setCell (by simp) _).setCell (by simp) _).drew, Nat.le_succ_of_le HRES.out.dr⟩
      · have hrb : (((R : Nat) : Int) == 0) = false := by simp; omega
        have hE : ((P : Nat) : Int) % ((R : Nat) : Int) = ((P % R : Nat) : Int) := rfl
        have hlt : P % R < R := Nat.mod_lt _ (by omega)
        have HG : Hid (Nat.gcd R (P % R) = gcdN num den) := by show _ = _; rw [gcd_step]; exact hg
        go_wp2
        go_region
        go_wp2
        go_roundw
        case rel => exact ⟨R, P % R, rfl, by rw [hE], HG.out, by omega, by omega, by omega, HRES.out.drew⟩
        case measure =>
          have h2 : ((P : Int) % (R : Int)).toNat < R := by rw [hE, Int.toNat_natCast]; exact hlt
          simpa [intOf] using h2)
theorem lowest_any (num den : Int) (w : World) (hd : 0 < den) (hd1 : den ≤ 1000000000000) (h0 : -1000000000000 ≤ num) (h1 : num ≤ 1000000000000) :
    Calls Try.prog 25 #[.int .i64 num, .int .i64 den] w fun e w' => e = .returned (.agg #[.int .i64 (lowP num den).1, .int .i64 (lowP num den).2]) ∧ Below w.heap.size w w' :=
  (lowest_dr num den w hd hd1 h0 h1).mono fun _ _ ⟨he, hb, _⟩ => ⟨he, hb⟩
end Go.Proofs.Ytodcacifpjakdaa
