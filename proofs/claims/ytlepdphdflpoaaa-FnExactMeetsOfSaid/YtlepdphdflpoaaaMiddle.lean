/- The middle of all runners at a time, on both sides. -/
import Derived.Test.YtlepdphdflpoaaaMomS
import Derived.Test.YtlepdphdflpoaaaKept
namespace Go.Proofs.Ytlepdphdflpoaaa
open Go.RowKit

/-- a result of two numbers lies in block g, as it was made -/
structure RZ (g : Nat) (wr : World) : Prop where
  lt : g < wr.heap.size
  c0 : wr.cell? ⟨g, 0, none⟩ = some (.int .i64 0)
  c1 : wr.cell? ⟨g, 1, none⟩ = some (.int .i64 0)
  f0 : wr.frozen? ⟨g, 0, none⟩ = false
  f1 : wr.frozen? ⟨g, 1, none⟩ = false
theorem RZ.parts {g : Nat} {wr : World} (h : RZ g wr) : g < wr.heap.size ∧ wr.cell? ⟨g, 0, none⟩ = some (.int .i64 0) ∧ wr.cell? ⟨g, 1, none⟩ = some (.int .i64 0) ∧ wr.frozen? ⟨g, 0, none⟩ = false ∧ wr.frozen? ⟨g, 1, none⟩ = false := ⟨h.lt, h.c0, h.c1, h.f0, h.f1⟩
theorem RZ.below {g : Nat} {wr w2 : World} (h : RZ g wr) (hb : Below wr.heap.size wr w2) : RZ g w2 :=
  ⟨Nat.lt_of_lt_of_le h.lt hb.size, Below.cell_some hb h.c0, Below.cell_some hb h.c1, (hb.frozen (p := ⟨g, 0, none⟩) h.lt).trans h.f0, (hb.frozen (p := ⟨g, 1, none⟩) h.lt).trans h.f1⟩
theorem RZ.start (w : World) (e : TypeId) : RZ w.heap.size (w.alloc (Obj.cells #[Value.int IntKind.i64 0, Value.int IntKind.i64 0] e)) := ⟨by simp, by simp, by simp, by simp, by simp⟩
theorem RZ.start2 (w : World) (o : Obj) (e : TypeId) : RZ (w.heap.size + 1) ((w.alloc o).alloc (Obj.cells #[Value.int IntKind.i64 0, Value.int IntKind.i64 0] e)) := by
  have := RZ.start (w.alloc o) e
  simpa using this

def mkB (num den : Int) : Bool := momB (lowP num den).1 (lowP num den).2
def mkV (num den : Int) : Int × Int := if mkB num den then lowP num den else (0, 0)
theorem ret_mb {a b a' b' : Int} {x y : Bool} (h1 : a = a') (h2 : b = b') (h3 : x = y) : Ending.returned (.tuple #[.agg #[.int .i64 a, .int .i64 b], .bool x]) = .returned (.tuple #[.agg #[.int .i64 a', .int .i64 b'], .bool y]) := by rw [h1, h2, h3]

set_option maxRecDepth 100000 in
set_option maxHeartbeats 1000000 in
theorem make_any (num den : Int) (w : World) (hd : 0 < den) (hd1 : den ≤ 1000000000000) (h0 : -1000000000000 ≤ num) (h1 : num ≤ 1000000000000) :
    Calls Try.prog 69 #[.int .i64 num, .int .i64 den] w fun e w' => e = .returned (.tuple #[.agg #[.int .i64 (mkV num den).1, .int .i64 (mkV num den).2], .bool (mkB num den)]) ∧ Below w.heap.size w w' := by
  have HC := Lib.hid (fun w => common_any num den w hd hd1 h0 h1)
  have HVV : Hid (mkV num den = if mkB num den then ((lowP num den).1, (lowP num den).2) else (0, 0)) := rfl
  have HBB : Hid (mkB num den = momB (lowP num den).1 (lowP num den).2) := rfl
  have hg := gcdN_pos (num := num) hd
  have HQ' := lowP_tnum num den
  have HP' := lowP_tden num den
  have hb1 := lowP_num_abs (num := num) hd 1000000000000 h0 h1
  have hb2 := lowP_den_le (num := num) hd
  have hb3 := lowP_pos (num := num) hd
  generalize gcdN num den = G at *
  have hG0 : ¬ G = 0 := by omega
  have hgne : (((G : Nat) : Int) == 0) = false := by simp; omega
  generalize (lowP num den).1 = a at *
  generalize (lowP num den).2 = d at *
  generalize mkV num den = V at *
  generalize mkB num den = R at *
  have hq1 : IntKind.i64.wrap a = a := IntWalk.i64_in _ (by omega)
  have hq2 : IntKind.i64.wrap d = d := IntWalk.i64_in _ (by omega)
  clear hb1 hb2 hb3 hg hd
  go_enter Try.func69, Try.ntmps69
  go_wp2_with fail
  refine (HC.out _).mono ?_
  rintro e w1 ⟨rfl, hb⟩
  have HR1 := (RZ.start w 32).below hb
  have HB := Lib.hid (((Below.refl _ w).alloc (Nat.le_refl _) _).trans (hb.mono (by simp)))
  clear hb
  go_wp2
  go_region
  cases R with
  | false =>
    have HM := Lib.hid (spMoment_at a d false HBB.out.symm)
    have HV2 : Hid (V = (0, 0)) := by show _ = _; rw [HVV.out]; rfl
    go_wp2_with fail
    refine (HM.out _).mono ?_
    rintro e w3 ⟨rfl, hb3⟩
    have hb13 : Below w1.heap.size w1 w3 := (((Below.refl _ w1).alloc (Nat.le_refl _) _).drew).trans (hb3.mono (by simp))
    obtain ⟨s3, c0, c1, f0, f1⟩ := (HR1.below hb13).parts
    have HB3 := Lib.hid (HB.out.trans (hb13.mono HB.out.size))
    clear hb3 hb13
    go_wp2
    exact bodyPost_ret (v := .tuple #[.agg #[.int .i64 0, .int .i64 0], .bool false]) (by simp [results, Try.results69, go_sem, c0, c1]) rfl ⟨ret_mb (by rw [HV2.out]) (by rw [HV2.out]) rfl, (HB3.out.setCell (Nat.le_refl _) _).setCell (Nat.le_refl _) _⟩
  | true =>
    have HM := Lib.hid (spMoment_at a d true HBB.out.symm)
    have HV2 : Hid (V = (a, d)) := by show _ = _; rw [HVV.out]; rfl
    go_wp2_with fail
    refine (HM.out _).mono ?_
    rintro e w3 ⟨rfl, hb3⟩
    have e0 : w3.cell? ⟨w1.heap.size, 0, none⟩ = some (.int .i64 a) := by rw [hb3.cell (p := ⟨w1.heap.size, 0, none⟩) (by simp)]; simp [go_sem]
    have e1 : w3.cell? ⟨w1.heap.size, 1, none⟩ = some (.int .i64 d) := by rw [hb3.cell (p := ⟨w1.heap.size, 1, none⟩) (by simp)]; simp [go_sem]
    have hb13 : Below w1.heap.size w1 w3 := (((Below.refl _ w1).alloc (Nat.le_refl _) _).drew).trans (hb3.mono (by simp))
    obtain ⟨s3, c0, c1, f0, f1⟩ := (HR1.below hb13).parts
    have HB3 := Lib.hid (HB.out.trans (hb13.mono HB.out.size))
    clear hb3 hb13
    go_wp2
    exact bodyPost_ret (v := .tuple #[.agg #[.int .i64 a, .int .i64 d], .bool true]) (by simp [results, Try.results69, go_sem, c0, c1]) rfl ⟨ret_mb (by rw [HV2.out]) (by rw [HV2.out]) rfl, (HB3.out.setCell (Nat.le_refl _) _).setCell (Nat.le_refl _) _⟩

/-! ### the sum of all places, times the denominator -/
def miS (n d : Int) (l : List (Int × Int)) : Int := l.foldl (fun s p => s + (p.1 * d + p.2 * n)) 0
theorem miS_snoc (n d : Int) (l : List (Int × Int)) (k : Nat) (hk : k < l.length) : miS n d (l.take (k + 1)) = miS n d (l.take k) + ((l.getD k (0, 0)).1 * d + (l.getD k (0, 0)).2 * n) := by
  unfold miS
  rw [List.take_succ_eq_append_getElem hk, List.foldl_append, getDp hk]
  rfl
theorem miS_bound {n d : Int} {l : List (Int × Int)} (hg : rnnB l = true) (ht : timB n d = true) : ∀ k, k ≤ l.length → -(10000000 * k) ≤ miS n d (l.take k) ∧ miS n d (l.take k) ≤ 10000000 * k := by
  have h := (timB_iff n d).1 ht
  intro k
  induction k with
  | zero => intro _; simp [miS]
  | succ k ih =>
    intro hk
    have h1 := ih (by omega)
    have h2 := key_bound (N := n) (D := d) (x := l.getD k (0, 0)) h.1 h.2.1 h.2.2.1 h.2.2.2.1 (rnn_one hg (by omega))
    rw [miS_snoc n d l k (by omega)]
    omega
def mdB (l : List (Int × Int)) (n d : Int) : Bool := askB l n d && decide (0 < l.length) && mkB (miS n d l) (d * l.length)
def mdV (l : List (Int × Int)) (n d : Int) : Int × Int := if askB l n d && decide (0 < l.length) then mkV (miS n d l) (d * l.length) else (0, 0)

set_option maxRecDepth 100000 in
set_option maxHeartbeats 2000000 in
theorem specMiddleAt_any (A : Option Addr) (c : Nat) (l : List (Int × Int)) (n d : Int) (w : World) (hA : AntsAt w A l) :
    Calls Try.prog 52 #[.slice A l.length c, .agg #[.int .i64 n, .int .i64 d]] w fun e w' => e = .returned (.tuple #[.agg #[.int .i64 (mdV l n d).1, .int .i64 (mdV l n d).2], .bool (mdB l n d)]) ∧ Below w.heap.size w w' := by
  have HA := Lib.hid ((hA.alloc (Obj.cells #[Value.int IntKind.i64 n, Value.int IntKind.i64 d] 32)).alloc (Obj.cells #[Value.int IntKind.i64 0, Value.int IntKind.i64 0] 32))
  clear hA
  have HB0 := Lib.hid (((Below.refl _ w).alloc (Nat.le_refl _) (Obj.cells #[Value.int IntKind.i64 n, Value.int IntKind.i64 d] 32)).alloc (by simp) (Obj.cells #[Value.int IntKind.i64 0, Value.int IntKind.i64 0] 32))
  have HR0 := Lib.hid (RZ.start2 w (Obj.cells #[Value.int IntKind.i64 n, Value.int IntKind.i64 d] 32) 32)
  cases hg : askB l n d with
  | false =>
    have HV : Hid (mdV l n d = (0, 0) ∧ mdB l n d = false) := by show _ ∧ _; simp [mdV, mdB, hg]
    have HG := Lib.hid (asked_at A c l n d false hg)
    clear hg
    go_enter Try.func52, Try.ntmps52
    go_wp2_with fail
    refine (HG.out _ HA.out).mono ?_
    rintro e w1 ⟨rfl, hb⟩
    obtain ⟨s3, r0, r1, f0, f1⟩ := (HR0.out.below hb).parts
    have HB := Lib.hid (HB0.out.trans (hb.mono (by simp; omega)))
    clear hb
    go_wp2
    exact bodyPost_ret (v := .tuple #[.agg #[.int .i64 0, .int .i64 0], .bool false]) (by simp [results, Try.results52, go_sem, r0, r1]) rfl ⟨ret_mb (by rw [HV.out.1]) (by rw [HV.out.1]) HV.out.2.symm, (HB.out.setCell (by simp) _).setCell (by simp) _⟩
  | true =>
    have HG := Lib.hid (asked_at A c l n d true hg)
    by_cases hz : l.length = 0
    · have HV : Hid (mdV l n d = (0, 0) ∧ mdB l n d = false) := by show _ ∧ _; simp [mdV, mdB, hz]
      have hzb : ((l.length : Int) == 0) = true := by rw [hz]; rfl
      clear hg hz
      go_enter Try.func52, Try.ntmps52
      go_wp2_with fail
      refine (HG.out _ HA.out).mono ?_
      rintro e w1 ⟨rfl, hb⟩
      obtain ⟨s3, r0, r1, f0, f1⟩ := (HR0.out.below hb).parts
      have HB := Lib.hid (HB0.out.trans (hb.mono (by simp; omega)))
      clear hb
      go_wp2
      exact bodyPost_ret (v := .tuple #[.agg #[.int .i64 0, .int .i64 0], .bool false]) (by simp [results, Try.results52, go_sem, r0, r1]) rfl ⟨ret_mb (by rw [HV.out.1]) (by rw [HV.out.1]) HV.out.2.symm, (HB.out.setCell (by simp) _).setCell (by simp) _⟩
    · have hzb : ((l.length : Int) == 0) = false := beq_eq_false_iff_ne.2 (by omega)
      have hzd : decide (0 < l.length) = true := decide_eq_true (by omega)
      have HV : Hid (mdV l n d = mkV (miS n d l) (d * l.length) ∧ mdB l n d = mkB (miS n d l) (d * l.length)) := by show _ ∧ _; simp [mdV, mdB, hg, hzd]
      unfold askB at hg
      rw [Bool.and_eq_true] at hg
      obtain ⟨hgr, ht⟩ := hg
      have hl := rnn_len hgr
      have hti := (timB_iff n d).1 ht
      have HBD := Lib.hid (miS_bound hgr ht)
      have HKB : Hid (∀ k, k < l.length → 0 ≤ (l.getD k (0, 0)).1 * d ∧ (l.getD k (0, 0)).1 * d ≤ 1000000 ∧ -9000000 ≤ (l.getD k (0, 0)).2 * n ∧ (l.getD k (0, 0)).2 * n ≤ 9000000) := fun k hk => key_bound (N := n) (D := d) hti.1 hti.2.1 hti.2.2.1 hti.2.2.2.1 (rnn_one hgr hk)
      have hden : d * (l.length : Int) ≤ 1000 * 12 := Int.mul_le_mul hti.2.2.2.1 (by omega) (by omega) (by omega)
      have hden0 : 0 < d * (l.length : Int) := Int.mul_pos (by omega) (by omega)
      have hwd : IntKind.i64.wrap (d * (l.length : Int)) = d * (l.length : Int) := IntWalk.i64_in _ (by omega)
      have hmb := miS_bound hgr ht l.length (Nat.le_refl _)
      rw [List.take_length] at hmb
      have HMK := Lib.hid (fun w => make_any (miS n d l) (d * l.length) w hden0 (by omega) (by omega) (by omega))
      clear hgr ht hti hden hden0 hmb hzd
      go_enter Try.func52, Try.ntmps52
      go_wp2_with fail
      refine (HG.out _ HA.out).mono ?_
      rintro e w1 ⟨rfl, hb⟩
      have C0 : w1.cell? ⟨w.heap.size, 0, none⟩ = some (.int .i64 n) := by rw [hb.cell (p := ⟨w.heap.size, 0, none⟩) (by simp; omega)]; simp [go_sem]
      have C1 : w1.cell? ⟨w.heap.size, 1, none⟩ = some (.int .i64 d) := by rw [hb.cell (p := ⟨w.heap.size, 1, none⟩) (by simp; omega)]; simp [go_sem]
      have C0 := Lib.hid C0
      have C1 := Lib.hid C1
      have HR1 := Lib.hid (HR0.out.below hb)
      have HA1 := Lib.hid (HA.out.below hb)
      have HB := Lib.hid (HB0.out.trans (hb.mono (by simp; omega)))
      clear hb
      go_wp2
      go_loopw [6, 21] (fun s i wr => ∃ k : Nat, k ≤ l.length ∧ i = .int .i64 k ∧ s = .int .i64 (miS n d (l.take k)) ∧ Below w1.heap.size w1 wr) (fun _ i _ => l.length - (intOf i).toNat)
      case atStart => exact ⟨0, Nat.zero_le _, rfl, rfl, Below.refl _ _⟩
      case round =>
        obtain ⟨k, hk, rfl, rfl, hbr⟩ := hrel
        have HBr := Lib.hid hbr
        have HAr := Lib.hid (HA1.out.below hbr)
        have c0 := Below.cell_some hbr C0.out
        have c1 := Below.cell_some hbr C1.out
        have hsl : w.heap.size < wr.heap.size := World.block_lt_of_cell? _ _ c0
        have HRr := Lib.hid (HR1.out.below hbr)
        clear hbr
        by_cases hlt : k < l.length
        · obtain ⟨b, off, rfl, l0, hc⟩ := HAr.out.at_ hlt
          obtain ⟨a0, a1⟩ := hc k hlt
          have hkb := HKB.out k hlt
          have hbd := HBD.out k hk
          have hm := miS_snoc n d l k hlt
          clear hc
          generalize l.getD k (0, 0) = x at *
          obtain ⟨x1, x2⟩ := x
          simp only at a0 a1 hm hkb
          have HM := Lib.hid hm
          clear hm
          generalize miS n d (l.take k) = s at *
          have hw1 : IntKind.i64.wrap (x1 * d) = x1 * d := IntWalk.i64_in _ (by omega)
          have hw2 : IntKind.i64.wrap (x2 * n) = x2 * n := IntWalk.i64_in _ (by omega)
          have hw3 : IntKind.i64.wrap (x1 * d + x2 * n) = x1 * d + x2 * n := IntWalk.i64_in _ (by omega)
          have hw4 : IntKind.i64.wrap (s + (x1 * d + x2 * n)) = s + (x1 * d + x2 * n) := IntWalk.i64_in _ (by omega)
          clear hkb hbd
          go_wp2
          go_roundw
          case rel => exact ⟨k + 1, by omega, by go_num, by rw [HM.out], HBr.out.alloc HBr.out.size _⟩
          case measure => simp [intOf]; omega
        · obtain rfl : k = l.length := by omega
          have hmt : l.take l.length = l := List.take_length
          go_wp2_with fail
          refine (HMK.out _).mono ?_
          rintro e w5 ⟨rfl, hb5⟩
          obtain ⟨s3, r0, r1, f0, f1⟩ := (HRr.out.below hb5).parts
          have HB5 := Lib.hid ((HB.out.trans (HBr.out.mono HB.out.size)).trans (hb5.mono (by omega)))
          clear hb5
          go_wp2
          exact bodyPost_ret (v := .tuple #[.agg #[.int .i64 (mkV (miS n d l) (d * l.length)).1, .int .i64 (mkV (miS n d l) (d * l.length)).2], .bool (mkB (miS n d l) (d * l.length))]) (by simp [results, Try.results52, go_sem, r0, r1]) rfl ⟨ret_mb (by rw [HV.out.1]) (by rw [HV.out.1]) HV.out.2.symm, (HB5.out.setCell (by simp) _).setCell (by simp) _⟩
set_option maxRecDepth 100000 in
set_option maxHeartbeats 2000000 in
theorem implMiddleAt_any (A : Option Addr) (c : Nat) (l : List (Int × Int)) (n d : Int) (w : World) (hA : AntsAt w A l) :
    Calls Try.prog 53 #[.slice A l.length c, .agg #[.int .i64 n, .int .i64 d]] w fun e w' => e = .returned (.tuple #[.agg #[.int .i64 (mdV l n d).1, .int .i64 (mdV l n d).2], .bool (mdB l n d)]) ∧ Below w.heap.size w w' := by
  have HA := Lib.hid ((hA.alloc (Obj.cells #[Value.int IntKind.i64 n, Value.int IntKind.i64 d] 32)).alloc (Obj.cells #[Value.int IntKind.i64 0, Value.int IntKind.i64 0] 32))
  clear hA
  have HB0 := Lib.hid (((Below.refl _ w).alloc (Nat.le_refl _) (Obj.cells #[Value.int IntKind.i64 n, Value.int IntKind.i64 d] 32)).alloc (by simp) (Obj.cells #[Value.int IntKind.i64 0, Value.int IntKind.i64 0] 32))
  have HR0 := Lib.hid (RZ.start2 w (Obj.cells #[Value.int IntKind.i64 n, Value.int IntKind.i64 d] 32) 32)
  cases hg : rnnB l with
  | false =>
    have HV : Hid (mdV l n d = (0, 0) ∧ mdB l n d = false) := by show _ ∧ _; simp [mdV, mdB, askB, hg]
    have HG := Lib.hid (areRunners_at A c l false hg)
    clear hg
    go_enter Try.func53, Try.ntmps53
    go_wp2_with fail
    refine (HG.out _ HA.out).mono ?_
    rintro e w1 ⟨rfl, hb⟩
    obtain ⟨s3, r0, r1, f0, f1⟩ := (HR0.out.below hb).parts
    have HB := Lib.hid (HB0.out.trans (hb.mono (by simp; omega)))
    clear hb
    go_wp2
    exact bodyPost_ret (v := .tuple #[.agg #[.int .i64 0, .int .i64 0], .bool false]) (by simp [results, Try.results53, go_sem, r0, r1]) rfl ⟨ret_mb (by rw [HV.out.1]) (by rw [HV.out.1]) HV.out.2.symm, (HB.out.setCell (by simp) _).setCell (by simp) _⟩
  | true =>
    have HG := Lib.hid (areRunners_at A c l true hg)
    cases htt : timB n d with
    | false =>
      have HV : Hid (mdV l n d = (0, 0) ∧ mdB l n d = false) := by show _ ∧ _; simp [mdV, mdB, askB, htt]
      have HT := Lib.hid (isTime_at n d false htt)
      clear hg htt
      go_enter Try.func53, Try.ntmps53
      go_wp2_with fail
      refine (HG.out _ HA.out).mono ?_
      rintro e w0 ⟨rfl, hb⟩
      have c0 : w0.cell? ⟨w.heap.size, 0, none⟩ = some (.int .i64 n) := by rw [hb.cell (p := ⟨w.heap.size, 0, none⟩) (by simp; omega)]; simp [go_sem]
      have c1 : w0.cell? ⟨w.heap.size, 1, none⟩ = some (.int .i64 d) := by rw [hb.cell (p := ⟨w.heap.size, 1, none⟩) (by simp; omega)]; simp [go_sem]
      have HR1 := Lib.hid (HR0.out.below hb)
      have HB1 := Lib.hid (HB0.out.trans (hb.mono (by simp; omega)))
      clear hb
      go_wp2_with fail
      refine (HT.out _).mono ?_
      rintro e w1 ⟨rfl, hb⟩
      obtain ⟨s3, r0, r1, f0, f1⟩ := (HR1.out.below hb).parts
      have HB := Lib.hid (HB1.out.trans (hb.mono HB1.out.size))
      clear hb
      go_wp2
      exact bodyPost_ret (v := .tuple #[.agg #[.int .i64 0, .int .i64 0], .bool false]) (by simp [results, Try.results53, go_sem, r0, r1]) rfl ⟨ret_mb (by rw [HV.out.1]) (by rw [HV.out.1]) HV.out.2.symm, (HB.out.setCell (by simp) _).setCell (by simp) _⟩
    | true =>
      have HT := Lib.hid (isTime_at n d true htt)
      by_cases hz : l.length = 0
      · have HV : Hid (mdV l n d = (0, 0) ∧ mdB l n d = false) := by show _ ∧ _; simp [mdV, mdB, hz]
        have hzb : ((l.length : Int) == 0) = true := by rw [hz]; rfl
        clear hg htt hz
        go_enter Try.func53, Try.ntmps53
        go_wp2_with fail
        refine (HG.out _ HA.out).mono ?_
        rintro e w0 ⟨rfl, hb⟩
        have c0 : w0.cell? ⟨w.heap.size, 0, none⟩ = some (.int .i64 n) := by rw [hb.cell (p := ⟨w.heap.size, 0, none⟩) (by simp; omega)]; simp [go_sem]
        have c1 : w0.cell? ⟨w.heap.size, 1, none⟩ = some (.int .i64 d) := by rw [hb.cell (p := ⟨w.heap.size, 1, none⟩) (by simp; omega)]; simp [go_sem]
        have HR1 := Lib.hid (HR0.out.below hb)
        have HB1 := Lib.hid (HB0.out.trans (hb.mono (by simp; omega)))
        clear hb
        go_wp2_with fail
        refine (HT.out _).mono ?_
        rintro e w1 ⟨rfl, hb⟩
        obtain ⟨s3, r0, r1, f0, f1⟩ := (HR1.out.below hb).parts
        have HB := Lib.hid (HB1.out.trans (hb.mono HB1.out.size))
        clear hb
        go_wp2
        exact bodyPost_ret (v := .tuple #[.agg #[.int .i64 0, .int .i64 0], .bool false]) (by simp [results, Try.results53, go_sem, r0, r1]) rfl ⟨ret_mb (by rw [HV.out.1]) (by rw [HV.out.1]) HV.out.2.symm, (HB.out.setCell (by simp) _).setCell (by simp) _⟩
      · have hzb : ((l.length : Int) == 0) = false := beq_eq_false_iff_ne.2 (by omega)
        have hzd : decide (0 < l.length) = true := decide_eq_true (by omega)
        have HV : Hid (mdV l n d = mkV (miS n d l) (d * l.length) ∧ mdB l n d = mkB (miS n d l) (d * l.length)) := by show _ ∧ _; simp [mdV, mdB, askB, hg, htt, hzd]
        have hgr := hg
        have ht := htt
        have hl := rnn_len hgr
        have hti := (timB_iff n d).1 ht
        have HBD := Lib.hid (miS_bound hgr ht)
        have HKB : Hid (∀ k, k < l.length → 0 ≤ (l.getD k (0, 0)).1 * d ∧ (l.getD k (0, 0)).1 * d ≤ 1000000 ∧ -9000000 ≤ (l.getD k (0, 0)).2 * n ∧ (l.getD k (0, 0)).2 * n ≤ 9000000) := fun k hk => key_bound (N := n) (D := d) hti.1 hti.2.1 hti.2.2.1 hti.2.2.2.1 (rnn_one hgr hk)
        have hden : d * (l.length : Int) ≤ 1000 * 12 := Int.mul_le_mul hti.2.2.2.1 (by omega) (by omega) (by omega)
        have hden0 : 0 < d * (l.length : Int) := Int.mul_pos (by omega) (by omega)
        have hwd : IntKind.i64.wrap (d * (l.length : Int)) = d * (l.length : Int) := IntWalk.i64_in _ (by omega)
        have hmb := miS_bound hgr ht l.length (Nat.le_refl _)
        rw [List.take_length] at hmb
        have HLW := Lib.hid (fun w => lowest_any (miS n d l) (d * l.length) w hden0 (by omega) (by omega) (by omega))
        have HBB : Hid (mkB (miS n d l) (d * l.length) = momB (lowP (miS n d l) (d * l.length)).1 (lowP (miS n d l) (d * l.length)).2) := rfl
        have HVV : Hid (mkV (miS n d l) (d * l.length) = if mkB (miS n d l) (d * l.length) then ((lowP (miS n d l) (d * l.length)).1, (lowP (miS n d l) (d * l.length)).2) else (0, 0)) := rfl
        clear hgr ht hti hden hden0 hmb hzd hg htt
        go_enter Try.func53, Try.ntmps53
        go_wp2_with fail
        refine (HG.out _ HA.out).mono ?_
        rintro e w0 ⟨rfl, hb⟩
        have c0 : w0.cell? ⟨w.heap.size, 0, none⟩ = some (.int .i64 n) := by rw [hb.cell (p := ⟨w.heap.size, 0, none⟩) (by simp; omega)]; simp [go_sem]
        have c1 : w0.cell? ⟨w.heap.size, 1, none⟩ = some (.int .i64 d) := by rw [hb.cell (p := ⟨w.heap.size, 1, none⟩) (by simp; omega)]; simp [go_sem]
        have HR0' := Lib.hid (HR0.out.below hb)
        have HA0 := Lib.hid (HA.out.below hb)
        have HB1 := Lib.hid (HB0.out.trans (hb.mono (by simp; omega)))
        clear hb
        go_wp2_with fail
        refine (HT.out _).mono ?_
        rintro e w1 ⟨rfl, hb⟩
        have C0 := Lib.hid (Below.cell_some hb c0)
        have C1 := Lib.hid (Below.cell_some hb c1)
        have HR1 := Lib.hid (HR0'.out.below hb)
        have HA1 := Lib.hid (HA0.out.below hb)
        have HB := Lib.hid (HB1.out.trans (hb.mono HB1.out.size))
        clear hb c0 c1
        go_wp2
        go_loopw [6, 26] (fun s i wr => ∃ k : Nat, k ≤ l.length ∧ i = .int .i64 k ∧ s = .int .i64 (miS n d (l.take k)) ∧ Below w1.heap.size w1 wr) (fun _ i _ => l.length - (intOf i).toNat)
        case atStart => exact ⟨0, Nat.zero_le _, rfl, rfl, Below.refl _ _⟩
        case round =>
          obtain ⟨k, hk, rfl, rfl, hbr⟩ := hrel
          have HBr := Lib.hid hbr
          have HAr := Lib.hid (HA1.out.below hbr)
          have c0 := Below.cell_some hbr C0.out
          have c1 := Below.cell_some hbr C1.out
          have hsl : w.heap.size < wr.heap.size := World.block_lt_of_cell? _ _ c0
          have HRr := Lib.hid (HR1.out.below hbr)
          clear hbr
          by_cases hlt : k < l.length
          · obtain ⟨b, off, rfl, l0, hc⟩ := HAr.out.at_ hlt
            obtain ⟨a0, a1⟩ := hc k hlt
            have hkb := HKB.out k hlt
            have hbd := HBD.out k hk
            have hm := miS_snoc n d l k hlt
            clear hc
            generalize l.getD k (0, 0) = x at *
            obtain ⟨x1, x2⟩ := x
            simp only at a0 a1 hm hkb
            have HM := Lib.hid hm
            clear hm
            generalize miS n d (l.take k) = s at *
            have hw1 : IntKind.i64.wrap (x1 * d) = x1 * d := IntWalk.i64_in _ (by omega)
            have hw2 : IntKind.i64.wrap (x2 * n) = x2 * n := IntWalk.i64_in _ (by omega)
            have hw3 : IntKind.i64.wrap (x1 * d + x2 * n) = x1 * d + x2 * n := IntWalk.i64_in _ (by omega)
            have hw4 : IntKind.i64.wrap (s + (x1 * d + x2 * n)) = s + (x1 * d + x2 * n) := IntWalk.i64_in _ (by omega)
            clear hkb hbd
            go_wp2
            go_roundw
            case rel => exact ⟨k + 1, by omega, by go_num, by rw [HM.out], HBr.out.alloc HBr.out.size _⟩
            case measure => simp [intOf]; omega
          · obtain rfl : k = l.length := by omega
            have hmt : l.take l.length = l := List.take_length
            go_wp2_with fail
            refine (HLW.out _).mono ?_
            rintro e w5 ⟨rfl, hb5⟩
            have HR5 := Lib.hid (HRr.out.below hb5)
            have HB5 := Lib.hid ((HB.out.trans (HBr.out.mono HB.out.size)).trans (hb5.mono (by have := HB.out.size; have := HBr.out.size; omega)))
            clear hb5
            generalize (lowP (miS n d l) (d * l.length)).1 = a at *
            generalize (lowP (miS n d l) (d * l.length)).2 = b at *
            generalize mkV (miS n d l) (d * l.length) = V at *
            generalize mkB (miS n d l) (d * l.length) = R at *
            cases R with
            | false =>
              have HM := Lib.hid (isMoment_at a b false HBB.out.symm)
              have HV2 : Hid (V = (0, 0)) := by show _ = _; rw [HVV.out]; rfl
              go_wp2_with fail
              refine (HM.out _).mono ?_
              rintro e w6 ⟨rfl, hb6⟩
              have hb56 : Below w5.heap.size w5 w6 := ((Below.refl _ w5).alloc (Nat.le_refl _) _).trans (hb6.mono (by simp))
              obtain ⟨s3, r0, r1, f0, f1⟩ := (HR5.out.below hb56).parts
              have HB6 := Lib.hid (HB5.out.trans (hb56.mono HB5.out.size))
              clear hb6 hb56
              go_wp2
              exact bodyPost_ret (v := .tuple #[.agg #[.int .i64 0, .int .i64 0], .bool false]) (by simp [results, Try.results53, go_sem, r0, r1]) rfl ⟨ret_mb (by rw [HV.out.1, HV2.out]) (by rw [HV.out.1, HV2.out]) HV.out.2.symm, (HB6.out.setCell (by simp) _).setCell (by simp) _⟩
            | true =>
              have HM := Lib.hid (isMoment_at a b true HBB.out.symm)
              have HV2 : Hid (V = (a, b)) := by show _ = _; rw [HVV.out]; rfl
              go_wp2_with fail
              refine (HM.out _).mono ?_
              rintro e w6 ⟨rfl, hb6⟩
              have e0 : w6.cell? ⟨w5.heap.size, 0, none⟩ = some (.int .i64 a) := by rw [hb6.cell (p := ⟨w5.heap.size, 0, none⟩) (by simp)]; simp [go_sem]
              have e1 : w6.cell? ⟨w5.heap.size, 1, none⟩ = some (.int .i64 b) := by rw [hb6.cell (p := ⟨w5.heap.size, 1, none⟩) (by simp)]; simp [go_sem]
              have hb56 : Below w5.heap.size w5 w6 := ((Below.refl _ w5).alloc (Nat.le_refl _) _).trans (hb6.mono (by simp))
              have s5 : w.heap.size + 1 < w5.heap.size := HR5.out.lt
              obtain ⟨s3, r0, r1, f0, f1⟩ := (HR5.out.below hb56).parts
              have HB6 := Lib.hid (HB5.out.trans (hb56.mono HB5.out.size))
              clear hb6 hb56
              go_wp2
              exact bodyPost_ret (v := .tuple #[.agg #[.int .i64 a, .int .i64 b], .bool true]) (by simp [results, Try.results53, go_sem, r0, r1]) rfl ⟨ret_mb (by rw [HV.out.1, HV2.out]) (by rw [HV.out.1, HV2.out]) HV.out.2.symm, (HB6.out.setCell (by simp) _).setCell (by simp) _⟩
end Go.Proofs.Ytlepdphdflpoaaa
