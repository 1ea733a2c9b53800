/- The program's LooksSameAfter and ComesBackAfter. -/
import Derived.Test.YtdoikeglaolipaaSameM
import Derived.Test.YtdoikeglaolipaaCrewQ
import Derived.WalkMore
import Derived.ScopeJumps
import Derived.Deep.MidRow
import Derived.Deep.CutRange
namespace Go.Proofs.Ytdoikeglaolipaa
open Go.RowKit

/-- a scope with one label that is jumped back to: a state for each pass -/
theorem wp_scope_st {P : Program} {a : Act} {w : World} {Q : Exit → Act → World → Prop} {c rest : Code} (lb : Nat) (St : Nat → Act → World → Prop) (v : Nat) (tm : Act → Nat) (hf : findLabel c lb = some (Code.skip.seq rest)) (htm : ∀ j a w, St j a w → tm a = j) (hv : 0 < v)
    (pass : ∀ j a w, j < v → St j a w → rest.wp P (Exit.jump lb (fun a' w' => j + 1 < v ∧ St (j + 1) a' w') Q) a w)
    (first : (∀ a w, St 0 a w → rest.wp P (Exit.jump lb (fun a w => ∃ j, j < v ∧ St j a w) Q) a w) → c.wp P (Exit.jump lb (fun a w => ∃ j, j < v ∧ St j a w) Q) a w) : (Code.scope c).wp P Q a w := by
  refine wp_scope_jumps lb (fun a w => ∃ j, j < v ∧ St j a w) (fun a _ => v - tm a) hf (first fun a w h => ?_) ?_
  · refine Code.wp_mono ?_ (pass 0 a w hv h)
    intro e a' w' he
    cases e with
    | goto l' => exact ⟨he.1, 1, he.2.1, he.2.2⟩
    | _ => exact he
  · rintro a w ⟨j, hj, h⟩
    refine wp_seq (wp_skip (show Code.wp P _ _ a w from Code.wp_mono ?_ (pass j a w hj h)))
    intro e a' w' he
    cases e with
    | goto l' =>
      refine ⟨he.1, ⟨j + 1, he.2.1, he.2.2⟩, ?_⟩
      have h1 := htm _ _ _ h
      have h2 := htm _ _ _ he.2.2
      simp only [h1, h2]
      omega
    | _ => exact he

def lsR (L : Int) (l : List (Int × Int)) : Int := if ciB L l then 2 * (lsN L l : Int) else 0
def cbR (L : Int) (l : List (Int × Int)) : Int := if ciB L l then 2 * (cbN L l : Int) else 0
theorem range_row {w : World} {g : Nat} {t : TypeId} {cs : List Value} (h : w.heap[g]? = some (.cells cs.toArray t (0, 0))) : w.rangeAt g 0 cs := fun j v hv => by
  rw [Nat.zero_add, cell_of_row w g j _ _ _ h]
  simpa using hv

/-- passOn and then crewOf, wherever memory has grown between them -/
theorem passCrew (L : Int) (A : Option Addr) (c : Nat) (l : List (Int × Int)) (T : Nat) (hg : ciB L l = true) (hT : T ≤ 20000) : ∀ Y : World, AntsAt Y A l → Calls Try.prog 44 #[.int .i64 T] Y fun e w3 => ∃ b, e = .returned (.func (.func 62) #[] #[.pointer (some ⟨b, 0, none⟩)]) ∧ (∀ W, Below w3.heap.size w3 W → Calls Try.prog 53 #[.agg #[.int .i64 L, .slice A l.length c], .func (.func 62) #[] #[.pointer (some ⟨b, 0, none⟩)]] W fun e w' => e = .returned (.agg (crewV (caV L l T)).toArray) ∧ Below W.heap.size W w') ∧ Below Y.heap.size Y w3 := fun Y hY => by
  obtain ⟨hL0, hL1, _, hl16⟩ := ciB_len hg
  have HW : ∀ x ∈ l, 0 ≤ x.1 ∧ x.1 ≤ L - 2 ∧ (x.2 = -1 ∨ x.2 = 1) := fun x hx => by
    obtain ⟨k, hk, rfl⟩ := List.mem_iff_getElem.1 hx
    exact ciB_way hg (List.getElem?_eq_getElem hk)
  refine (passOn_any T Y).mono ?_
  rintro e w3 ⟨rfl, hw3⟩
  have hcp : w3.cell? ⟨Y.heap.size, 0, none⟩ = some (.int .i64 T) := by rw [hw3]; simp
  have hb : Below Y.heap.size Y w3 := by rw [hw3]; exact (Below.refl _ _).alloc (Nat.le_refl _) _
  have hs3e : w3.heap.size = Y.heap.size + 1 := by rw [hw3]; simp
  refine ⟨_, rfl, fun W0 hW0 => ?_, hb⟩
  have hs0 := hW0.size
  exact crewOf_any 62 #[.pointer (some ⟨Y.heap.size, 0, none⟩)] (pmF T) L A c l W0 (enters_of Try.func62 (by kernel_rfl) rfl) hl16 (by omega) (by omega)
    (fun x hx => by
      have h := HW x hx
      unfold pmF
      rcases h.2.2 with e | e <;> rw [e] <;> constructor <;> simp only <;> omega)
    (fun x hx W hW => by
      have h := HW x hx
      exact passM_any Y.heap.size T x W (by rw [(hW0.trans (hW.mono hs0)).cell (p := ⟨Y.heap.size, 0, none⟩) (by simp only; omega)]; exact hcp) (by omega) (by omega) h.2.2) ((hY.below hb).below hW0)

def stLs (w : World) (L : Int) (A : Option Addr) (c : Nat) (l : List (Int × Int)) (j : Nat) (a : Act) (x : World) : Prop :=
  ∃ (g : Nat) (u6 u7 u8 u9 u10 u11 u12 u13 u14 u15 u16 u17 u18 u19 u20 : Value), a = { tmps := #[.agg #[.int .i64 L, .slice A l.length c], .pointer (some ⟨w.heap.size, 0, none⟩), .int .i64 0, .bool false, .pointer (some ⟨g, 0, none⟩), .int .i64 (2 * (j : Int)), u6, u7, u8, u9, u10, u11, u12, u13, u14, u15, u16, u17, u18, u19, u20], defers := [] } ∧
    x.heap[g]? = some (.cells (crewV l).toArray 61 (0, 0)) ∧ x.cell? ⟨w.heap.size, 0, none⟩ = some (.int .i64 L) ∧ x.cell? ⟨w.heap.size, 1, none⟩ = some (.slice A l.length c) ∧ Below w.heap.size w x

set_option maxRecDepth 100000 in
set_option maxHeartbeats 2000000 in
theorem implLooksSameAfter_any (L : Int) (A : Option Addr) (c : Nat) (l : List (Int × Int)) (w : World) (hA : AntsAt w A l) :
    Calls Try.prog 26 #[.agg #[.int .i64 L, .slice A l.length c]] w fun e w' => e = .returned (.tuple #[.int .i64 (lsR L l), .bool (ciB L l)]) ∧ Below w.heap.size w w' := by
  have HAW := Lib.hid hA
  obtain ⟨X, hX⟩ : ∃ X, X = w.alloc (Obj.cells #[Value.int IntKind.i64 L, Value.slice A l.length c] 28) := ⟨_, rfl⟩
  have HB0 : Hid (Below w.heap.size w X) := by show Below _ _ _; rw [hX]; exact (Below.refl _ w).alloc (Nat.le_refl _) _
  have hs0 : X.heap.size = w.heap.size + 1 := by rw [hX]; simp
  have c0 : X.cell? ⟨w.heap.size, 0, none⟩ = some (.int .i64 L) := by rw [hX]; simp
  have c1 : X.cell? ⟨w.heap.size, 1, none⟩ = some (.slice A l.length c) := by rw [hX]; simp
  have HA := Lib.hid (hA.below HB0.out)
  have HG : Hid (∀ w, AntsAt w A l → Calls Try.prog 41 #[.agg #[.int .i64 L, .slice A l.length c]] w fun e w' => e = .returned (.bool (ciB L l)) ∧ Below w.heap.size w w') := fun w h => isCircle_any L A c l w h
  clear hA
  cases hg : ciB L l with
  | false =>
    have HV : Hid (lsR L l = 0) := by show _ = _; simp [lsR, hg]
    rw [hg] at HG
    clear hg
    rw [HV.out]
    go_enter Try.func26, Try.ntmps26
    go_wp2
    go_step3
    go_wp2_with fail
    generalize hQ : World.alloc w _ = X1
    obtain rfl : X1 = X := by rw [hX, ← hQ]
    clear hQ hX
    refine (HG.out _ HA.out).mono ?_
    rintro e w1 ⟨rfl, hb⟩
    have HB := Lib.hid (HB0.out.trans (hb.mono HB0.out.size))
    clear hb
    go_wp2
    rw [Exit.noGoto_ret]
    go_ret2
    exact ⟨rfl, HB.out⟩
  | true =>
    obtain ⟨v1, v2, v3, v4⟩ := ls_spec hg
    obtain ⟨hL0, hL1, _, hl16⟩ := ciB_len hg
    have HV : Hid (lsR L l = 2 * (lsN L l : Int)) := by show _ = _; simp [lsR, hg]
    have HP0 := Lib.hid (passCrew L A c l 0 hg (by omega))
    have HPT := Lib.hid (fun T hT => passCrew L A c l T hg hT)
    have HCL : Hid (∀ t : Int, (caV L l t).length = l.length) := fun t => by unfold caV; rw [srtA_len, List.length_map]
    have HC0 : Hid (caV L l ((0 : Nat) : Int) = l) := by
      have := round_same hg 0
      rw [Int.zero_mul] at this
      exact this
    have HNQ : Hid (∀ (t : Nat) (w : World), (binOp .neq 61 (.agg (crewV (caV L l t)).toArray) (.agg (crewV l).toArray)).run Try.prog w = .ok (.bool (!decide (caV L l t = l))) w) := fun t w => crew_neq _ _ (by rw [HCL.out]; exact hl16) hl16 (HCL.out _) w
    have H3 := Lib.hid v3
    have H4 := Lib.hid v4
    rw [hg] at HG
    rw [HV.out]
    clear hg v3 v4
    generalize hvv : lsN L l = v at *
    clear hvv
    have SZ : (Try.prog.info? 61).map (·.size) = some (crewV l).toArray.size := by rw [List.size_toArray, crew_length l hl16]; exact crewSiz
    go_enter Try.func26, Try.ntmps26
    go_wp2
    refine wp_scope_st 0 (stLs w L A c l) v (fun a => (intOf (a.tmps.getD 5 undef)).toNat / 2) rfl ?_ (by omega) ?_ ?_
    · rintro j a x ⟨g, u6, u7, u8, u9, u10, u11, u12, u13, u14, u15, u16, u17, u18, u19, u20, rfl, _⟩
      simp [intOf]
      omega
    · rintro j a x hj ⟨g, u6, u7, u8, u9, u10, u11, u12, u13, u14, u15, u16, u17, u18, u19, u20, rfl, hrow, d0, d1, hbx⟩
      have HBX := Lib.hid hbx
      have HRW := Lib.hid hrow
      have HAX := Lib.hid (HAW.out.below hbx)
      have eT : ((2 * (j + 1) : Nat) : Int) = 2 * (j : Int) + 2 := by push_cast; omega
      have hq := HPT.out (2 * (j + 1)) (by omega)
      have hnq := HNQ.out (2 * (j + 1))
      have hsame : sameP L l (j + 1) = decide (caV L l ((2 * (j + 1) : Nat) : Int) = l) := rfl
      rw [eT] at hq hnq hsame
      have HQ := Lib.hid hq
      have hw2 : IntKind.i64.wrap (2 * (j : Int) + 2) = 2 * (j : Int) + 2 := IntWalk.i64_in _ (by omega)
      have f0 : x.drew.cell? ⟨w.heap.size, 0, none⟩ = some (.int .i64 L) := d0
      have f1 : x.drew.cell? ⟨w.heap.size, 1, none⟩ = some (.slice A l.length c) := d1
      have fr : x.drew.rangeAt g 0 (crewV l) := range_row (w := x.drew) hrow
      have HAD : Hid (AntsAt x.drew A l) := HAX.out.below ((Below.refl _ x).drew)
      have HBD : Hid (Below x.heap.size x x.drew) := (Below.refl _ x).drew
      have hgl := (Array.getElem?_eq_some_iff.1 hrow).1
      have hu := Try.underlying61
      have hsz : (Try.prog.info? 61).map (·.size) = some (crewV l).length := by rw [crew_length l hl16]; exact crewSiz
      clear hrow hbx hq eT
      rw [← hsame] at hnq
      generalize hT2 : caV L l (2 * (j : Int) + 2) = R at *
      clear hT2
      cases hsm : sameP L l (j + 1) with
      | true =>
        have hjv : v = j + 1 := by
          refine Classical.byContradiction fun hn => ?_
          have h1 := H4.out (j + 1) (by omega) (by omega)
          rw [hsm] at h1
          cases h1
        rw [hsm] at hnq
        go_wp2
        go_region_held3 (fun w' => w'.cell? ⟨w.heap.size, 0, none⟩ = some (.int .i64 L) ∧ w'.cell? ⟨w.heap.size, 1, none⟩ = some (.slice A l.length c) ∧ w'.rangeAt g 0 (crewV l))
          (first | exact ⟨f0, f1, fr⟩ | exact ⟨k0, k1, kr⟩ | exact ⟨q0, q1, qr⟩ | go_keep)
          (first
            | (go_at_call 44; refine (HQ.out _ HAD.out).mono ?_; rintro e w3 ⟨b, rfl, hcf, hb⟩; have k0 := Below.cell_some hb f0; have k1 := Below.cell_some hb f1; have kr : w3.rangeAt g 0 (crewV l) := (fun i v hv => Below.cell_some hb (fr i v hv)); have HCF := Lib.hid hcf; have HBB := Lib.hid (HBD.out.trans (hb.mono HBD.out.size)); clear hcf hb)
            | (go_at_call 53; refine (HCF.out _ (Below.refl _ _)).mono ?_; rintro e w4 ⟨rfl, hb⟩; have q0 := Below.cell_some hb k0; have q1 := Below.cell_some hb k1; have qr : w4.rangeAt g 0 (crewV l) := (fun i v hv => Below.cell_some hb (kr i v hv)); have HB4 := Lib.hid (HBB.out.trans (hb.mono HBB.out.size)); clear hb))
        all_goals (
          go_wp2
          simp only [Exit.jump]
          go_ret2
          exact ⟨ret_ib (by rw [hjv]; push_cast; omega) rfl, HBX.out.trans (HB4.out.mono HBX.out.size)⟩)
      | false =>
        have hjv : j + 1 < v := by
          refine Classical.byContradiction fun hn => ?_
          have : v = j + 1 := by omega
          have h1 := H3.out
          rw [this, hsm] at h1
          cases h1
        rw [hsm] at hnq
        go_wp2
        go_region_held3 (fun w' => w'.cell? ⟨w.heap.size, 0, none⟩ = some (.int .i64 L) ∧ w'.cell? ⟨w.heap.size, 1, none⟩ = some (.slice A l.length c) ∧ w'.rangeAt g 0 (crewV l))
          (first | exact ⟨f0, f1, fr⟩ | exact ⟨k0, k1, kr⟩ | exact ⟨q0, q1, qr⟩ | go_keep)
          (first
            | (go_at_call 44; refine (HQ.out _ HAD.out).mono ?_; rintro e w3 ⟨b, rfl, hcf, hb⟩; have k0 := Below.cell_some hb f0; have k1 := Below.cell_some hb f1; have kr : w3.rangeAt g 0 (crewV l) := (fun i v hv => Below.cell_some hb (fr i v hv)); have HCF := Lib.hid hcf; have HBB := Lib.hid (HBD.out.trans (hb.mono HBD.out.size)); clear hcf hb)
            | (go_at_call 53; refine (HCF.out _ (Below.refl _ _)).mono ?_; rintro e w4 ⟨rfl, hb⟩; have q0 := Below.cell_some hb k0; have q1 := Below.cell_some hb k1; have qr : w4.rangeAt g 0 (crewV l) := (fun i v hv => Below.cell_some hb (kr i v hv)); have HB4 := Lib.hid (HBB.out.trans (hb.mono HBB.out.size)); clear hb))
        all_goals (
          go_wp2
          go_step3
          exact ⟨rfl, hjv, g, _, _, _, _, _, _, _, _, _, _, _, _, _, _, _, rfl, (HB4.out.block g hgl).trans HRW.out, q0, q1, HBX.out.trans (HB4.out.mono HBX.out.size)⟩)
    · intro hnext
      go_wp2_with fail
      generalize hQ : World.alloc w _ = X1
      obtain rfl : X1 = X := by rw [hX, ← hQ]
      clear hQ hX
      refine (HG.out _ HA.out).mono ?_
      rintro e w1 ⟨rfl, hb⟩
      have HB1 := Lib.hid (HB0.out.trans (hb.mono HB0.out.size))
      have c0 := Below.cell_some hb c0
      have c1 := Below.cell_some hb c1
      have HA1 := Lib.hid (HA.out.below hb)
      have hsw : w.heap.size < w1.heap.size := by have := hb.size; omega
      clear hb
      have HP : Hid (∀ Y : World, AntsAt Y A l → Calls Try.prog 44 #[.int .i64 0] Y fun e w3 => ∃ b, e = .returned (.func (.func 62) #[] #[.pointer (some ⟨b, 0, none⟩)]) ∧ (∀ W, Below w3.heap.size w3 W → Calls Try.prog 53 #[.agg #[.int .i64 L, .slice A l.length c], .func (.func 62) #[] #[.pointer (some ⟨b, 0, none⟩)]] W fun e w' => e = .returned (.agg (crewV l).toArray) ∧ Below W.heap.size W w') ∧ Below Y.heap.size Y w3) := by
        have hp := HP0.out
        rw [HC0.out] at hp
        exact hp
      clear HP0 HPT HNQ HCL HC0
      obtain ⟨M, hM⟩ : ∃ M, M = crewV l := ⟨_, rfl⟩
      rw [← hM] at HP SZ
      have HMQ := Lib.hid hM
      clear hM
      have hszm : (Try.prog.info? 61).map (·.size) = some M.length := by simpa using SZ
      have honem : ∀ v ∈ M, v.oneCell' = true := by rw [HMQ.out]; exact crew_one l
      have HSZM : Hid ((Try.prog.info? 61).map (·.size) = some M.toArray.size) := SZ
      have HALLM : Hid (M.toArray.all (·.oneCell') = true) := by show _ = _; rw [HMQ.out, List.all_toArray]; exact List.all_eq_true.2 (crew_one _)
      have SE : Hid ((crewV []).toArray.size = M.toArray.size) := by show _ = _; rw [HMQ.out, List.size_toArray, List.size_toArray, crew_length l hl16, crew_length [] (by simp)]
      clear SZ
      go_upto_region 3 with fail
      obtain ⟨X1, rfl⟩ : ∃ W, W = w1 := ⟨_, rfl⟩
      have HAd : Hid (AntsAt X1.drew A l) := HA1.out.below ((Below.refl _ X1).drew)
      have HAz : Hid (AntsAt (X1.alloc (Obj.cells #[Value.int IntKind.i64 0, Value.int IntKind.i64 0, Value.int IntKind.i64 0, Value.int IntKind.i64 0, Value.int IntKind.i64 0, Value.int IntKind.i64 0, Value.int IntKind.i64 0, Value.int IntKind.i64 0, Value.int IntKind.i64 0, Value.int IntKind.i64 0, Value.int IntKind.i64 0, Value.int IntKind.i64 0, Value.int IntKind.i64 0, Value.int IntKind.i64 0, Value.int IntKind.i64 0, Value.int IntKind.i64 0, Value.int IntKind.i64 0, Value.int IntKind.i64 0, Value.int IntKind.i64 0, Value.int IntKind.i64 0, Value.int IntKind.i64 0, Value.int IntKind.i64 0, Value.int IntKind.i64 0, Value.int IntKind.i64 0, Value.int IntKind.i64 0, Value.int IntKind.i64 0, Value.int IntKind.i64 0, Value.int IntKind.i64 0, Value.int IntKind.i64 0, Value.int IntKind.i64 0, Value.int IntKind.i64 0, Value.int IntKind.i64 0] 61)).drew A l) := HA1.out.below (((Below.refl _ X1).alloc (Nat.le_refl _) _).drew)
      have HBd : Hid (Below X1.heap.size X1 X1.drew) := (Below.refl _ X1).drew
      have HBz : Hid (Below X1.heap.size X1 (X1.alloc (Obj.cells #[Value.int IntKind.i64 0, Value.int IntKind.i64 0, Value.int IntKind.i64 0, Value.int IntKind.i64 0, Value.int IntKind.i64 0, Value.int IntKind.i64 0, Value.int IntKind.i64 0, Value.int IntKind.i64 0, Value.int IntKind.i64 0, Value.int IntKind.i64 0, Value.int IntKind.i64 0, Value.int IntKind.i64 0, Value.int IntKind.i64 0, Value.int IntKind.i64 0, Value.int IntKind.i64 0, Value.int IntKind.i64 0, Value.int IntKind.i64 0, Value.int IntKind.i64 0, Value.int IntKind.i64 0, Value.int IntKind.i64 0, Value.int IntKind.i64 0, Value.int IntKind.i64 0, Value.int IntKind.i64 0, Value.int IntKind.i64 0, Value.int IntKind.i64 0, Value.int IntKind.i64 0, Value.int IntKind.i64 0, Value.int IntKind.i64 0, Value.int IntKind.i64 0, Value.int IntKind.i64 0, Value.int IntKind.i64 0, Value.int IntKind.i64 0] 61)).drew) := ((Below.refl _ X1).alloc (Nat.le_refl _) _).drew
      have HRz : Hid ((X1.alloc (Obj.cells #[Value.int IntKind.i64 0, Value.int IntKind.i64 0, Value.int IntKind.i64 0, Value.int IntKind.i64 0, Value.int IntKind.i64 0, Value.int IntKind.i64 0, Value.int IntKind.i64 0, Value.int IntKind.i64 0, Value.int IntKind.i64 0, Value.int IntKind.i64 0, Value.int IntKind.i64 0, Value.int IntKind.i64 0, Value.int IntKind.i64 0, Value.int IntKind.i64 0, Value.int IntKind.i64 0, Value.int IntKind.i64 0, Value.int IntKind.i64 0, Value.int IntKind.i64 0, Value.int IntKind.i64 0, Value.int IntKind.i64 0, Value.int IntKind.i64 0, Value.int IntKind.i64 0, Value.int IntKind.i64 0, Value.int IntKind.i64 0, Value.int IntKind.i64 0, Value.int IntKind.i64 0, Value.int IntKind.i64 0, Value.int IntKind.i64 0, Value.int IntKind.i64 0, Value.int IntKind.i64 0, Value.int IntKind.i64 0, Value.int IntKind.i64 0] 61)).drew.heap[X1.heap.size]? = some (.cells (crewV []).toArray 61 (0, 0))) := heap_new (w := X1) rfl
      have cD0 : X1.drew.cell? ⟨w.heap.size, 0, none⟩ = some (.int .i64 L) := c0
      have cD1 : X1.drew.cell? ⟨w.heap.size, 1, none⟩ = some (.slice A l.length c) := c1
      have cZ0 : (X1.alloc (Obj.cells #[Value.int IntKind.i64 0, Value.int IntKind.i64 0, Value.int IntKind.i64 0, Value.int IntKind.i64 0, Value.int IntKind.i64 0, Value.int IntKind.i64 0, Value.int IntKind.i64 0, Value.int IntKind.i64 0, Value.int IntKind.i64 0, Value.int IntKind.i64 0, Value.int IntKind.i64 0, Value.int IntKind.i64 0, Value.int IntKind.i64 0, Value.int IntKind.i64 0, Value.int IntKind.i64 0, Value.int IntKind.i64 0, Value.int IntKind.i64 0, Value.int IntKind.i64 0, Value.int IntKind.i64 0, Value.int IntKind.i64 0, Value.int IntKind.i64 0, Value.int IntKind.i64 0, Value.int IntKind.i64 0, Value.int IntKind.i64 0, Value.int IntKind.i64 0, Value.int IntKind.i64 0, Value.int IntKind.i64 0, Value.int IntKind.i64 0, Value.int IntKind.i64 0, Value.int IntKind.i64 0, Value.int IntKind.i64 0, Value.int IntKind.i64 0] 61)).drew.cell? ⟨w.heap.size, 0, none⟩ = some (.int .i64 L) := alloc_some c0 _
      have cZ1 : (X1.alloc (Obj.cells #[Value.int IntKind.i64 0, Value.int IntKind.i64 0, Value.int IntKind.i64 0, Value.int IntKind.i64 0, Value.int IntKind.i64 0, Value.int IntKind.i64 0, Value.int IntKind.i64 0, Value.int IntKind.i64 0, Value.int IntKind.i64 0, Value.int IntKind.i64 0, Value.int IntKind.i64 0, Value.int IntKind.i64 0, Value.int IntKind.i64 0, Value.int IntKind.i64 0, Value.int IntKind.i64 0, Value.int IntKind.i64 0, Value.int IntKind.i64 0, Value.int IntKind.i64 0, Value.int IntKind.i64 0, Value.int IntKind.i64 0, Value.int IntKind.i64 0, Value.int IntKind.i64 0, Value.int IntKind.i64 0, Value.int IntKind.i64 0, Value.int IntKind.i64 0, Value.int IntKind.i64 0, Value.int IntKind.i64 0, Value.int IntKind.i64 0, Value.int IntKind.i64 0, Value.int IntKind.i64 0, Value.int IntKind.i64 0, Value.int IntKind.i64 0] 61)).drew.cell? ⟨w.heap.size, 1, none⟩ = some (.slice A l.length c) := alloc_some c1 _
      go_cut [4] from 9 to 11 (fun p wx => ∃ g : Nat, p = .pointer (some ⟨g, 0, none⟩) ∧ X1.heap.size ≤ g ∧ wx.heap[g]? = some (.cells M.toArray 61 (0, 0)) ∧ Below X1.heap.size X1 wx)
      case first =>
        go_region_held3 (fun w' => w'.cell? ⟨w.heap.size, 0, none⟩ = some (.int .i64 L) ∧ w'.cell? ⟨w.heap.size, 1, none⟩ = some (.slice A l.length c))
          (first | exact ⟨n0, n1⟩ | exact ⟨q0, q1⟩ | exact ⟨k0, k1⟩ | exact ⟨cD0, cD1⟩ | exact ⟨cZ0, cZ1⟩ | exact ⟨alloc_some q0 _, alloc_some q1 _⟩ | exact ⟨alloc_some k0 _, alloc_some k1 _⟩ | go_keep)
          (first
            | (go_at_call 44; refine (HP.out _ HAd.out).mono ?_; rintro e w3 ⟨b, rfl, hcf, hb⟩; have k0 := Below.cell_some hb cD0; have k1 := Below.cell_some hb cD1; have HCF := Lib.hid hcf; have HBB := Lib.hid (HBd.out.trans (hb.mono HBd.out.size)); clear hcf hb)
            | (go_at_call 44; refine (HP.out _ HAz.out).mono ?_; rintro e w3 ⟨b, rfl, hcf, hb⟩; have k0 := Below.cell_some hb cZ0; have k1 := Below.cell_some hb cZ1; have HCF := Lib.hid hcf; have HBB := Lib.hid (HBz.out.trans (hb.mono HBz.out.size)); have HR3 := Lib.hid ((hb.block X1.heap.size (Array.getElem?_eq_some_iff.1 HRz.out).1).trans HRz.out); clear hcf hb)
            | (go_at_call 53; have _h0 := HR3.out; refine (HCF.out _ (Below.refl _ _)).mono ?_; rintro e w4 ⟨rfl, hb⟩; have q0 := Below.cell_some hb k0; have q1 := Below.cell_some hb k1; have HROW : Hid (w4.heap[X1.heap.size]? = some (.cells (crewV []).toArray 61 (0, 0))) := (hb.block X1.heap.size (Array.getElem?_eq_some_iff.1 HR3.out).1).trans HR3.out; have HGE : Hid (X1.heap.size ≤ X1.heap.size) := Nat.le_refl _; have HB5 : Hid (Below X1.heap.size X1 w4) := (HBB.out.trans (hb.mono HBB.out.size)); have hst := there_row w4 X1.heap.size _ _ M.toArray HROW.out SE.out; have HSC := Lib.hid (setCells_setRow (P := Try.prog) w4 X1.heap.size 61 61 (crewV []).toArray M HROW.out HSZM.out SE.out HALLM.out); have HFIN : Hid ((w4.setCells X1.heap.size 0 M).heap[X1.heap.size]? = some (.cells M.toArray 61 (0, 0))) := (by show _ = _; rw [HSC.out]; exact setRow_heap w4 X1.heap.size _ M.toArray _ _ HROW.out); have HBF : Hid (Below X1.heap.size X1 (w4.setCells X1.heap.size 0 M)) := (by show Below _ _ _; rw [HSC.out]; exact HB5.out.grown (row := some X1.heap.size) ⟨rfl, rfl, rfl, by simp [World.setRow], fun k _ hk => setRow_other w4 _ k _ (fun e => hk (by rw [e]))⟩ HB5.out.size (fun g hg => by injection hg with hg; rw [← hg]; exact HGE.out)); have n0 : (w4.setCells X1.heap.size 0 M).cell? ⟨w.heap.size, 0, none⟩ = some (.int .i64 L) := (by rw [HSC.out]; exact (cell_setRow_other w4 X1.heap.size M.toArray ⟨w.heap.size, 0, none⟩ (Nat.ne_of_lt (Nat.lt_of_lt_of_le hsw HGE.out))).trans q0); have n1 : (w4.setCells X1.heap.size 0 M).cell? ⟨w.heap.size, 1, none⟩ = some (.slice A l.length c) := (by rw [HSC.out]; exact (cell_setRow_other w4 X1.heap.size M.toArray ⟨w.heap.size, 1, none⟩ (Nat.ne_of_lt (Nat.lt_of_lt_of_le hsw HGE.out))).trans q1); clear hb)
            | (go_at_call 53; refine (HCF.out _ ((Below.refl _ w3).alloc (Nat.le_refl _) (Obj.cells #[Value.int IntKind.i64 0, Value.int IntKind.i64 0, Value.int IntKind.i64 0, Value.int IntKind.i64 0, Value.int IntKind.i64 0, Value.int IntKind.i64 0, Value.int IntKind.i64 0, Value.int IntKind.i64 0, Value.int IntKind.i64 0, Value.int IntKind.i64 0, Value.int IntKind.i64 0, Value.int IntKind.i64 0, Value.int IntKind.i64 0, Value.int IntKind.i64 0, Value.int IntKind.i64 0, Value.int IntKind.i64 0, Value.int IntKind.i64 0, Value.int IntKind.i64 0, Value.int IntKind.i64 0, Value.int IntKind.i64 0, Value.int IntKind.i64 0, Value.int IntKind.i64 0, Value.int IntKind.i64 0, Value.int IntKind.i64 0, Value.int IntKind.i64 0, Value.int IntKind.i64 0, Value.int IntKind.i64 0, Value.int IntKind.i64 0, Value.int IntKind.i64 0, Value.int IntKind.i64 0, Value.int IntKind.i64 0, Value.int IntKind.i64 0] 61))).mono ?_; rintro e w4 ⟨rfl, hb⟩; have hb3 := ((Below.refl w3.heap.size w3).alloc (Nat.le_refl _) (Obj.cells #[Value.int IntKind.i64 0, Value.int IntKind.i64 0, Value.int IntKind.i64 0, Value.int IntKind.i64 0, Value.int IntKind.i64 0, Value.int IntKind.i64 0, Value.int IntKind.i64 0, Value.int IntKind.i64 0, Value.int IntKind.i64 0, Value.int IntKind.i64 0, Value.int IntKind.i64 0, Value.int IntKind.i64 0, Value.int IntKind.i64 0, Value.int IntKind.i64 0, Value.int IntKind.i64 0, Value.int IntKind.i64 0, Value.int IntKind.i64 0, Value.int IntKind.i64 0, Value.int IntKind.i64 0, Value.int IntKind.i64 0, Value.int IntKind.i64 0, Value.int IntKind.i64 0, Value.int IntKind.i64 0, Value.int IntKind.i64 0, Value.int IntKind.i64 0, Value.int IntKind.i64 0, Value.int IntKind.i64 0, Value.int IntKind.i64 0, Value.int IntKind.i64 0, Value.int IntKind.i64 0, Value.int IntKind.i64 0, Value.int IntKind.i64 0] 61)).trans (hb.mono ((Below.refl w3.heap.size w3).alloc (Nat.le_refl _) (Obj.cells #[Value.int IntKind.i64 0, Value.int IntKind.i64 0, Value.int IntKind.i64 0, Value.int IntKind.i64 0, Value.int IntKind.i64 0, Value.int IntKind.i64 0, Value.int IntKind.i64 0, Value.int IntKind.i64 0, Value.int IntKind.i64 0, Value.int IntKind.i64 0, Value.int IntKind.i64 0, Value.int IntKind.i64 0, Value.int IntKind.i64 0, Value.int IntKind.i64 0, Value.int IntKind.i64 0, Value.int IntKind.i64 0, Value.int IntKind.i64 0, Value.int IntKind.i64 0, Value.int IntKind.i64 0, Value.int IntKind.i64 0, Value.int IntKind.i64 0, Value.int IntKind.i64 0, Value.int IntKind.i64 0, Value.int IntKind.i64 0, Value.int IntKind.i64 0, Value.int IntKind.i64 0, Value.int IntKind.i64 0, Value.int IntKind.i64 0, Value.int IntKind.i64 0, Value.int IntKind.i64 0, Value.int IntKind.i64 0, Value.int IntKind.i64 0] 61)).size); have q0 := Below.cell_some hb3 k0; have q1 := Below.cell_some hb3 k1; have HROW : Hid (w4.heap[w3.heap.size]? = some (.cells (crewV []).toArray 61 (0, 0))) := (hb.block w3.heap.size (by simp)).trans (heap_new (w := w3) (o := Obj.cells #[Value.int IntKind.i64 0, Value.int IntKind.i64 0, Value.int IntKind.i64 0, Value.int IntKind.i64 0, Value.int IntKind.i64 0, Value.int IntKind.i64 0, Value.int IntKind.i64 0, Value.int IntKind.i64 0, Value.int IntKind.i64 0, Value.int IntKind.i64 0, Value.int IntKind.i64 0, Value.int IntKind.i64 0, Value.int IntKind.i64 0, Value.int IntKind.i64 0, Value.int IntKind.i64 0, Value.int IntKind.i64 0, Value.int IntKind.i64 0, Value.int IntKind.i64 0, Value.int IntKind.i64 0, Value.int IntKind.i64 0, Value.int IntKind.i64 0, Value.int IntKind.i64 0, Value.int IntKind.i64 0, Value.int IntKind.i64 0, Value.int IntKind.i64 0, Value.int IntKind.i64 0, Value.int IntKind.i64 0, Value.int IntKind.i64 0, Value.int IntKind.i64 0, Value.int IntKind.i64 0, Value.int IntKind.i64 0, Value.int IntKind.i64 0] 61) rfl); have HGE : Hid (X1.heap.size ≤ w3.heap.size) := HBB.out.size; have HB5 : Hid (Below X1.heap.size X1 w4) := (HBB.out.trans (hb3.mono HBB.out.size)); have hst := there_row w4 w3.heap.size _ _ M.toArray HROW.out SE.out; have HSC := Lib.hid (setCells_setRow (P := Try.prog) w4 w3.heap.size 61 61 (crewV []).toArray M HROW.out HSZM.out SE.out HALLM.out); have HFIN : Hid ((w4.setCells w3.heap.size 0 M).heap[w3.heap.size]? = some (.cells M.toArray 61 (0, 0))) := (by show _ = _; rw [HSC.out]; exact setRow_heap w4 w3.heap.size _ M.toArray _ _ HROW.out); have HBF : Hid (Below X1.heap.size X1 (w4.setCells w3.heap.size 0 M)) := (by show Below _ _ _; rw [HSC.out]; exact HB5.out.grown (row := some w3.heap.size) ⟨rfl, rfl, rfl, by simp [World.setRow], fun k _ hk => setRow_other w4 _ k _ (fun e => hk (by rw [e]))⟩ HB5.out.size (fun g hg => by injection hg with hg; rw [← hg]; exact HGE.out)); have n0 : (w4.setCells w3.heap.size 0 M).cell? ⟨w.heap.size, 0, none⟩ = some (.int .i64 L) := (by rw [HSC.out]; exact (cell_setRow_other w4 w3.heap.size M.toArray ⟨w.heap.size, 0, none⟩ (Nat.ne_of_lt (Nat.lt_of_lt_of_le hsw HGE.out))).trans q0); have n1 : (w4.setCells w3.heap.size 0 M).cell? ⟨w.heap.size, 1, none⟩ = some (.slice A l.length c) := (by rw [HSC.out]; exact (cell_setRow_other w4 w3.heap.size M.toArray ⟨w.heap.size, 1, none⟩ (Nat.ne_of_lt (Nat.lt_of_lt_of_le hsw HGE.out))).trans q1); clear hb3 hb)
            | (go_at_call 53; refine (HCF.out _ (Below.refl _ _)).mono ?_; rintro e w4 ⟨rfl, hb⟩; have q0 := Below.cell_some hb k0; have q1 := Below.cell_some hb k1; have HROW : Hid ((w4.alloc (Obj.cells #[Value.int IntKind.i64 0, Value.int IntKind.i64 0, Value.int IntKind.i64 0, Value.int IntKind.i64 0, Value.int IntKind.i64 0, Value.int IntKind.i64 0, Value.int IntKind.i64 0, Value.int IntKind.i64 0, Value.int IntKind.i64 0, Value.int IntKind.i64 0, Value.int IntKind.i64 0, Value.int IntKind.i64 0, Value.int IntKind.i64 0, Value.int IntKind.i64 0, Value.int IntKind.i64 0, Value.int IntKind.i64 0, Value.int IntKind.i64 0, Value.int IntKind.i64 0, Value.int IntKind.i64 0, Value.int IntKind.i64 0, Value.int IntKind.i64 0, Value.int IntKind.i64 0, Value.int IntKind.i64 0, Value.int IntKind.i64 0, Value.int IntKind.i64 0, Value.int IntKind.i64 0, Value.int IntKind.i64 0, Value.int IntKind.i64 0, Value.int IntKind.i64 0, Value.int IntKind.i64 0, Value.int IntKind.i64 0, Value.int IntKind.i64 0] 61)).heap[w4.heap.size]? = some (.cells (crewV []).toArray 61 (0, 0))) := heap_new (w := w4) (o := Obj.cells #[Value.int IntKind.i64 0, Value.int IntKind.i64 0, Value.int IntKind.i64 0, Value.int IntKind.i64 0, Value.int IntKind.i64 0, Value.int IntKind.i64 0, Value.int IntKind.i64 0, Value.int IntKind.i64 0, Value.int IntKind.i64 0, Value.int IntKind.i64 0, Value.int IntKind.i64 0, Value.int IntKind.i64 0, Value.int IntKind.i64 0, Value.int IntKind.i64 0, Value.int IntKind.i64 0, Value.int IntKind.i64 0, Value.int IntKind.i64 0, Value.int IntKind.i64 0, Value.int IntKind.i64 0, Value.int IntKind.i64 0, Value.int IntKind.i64 0, Value.int IntKind.i64 0, Value.int IntKind.i64 0, Value.int IntKind.i64 0, Value.int IntKind.i64 0, Value.int IntKind.i64 0, Value.int IntKind.i64 0, Value.int IntKind.i64 0, Value.int IntKind.i64 0, Value.int IntKind.i64 0, Value.int IntKind.i64 0, Value.int IntKind.i64 0] 61) rfl; have HGE : Hid (X1.heap.size ≤ w4.heap.size) := (HBB.out.trans (hb.mono HBB.out.size)).size; have HB5 : Hid (Below X1.heap.size X1 (w4.alloc (Obj.cells #[Value.int IntKind.i64 0, Value.int IntKind.i64 0, Value.int IntKind.i64 0, Value.int IntKind.i64 0, Value.int IntKind.i64 0, Value.int IntKind.i64 0, Value.int IntKind.i64 0, Value.int IntKind.i64 0, Value.int IntKind.i64 0, Value.int IntKind.i64 0, Value.int IntKind.i64 0, Value.int IntKind.i64 0, Value.int IntKind.i64 0, Value.int IntKind.i64 0, Value.int IntKind.i64 0, Value.int IntKind.i64 0, Value.int IntKind.i64 0, Value.int IntKind.i64 0, Value.int IntKind.i64 0, Value.int IntKind.i64 0, Value.int IntKind.i64 0, Value.int IntKind.i64 0, Value.int IntKind.i64 0, Value.int IntKind.i64 0, Value.int IntKind.i64 0, Value.int IntKind.i64 0, Value.int IntKind.i64 0, Value.int IntKind.i64 0, Value.int IntKind.i64 0, Value.int IntKind.i64 0, Value.int IntKind.i64 0, Value.int IntKind.i64 0] 61))) := ((HBB.out.trans (hb.mono HBB.out.size)).alloc ((HBB.out.trans (hb.mono HBB.out.size)).size) (Obj.cells #[Value.int IntKind.i64 0, Value.int IntKind.i64 0, Value.int IntKind.i64 0, Value.int IntKind.i64 0, Value.int IntKind.i64 0, Value.int IntKind.i64 0, Value.int IntKind.i64 0, Value.int IntKind.i64 0, Value.int IntKind.i64 0, Value.int IntKind.i64 0, Value.int IntKind.i64 0, Value.int IntKind.i64 0, Value.int IntKind.i64 0, Value.int IntKind.i64 0, Value.int IntKind.i64 0, Value.int IntKind.i64 0, Value.int IntKind.i64 0, Value.int IntKind.i64 0, Value.int IntKind.i64 0, Value.int IntKind.i64 0, Value.int IntKind.i64 0, Value.int IntKind.i64 0, Value.int IntKind.i64 0, Value.int IntKind.i64 0, Value.int IntKind.i64 0, Value.int IntKind.i64 0, Value.int IntKind.i64 0, Value.int IntKind.i64 0, Value.int IntKind.i64 0, Value.int IntKind.i64 0, Value.int IntKind.i64 0, Value.int IntKind.i64 0] 61)); have hst := there_row (w4.alloc (Obj.cells #[Value.int IntKind.i64 0, Value.int IntKind.i64 0, Value.int IntKind.i64 0, Value.int IntKind.i64 0, Value.int IntKind.i64 0, Value.int IntKind.i64 0, Value.int IntKind.i64 0, Value.int IntKind.i64 0, Value.int IntKind.i64 0, Value.int IntKind.i64 0, Value.int IntKind.i64 0, Value.int IntKind.i64 0, Value.int IntKind.i64 0, Value.int IntKind.i64 0, Value.int IntKind.i64 0, Value.int IntKind.i64 0, Value.int IntKind.i64 0, Value.int IntKind.i64 0, Value.int IntKind.i64 0, Value.int IntKind.i64 0, Value.int IntKind.i64 0, Value.int IntKind.i64 0, Value.int IntKind.i64 0, Value.int IntKind.i64 0, Value.int IntKind.i64 0, Value.int IntKind.i64 0, Value.int IntKind.i64 0, Value.int IntKind.i64 0, Value.int IntKind.i64 0, Value.int IntKind.i64 0, Value.int IntKind.i64 0, Value.int IntKind.i64 0] 61)) w4.heap.size _ _ M.toArray HROW.out SE.out; have HSC := Lib.hid (setCells_setRow (P := Try.prog) (w4.alloc (Obj.cells #[Value.int IntKind.i64 0, Value.int IntKind.i64 0, Value.int IntKind.i64 0, Value.int IntKind.i64 0, Value.int IntKind.i64 0, Value.int IntKind.i64 0, Value.int IntKind.i64 0, Value.int IntKind.i64 0, Value.int IntKind.i64 0, Value.int IntKind.i64 0, Value.int IntKind.i64 0, Value.int IntKind.i64 0, Value.int IntKind.i64 0, Value.int IntKind.i64 0, Value.int IntKind.i64 0, Value.int IntKind.i64 0, Value.int IntKind.i64 0, Value.int IntKind.i64 0, Value.int IntKind.i64 0, Value.int IntKind.i64 0, Value.int IntKind.i64 0, Value.int IntKind.i64 0, Value.int IntKind.i64 0, Value.int IntKind.i64 0, Value.int IntKind.i64 0, Value.int IntKind.i64 0, Value.int IntKind.i64 0, Value.int IntKind.i64 0, Value.int IntKind.i64 0, Value.int IntKind.i64 0, Value.int IntKind.i64 0, Value.int IntKind.i64 0] 61)) w4.heap.size 61 61 (crewV []).toArray M HROW.out HSZM.out SE.out HALLM.out); have HFIN : Hid (((w4.alloc (Obj.cells #[Value.int IntKind.i64 0, Value.int IntKind.i64 0, Value.int IntKind.i64 0, Value.int IntKind.i64 0, Value.int IntKind.i64 0, Value.int IntKind.i64 0, Value.int IntKind.i64 0, Value.int IntKind.i64 0, Value.int IntKind.i64 0, Value.int IntKind.i64 0, Value.int IntKind.i64 0, Value.int IntKind.i64 0, Value.int IntKind.i64 0, Value.int IntKind.i64 0, Value.int IntKind.i64 0, Value.int IntKind.i64 0, Value.int IntKind.i64 0, Value.int IntKind.i64 0, Value.int IntKind.i64 0, Value.int IntKind.i64 0, Value.int IntKind.i64 0, Value.int IntKind.i64 0, Value.int IntKind.i64 0, Value.int IntKind.i64 0, Value.int IntKind.i64 0, Value.int IntKind.i64 0, Value.int IntKind.i64 0, Value.int IntKind.i64 0, Value.int IntKind.i64 0, Value.int IntKind.i64 0, Value.int IntKind.i64 0, Value.int IntKind.i64 0] 61)).setCells w4.heap.size 0 M).heap[w4.heap.size]? = some (.cells M.toArray 61 (0, 0))) := (by show _ = _; rw [HSC.out]; exact setRow_heap (w4.alloc (Obj.cells #[Value.int IntKind.i64 0, Value.int IntKind.i64 0, Value.int IntKind.i64 0, Value.int IntKind.i64 0, Value.int IntKind.i64 0, Value.int IntKind.i64 0, Value.int IntKind.i64 0, Value.int IntKind.i64 0, Value.int IntKind.i64 0, Value.int IntKind.i64 0, Value.int IntKind.i64 0, Value.int IntKind.i64 0, Value.int IntKind.i64 0, Value.int IntKind.i64 0, Value.int IntKind.i64 0, Value.int IntKind.i64 0, Value.int IntKind.i64 0, Value.int IntKind.i64 0, Value.int IntKind.i64 0, Value.int IntKind.i64 0, Value.int IntKind.i64 0, Value.int IntKind.i64 0, Value.int IntKind.i64 0, Value.int IntKind.i64 0, Value.int IntKind.i64 0, Value.int IntKind.i64 0, Value.int IntKind.i64 0, Value.int IntKind.i64 0, Value.int IntKind.i64 0, Value.int IntKind.i64 0, Value.int IntKind.i64 0, Value.int IntKind.i64 0] 61)) w4.heap.size _ M.toArray _ _ HROW.out); have HBF : Hid (Below X1.heap.size X1 ((w4.alloc (Obj.cells #[Value.int IntKind.i64 0, Value.int IntKind.i64 0, Value.int IntKind.i64 0, Value.int IntKind.i64 0, Value.int IntKind.i64 0, Value.int IntKind.i64 0, Value.int IntKind.i64 0, Value.int IntKind.i64 0, Value.int IntKind.i64 0, Value.int IntKind.i64 0, Value.int IntKind.i64 0, Value.int IntKind.i64 0, Value.int IntKind.i64 0, Value.int IntKind.i64 0, Value.int IntKind.i64 0, Value.int IntKind.i64 0, Value.int IntKind.i64 0, Value.int IntKind.i64 0, Value.int IntKind.i64 0, Value.int IntKind.i64 0, Value.int IntKind.i64 0, Value.int IntKind.i64 0, Value.int IntKind.i64 0, Value.int IntKind.i64 0, Value.int IntKind.i64 0, Value.int IntKind.i64 0, Value.int IntKind.i64 0, Value.int IntKind.i64 0, Value.int IntKind.i64 0, Value.int IntKind.i64 0, Value.int IntKind.i64 0, Value.int IntKind.i64 0] 61)).setCells w4.heap.size 0 M)) := (by show Below _ _ _; rw [HSC.out]; exact HB5.out.grown (row := some w4.heap.size) ⟨rfl, rfl, rfl, by simp [World.setRow], fun k _ hk => setRow_other (w4.alloc (Obj.cells #[Value.int IntKind.i64 0, Value.int IntKind.i64 0, Value.int IntKind.i64 0, Value.int IntKind.i64 0, Value.int IntKind.i64 0, Value.int IntKind.i64 0, Value.int IntKind.i64 0, Value.int IntKind.i64 0, Value.int IntKind.i64 0, Value.int IntKind.i64 0, Value.int IntKind.i64 0, Value.int IntKind.i64 0, Value.int IntKind.i64 0, Value.int IntKind.i64 0, Value.int IntKind.i64 0, Value.int IntKind.i64 0, Value.int IntKind.i64 0, Value.int IntKind.i64 0, Value.int IntKind.i64 0, Value.int IntKind.i64 0, Value.int IntKind.i64 0, Value.int IntKind.i64 0, Value.int IntKind.i64 0, Value.int IntKind.i64 0, Value.int IntKind.i64 0, Value.int IntKind.i64 0, Value.int IntKind.i64 0, Value.int IntKind.i64 0, Value.int IntKind.i64 0, Value.int IntKind.i64 0, Value.int IntKind.i64 0, Value.int IntKind.i64 0] 61)) _ k _ (fun e => hk (by rw [e]))⟩ HB5.out.size (fun g hg => by injection hg with hg; rw [← hg]; exact HGE.out)); have n0 : ((w4.alloc (Obj.cells #[Value.int IntKind.i64 0, Value.int IntKind.i64 0, Value.int IntKind.i64 0, Value.int IntKind.i64 0, Value.int IntKind.i64 0, Value.int IntKind.i64 0, Value.int IntKind.i64 0, Value.int IntKind.i64 0, Value.int IntKind.i64 0, Value.int IntKind.i64 0, Value.int IntKind.i64 0, Value.int IntKind.i64 0, Value.int IntKind.i64 0, Value.int IntKind.i64 0, Value.int IntKind.i64 0, Value.int IntKind.i64 0, Value.int IntKind.i64 0, Value.int IntKind.i64 0, Value.int IntKind.i64 0, Value.int IntKind.i64 0, Value.int IntKind.i64 0, Value.int IntKind.i64 0, Value.int IntKind.i64 0, Value.int IntKind.i64 0, Value.int IntKind.i64 0, Value.int IntKind.i64 0, Value.int IntKind.i64 0, Value.int IntKind.i64 0, Value.int IntKind.i64 0, Value.int IntKind.i64 0, Value.int IntKind.i64 0, Value.int IntKind.i64 0] 61)).setCells w4.heap.size 0 M).cell? ⟨w.heap.size, 0, none⟩ = some (.int .i64 L) := (by rw [HSC.out]; exact (cell_setRow_other (w4.alloc (Obj.cells #[Value.int IntKind.i64 0, Value.int IntKind.i64 0, Value.int IntKind.i64 0, Value.int IntKind.i64 0, Value.int IntKind.i64 0, Value.int IntKind.i64 0, Value.int IntKind.i64 0, Value.int IntKind.i64 0, Value.int IntKind.i64 0, Value.int IntKind.i64 0, Value.int IntKind.i64 0, Value.int IntKind.i64 0, Value.int IntKind.i64 0, Value.int IntKind.i64 0, Value.int IntKind.i64 0, Value.int IntKind.i64 0, Value.int IntKind.i64 0, Value.int IntKind.i64 0, Value.int IntKind.i64 0, Value.int IntKind.i64 0, Value.int IntKind.i64 0, Value.int IntKind.i64 0, Value.int IntKind.i64 0, Value.int IntKind.i64 0, Value.int IntKind.i64 0, Value.int IntKind.i64 0, Value.int IntKind.i64 0, Value.int IntKind.i64 0, Value.int IntKind.i64 0, Value.int IntKind.i64 0, Value.int IntKind.i64 0, Value.int IntKind.i64 0] 61)) w4.heap.size M.toArray ⟨w.heap.size, 0, none⟩ (Nat.ne_of_lt (Nat.lt_of_lt_of_le hsw HGE.out))).trans (alloc_some q0 _)); have n1 : ((w4.alloc (Obj.cells #[Value.int IntKind.i64 0, Value.int IntKind.i64 0, Value.int IntKind.i64 0, Value.int IntKind.i64 0, Value.int IntKind.i64 0, Value.int IntKind.i64 0, Value.int IntKind.i64 0, Value.int IntKind.i64 0, Value.int IntKind.i64 0, Value.int IntKind.i64 0, Value.int IntKind.i64 0, Value.int IntKind.i64 0, Value.int IntKind.i64 0, Value.int IntKind.i64 0, Value.int IntKind.i64 0, Value.int IntKind.i64 0, Value.int IntKind.i64 0, Value.int IntKind.i64 0, Value.int IntKind.i64 0, Value.int IntKind.i64 0, Value.int IntKind.i64 0, Value.int IntKind.i64 0, Value.int IntKind.i64 0, Value.int IntKind.i64 0, Value.int IntKind.i64 0, Value.int IntKind.i64 0, Value.int IntKind.i64 0, Value.int IntKind.i64 0, Value.int IntKind.i64 0, Value.int IntKind.i64 0, Value.int IntKind.i64 0, Value.int IntKind.i64 0] 61)).setCells w4.heap.size 0 M).cell? ⟨w.heap.size, 1, none⟩ = some (.slice A l.length c) := (by rw [HSC.out]; exact (cell_setRow_other (w4.alloc (Obj.cells #[Value.int IntKind.i64 0, Value.int IntKind.i64 0, Value.int IntKind.i64 0, Value.int IntKind.i64 0, Value.int IntKind.i64 0, Value.int IntKind.i64 0, Value.int IntKind.i64 0, Value.int IntKind.i64 0, Value.int IntKind.i64 0, Value.int IntKind.i64 0, Value.int IntKind.i64 0, Value.int IntKind.i64 0, Value.int IntKind.i64 0, Value.int IntKind.i64 0, Value.int IntKind.i64 0, Value.int IntKind.i64 0, Value.int IntKind.i64 0, Value.int IntKind.i64 0, Value.int IntKind.i64 0, Value.int IntKind.i64 0, Value.int IntKind.i64 0, Value.int IntKind.i64 0, Value.int IntKind.i64 0, Value.int IntKind.i64 0, Value.int IntKind.i64 0, Value.int IntKind.i64 0, Value.int IntKind.i64 0, Value.int IntKind.i64 0, Value.int IntKind.i64 0, Value.int IntKind.i64 0, Value.int IntKind.i64 0, Value.int IntKind.i64 0] 61)) w4.heap.size M.toArray ⟨w.heap.size, 1, none⟩ (Nat.ne_of_lt (Nat.lt_of_lt_of_le hsw HGE.out))).trans (alloc_some q1 _)); clear hb))
        all_goals (
          go_wp2_with fail
          go_meet
          case rel => exact ⟨_, rfl, HGE.out, HFIN.out, HBF.out⟩)
      case rest =>
        obtain ⟨g, hp, hg1, hrow, hbx⟩ := hcut
        subst hp
        have c0 := Below.cell_some hbx c0
        have c1 := Below.cell_some hbx c1
        have HRR : Hid (wc.heap[g]? = some (.cells (crewV l).toArray 61 (0, 0))) := by show _ = _; rw [← HMQ.out]; exact hrow
        have HBC := Lib.hid (HB1.out.trans (hbx.mono HB1.out.size))
        clear hrow hbx
        go_wp2
        go_step3
        dsimp only [Exit.then]
        apply_assumption
        refine hnext _ _ ?_
        exact ⟨g, _, _, _, _, _, _, _, _, _, _, _, _, _, _, _, rfl, HRR.out, c0, c1, HBC.out⟩

def stCb (w : World) (L : Int) (A : Option Addr) (c : Nat) (l : List (Int × Int)) (s j : Nat) (a : Act) (x : World) : Prop :=
  ∃ (g : Nat) (u8 u9 u10 u11 u12 u13 u14 u15 u16 u17 u18 u19 u20 u21 u22 u23 u24 u25 : Value), a = { tmps := #[.agg #[.int .i64 L, .slice A l.length c], .pointer (some ⟨w.heap.size, 0, none⟩), .int .i64 0, .bool false, .int .i64 (2 * (s : Int)), .bool true, .pointer (some ⟨g, 0, none⟩), .int .i64 (2 * ((s * j : Nat) : Int)), u8, u9, u10, u11, u12, u13, u14, u15, u16, u17, u18, u19, u20, u21, u22, u23, u24, u25], defers := [] } ∧
    x.heap[g]? = some (.cells (crewV l).toArray 61 (0, 0)) ∧ x.cell? ⟨w.heap.size, 0, none⟩ = some (.int .i64 L) ∧ x.cell? ⟨w.heap.size, 1, none⟩ = some (.slice A l.length c) ∧ Below w.heap.size w x

set_option maxRecDepth 100000 in
set_option maxHeartbeats 2000000 in
theorem implComesBackAfter_any (L : Int) (A : Option Addr) (c : Nat) (l : List (Int × Int)) (w : World) (hA : AntsAt w A l) :
    Calls Try.prog 28 #[.agg #[.int .i64 L, .slice A l.length c]] w fun e w' => e = .returned (.tuple #[.int .i64 (cbR L l), .bool (ciB L l)]) ∧ Below w.heap.size w w' := by
  have HAW := Lib.hid hA
  obtain ⟨X, hX⟩ : ∃ X, X = w.alloc (Obj.cells #[Value.int IntKind.i64 L, Value.slice A l.length c] 28) := ⟨_, rfl⟩
  have HB0 : Hid (Below w.heap.size w X) := by show Below _ _ _; rw [hX]; exact (Below.refl _ w).alloc (Nat.le_refl _) _
  have hs0 : X.heap.size = w.heap.size + 1 := by rw [hX]; simp
  have c0 : X.cell? ⟨w.heap.size, 0, none⟩ = some (.int .i64 L) := by rw [hX]; simp
  have c1 : X.cell? ⟨w.heap.size, 1, none⟩ = some (.slice A l.length c) := by rw [hX]; simp
  have HA := Lib.hid (hA.below HB0.out)
  have HG : Hid (∀ w, AntsAt w A l → Calls Try.prog 26 #[.agg #[.int .i64 L, .slice A l.length c]] w fun e w' => e = .returned (.tuple #[.int .i64 (lsR L l), .bool (ciB L l)]) ∧ Below w.heap.size w w') := fun w h => implLooksSameAfter_any L A c l w h
  clear hA
  cases hg : ciB L l with
  | false =>
    have HV : Hid (cbR L l = 0) := by show _ = _; simp [cbR, hg]
    rw [hg] at HG
    clear hg
    rw [HV.out]
    generalize lsR L l = r at *
    go_enter Try.func28, Try.ntmps28
    go_wp2
    go_step3
    go_wp2_with fail
    generalize hQ : World.alloc w _ = X1
    obtain rfl : X1 = X := by rw [hX, ← hQ]
    clear hQ hX
    refine (HG.out _ HA.out).mono ?_
    rintro e w1 ⟨rfl, hb⟩
    have HB := Lib.hid (HB0.out.trans (hb.mono HB0.out.size))
    clear hb
    go_wp2
    rw [Exit.noGoto_ret]
    go_ret2
    exact ⟨rfl, HB.out⟩
  | true =>
    obtain ⟨q, hq0, hq1⟩ := back_mul hg
    obtain ⟨s1, s2, _, _⟩ := ls_spec hg
    obtain ⟨v1, v2, v3, v4⟩ := cb_spec hg
    obtain ⟨hL0, hL1, _, hl16⟩ := ciB_len hg
    have HV : Hid (cbR L l = 2 * ((lsN L l * q : Nat) : Int)) := by show _ = _; simp only [cbR, hg, if_true]; rw [hq0]
    have HLS : Hid (lsR L l = 2 * (lsN L l : Int)) := by show _ = _; simp [lsR, hg]
    have HCT : Hid (∀ (T : Nat) (W : World), T ≤ 20000 → AntsAt W A l → Calls Try.prog 45 #[.agg #[.int .i64 L, .slice A l.length c], .int .i64 T] W fun e w' => e = .returned (.agg (crewV (runC L l T).1).toArray) ∧ Below W.heap.size W w') := fun T W hT hW => crewAfter_any L A c l T W hg hT hW
    have HRL := Lib.hid (fun T => runC_len (circ_of hg) T)
    have HNQ : Hid (∀ (T : Nat) (w : World), (binOp .neq 61 (.agg (crewV (runC L l T).1).toArray) (.agg (crewV l).toArray)).run Try.prog w = .ok (.bool (!decide ((runC L l T).1 = l))) w) := fun T w => crew_neq _ _ (by rw [HRL.out]; exact hl16) hl16 (HRL.out _) w
    have H3 := Lib.hid v3
    have H4 := Lib.hid v4
    have HQ0 := Lib.hid hq0
    rw [hg, HLS.out] at HG
    rw [HV.out]
    clear hg v3 v4 hq0
    have hcb : cbN L l = lsN L l * q := HQ0.out
    generalize cbN L l = cb at *
    generalize lsN L l = s at *
    have SZ : (Try.prog.info? 61).map (·.size) = some (crewV l).toArray.size := by rw [List.size_toArray, crew_length l hl16]; exact crewSiz
    go_enter Try.func28, Try.ntmps28
    go_wp2
    refine wp_scope_st 0 (stCb w L A c l s) q (fun a => (intOf (a.tmps.getD 7 undef)).toNat / (2 * s)) rfl ?_ (by omega) ?_ ?_
    · rintro j a x ⟨g, u8, u9, u10, u11, u12, u13, u14, u15, u16, u17, u18, u19, u20, u21, u22, u23, u24, u25, rfl, _⟩
      show (2 * ((s * j : Nat) : Int)).toNat / (2 * s) = j
      have e : (2 * ((s * j : Nat) : Int)).toNat = 2 * s * j := by rw [Nat.mul_assoc]; omega
      rw [e, Nat.mul_div_cancel_left _ (by omega)]
    · rintro j a x hj ⟨g, u8, u9, u10, u11, u12, u13, u14, u15, u16, u17, u18, u19, u20, u21, u22, u23, u24, u25, rfl, hrow, d0, d1, hbx⟩
      have HBX := Lib.hid hbx
      have HRW := Lib.hid hrow
      have HAX := Lib.hid (HAW.out.below hbx)
      have hsj : s * (j + 1) = s * j + s := Nat.mul_succ s j
      generalize s * j = m at *
      have hsq : s * (j + 1) ≤ s * q := Nat.mul_le_mul_left s (by omega)
      have eT : ((2 * (s * (j + 1)) : Nat) : Int) = 2 * (m : Int) + 2 * (s : Int) := by rw [hsj]; push_cast; omega
      have hq := HCT.out (2 * (s * (j + 1)))
      have hnq := HNQ.out (2 * (s * (j + 1)))
      have hsame : backP L l (s * (j + 1)) = decide ((runC L l (2 * (s * (j + 1)))).1 = l) := rfl
      rw [eT] at hq
      have HQ := Lib.hid (fun W hW => hq W (by omega) hW)
      have hw2 : IntKind.i64.wrap (2 * (m : Int) + 2 * (s : Int)) = 2 * (m : Int) + 2 * (s : Int) := IntWalk.i64_in _ (by omega)
      have HEX : Hid (2 * (m : Int) + 2 * (s : Int) = 2 * ((s * (j + 1) : Nat) : Int)) := by show _ = _; rw [hsj]; push_cast; omega
      have HEQ : Hid (∀ i : Nat, q = i → 2 * ((s * i : Nat) : Int) = 2 * ((s * q : Nat) : Int)) := fun i h => by rw [h]
      have f0 : x.drew.cell? ⟨w.heap.size, 0, none⟩ = some (.int .i64 L) := d0
      have f1 : x.drew.cell? ⟨w.heap.size, 1, none⟩ = some (.slice A l.length c) := d1
      have fr : x.drew.rangeAt g 0 (crewV l) := range_row (w := x.drew) hrow
      have HAD : Hid (AntsAt x.drew A l) := HAX.out.below ((Below.refl _ x).drew)
      have HBD : Hid (Below x.heap.size x x.drew) := (Below.refl _ x).drew
      have hgl := (Array.getElem?_eq_some_iff.1 hrow).1
      have hu := Try.underlying61
      have hsz : (Try.prog.info? 61).map (·.size) = some (crewV l).length := by rw [crew_length l hl16]; exact crewSiz
      have HJ1 : Hid (backP L l (s * (j + 1)) = true → q = j + 1) := fun h => by
        refine Classical.byContradiction fun hn => ?_
        have hlt : s * (j + 1) < s * q := Nat.mul_lt_mul_of_pos_left (by omega) (by omega)
        have h1 := H4.out (s * (j + 1)) (by omega) (by omega)
        rw [h] at h1
        cases h1
      have HJ2 : Hid (backP L l (s * (j + 1)) = false → j + 1 < q) := fun h => by
        refine Classical.byContradiction fun hn => ?_
        have hqe : q = j + 1 := by omega
        have h1 := H3.out
        rw [hcb, hqe, h] at h1
        cases h1
      clear hrow hbx hq eT hsj hsq
      rw [← hsame] at hnq
      clear hsame
      generalize hT2 : (runC L l (2 * (s * (j + 1)))).1 = R at *
      clear hT2
      generalize backP L l (s * (j + 1)) = bk at *
      cases bk with
      | true =>
        have hjv := HJ1.out rfl
        go_wp2
        go_region_held3 (fun w' => w'.cell? ⟨w.heap.size, 0, none⟩ = some (.int .i64 L) ∧ w'.cell? ⟨w.heap.size, 1, none⟩ = some (.slice A l.length c) ∧ w'.rangeAt g 0 (crewV l))
          (first | exact ⟨f0, f1, fr⟩ | exact ⟨k0, k1, kr⟩ | go_keep)
          (first
            | (go_at_call 45; refine (HQ.out _ HAD.out).mono ?_; rintro e w4 ⟨rfl, hb⟩; have k0 := Below.cell_some hb f0; have k1 := Below.cell_some hb f1; have kr : w4.rangeAt g 0 (crewV l) := (fun i v hv => Below.cell_some hb (fr i v hv)); have HB4 := Lib.hid (HBD.out.trans (hb.mono HBD.out.size)); clear hb))
        all_goals (
          go_wp2
          simp only [Exit.jump]
          go_ret2
          exact ⟨ret_ib (HEX.out.trans (HEQ.out _ hjv)) rfl, HBX.out.trans (HB4.out.mono HBX.out.size)⟩)
      | false =>
        have hjv := HJ2.out rfl
        go_wp2
        go_region_held3 (fun w' => w'.cell? ⟨w.heap.size, 0, none⟩ = some (.int .i64 L) ∧ w'.cell? ⟨w.heap.size, 1, none⟩ = some (.slice A l.length c) ∧ w'.rangeAt g 0 (crewV l))
          (first | exact ⟨f0, f1, fr⟩ | exact ⟨k0, k1, kr⟩ | go_keep)
          (first
            | (go_at_call 45; refine (HQ.out _ HAD.out).mono ?_; rintro e w4 ⟨rfl, hb⟩; have k0 := Below.cell_some hb f0; have k1 := Below.cell_some hb f1; have kr : w4.rangeAt g 0 (crewV l) := (fun i v hv => Below.cell_some hb (fr i v hv)); have HB4 := Lib.hid (HBD.out.trans (hb.mono HBD.out.size)); clear hb))
        all_goals (
          go_wp2
          go_step3
          rw [HEX.out]
          exact ⟨rfl, hjv, g, _, _, _, _, _, _, _, _, _, _, _, _, _, _, _, _, _, _, rfl, (HB4.out.block g hgl).trans HRW.out, k0, k1, HBX.out.trans (HB4.out.mono HBX.out.size)⟩)
    · intro hnext
      go_wp2_with fail
      generalize hQ : World.alloc w _ = X1
      obtain rfl : X1 = X := by rw [hX, ← hQ]
      clear hQ hX
      refine (HG.out _ HA.out).mono ?_
      rintro e w1 ⟨rfl, hb⟩
      have HB1 := Lib.hid (HB0.out.trans (hb.mono HB0.out.size))
      have c0 := Below.cell_some hb c0
      have c1 := Below.cell_some hb c1
      have HA1 := Lib.hid (HA.out.below hb)
      clear hb
      have HC0 : Hid (Calls Try.prog 45 #[.agg #[.int .i64 L, .slice A l.length c], .int .i64 0] w1 fun e w' => e = .returned (.agg (crewV l).toArray) ∧ Below w1.heap.size w1 w') := HCT.out 0 w1 (by omega) HA1.out
      go_wp2_with fail
      refine HC0.out.mono ?_
      rintro e w3 ⟨rfl, hb⟩
      have HB3 := Lib.hid (HB1.out.trans (hb.mono HB1.out.size))
      have c0 := Below.cell_some hb c0
      have c1 := Below.cell_some hb c1
      clear hb HC0
      have HSZ : Hid ((Try.prog.info? 61).map (·.size) = some (crewV l).toArray.size) := SZ
      have HALL : Hid (((crewV l).toArray.all (·.oneCell')) = true) := by show _ = _; rw [List.all_toArray]; exact List.all_eq_true.2 (crew_one _)
      have HZL : Hid ((List.replicate 32 (Value.int .i64 0)).toArray.size = (crewV l).toArray.size) := by show _ = _; rw [List.size_toArray, List.size_toArray, crew_length l hl16]; simp
      obtain ⟨Y, hY⟩ : ∃ Y, Y = (w3.alloc (Obj.cells (List.replicate 32 (Value.int .i64 0)).toArray 61)).setRow w3.heap.size (crewV l).toArray := ⟨_, rfl⟩
      have hBY : Below w3.heap.size w3 Y := by
        rw [hY]
        refine ((Below.refl _ w3).alloc (Nat.le_refl _) _).grown (row := some w3.heap.size) ⟨rfl, rfl, rfl, by simp [World.setRow], fun k _ hk => setRow_other _ _ k _ (fun e => hk (by rw [e]))⟩ (by simp) (fun g hg => by injection hg with hg; omega)
      have HRY : Hid (Y.heap[w3.heap.size]? = some (.cells (crewV l).toArray 61 (0, 0))) := by show _ = _; rw [hY]; exact setRow_heap _ _ _ _ _ _ (heap_new rfl)
      have HRT : Hid ((w3.alloc (Obj.cells (List.replicate 32 (Value.int .i64 0)).toArray 61)).setRow w3.heap.size (crewV l).toArray = Y) := hY.symm
      have y0 := Below.cell_some hBY c0
      have y1 := Below.cell_some hBY c1
      have HB4 := Lib.hid (HB3.out.trans (hBY.mono HB3.out.size))
      clear hBY hY SZ
      go_wp2_with (first
        | (refine wpList_store_row rfl 61 _ _ rfl w3.heap.size rfl 61 (List.replicate 32 (Value.int .i64 0)).toArray (crewV l).toArray rfl (heap_new rfl) HSZ.out HZL.out HALL.out ?_; have e0 := HRT.out; change wpList _ _ _ _ _ (World.setRow (World.alloc w3 (Obj.cells (List.replicate 32 (Value.int .i64 0)).toArray 61)) w3.heap.size (crewV l).toArray); rw [e0]; clear e0))
      go_step3
      dsimp only [Exit.then]
      apply_assumption
      refine hnext _ _ ?_
      exact ⟨w3.heap.size, _, _, _, _, _, _, _, _, _, _, _, _, _, _, _, _, _, _, rfl, HRY.out, y0, y1, HB4.out⟩
end Go.Proofs.Ytdoikeglaolipaa
