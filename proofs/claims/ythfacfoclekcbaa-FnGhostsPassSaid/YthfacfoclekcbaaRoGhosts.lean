/- The model's ghosts behind a time: those that have not fallen, moved on, each put into its place. -/
import Derived.Test.YthfacfoclekcbaaPut
import Derived.Test.YthfacfoclekcbaaSrtGood
namespace Go.Proofs.Ythfacfoclekcbaa
open Go.RowKit

def endT (L : Int) (p : Int × Int) : Int := if p.2 < 0 then p.1 else L - p.1
def mvF (t : Int) (p : Int × Int) : Int × Int := (p.1 + p.2 * t, p.2)
def onF (L t : Int) (p : Int × Int) : Bool := !decide (endT L p ≤ t)
/-- those that have not fallen, moved on, as they come -/
def afL (L t : Int) (l : List (Int × Int)) : List (Int × Int) := (l.filter (onF L t)).map (mvF t)
theorem afL_no (L t : Int) (l : List (Int × Int)) (k : Nat) (x : Int × Int) (hx : l[k]? = some x) (h : endT L x ≤ t) : afL L t (l.take (k + 1)) = afL L t (l.take k) := by
  obtain ⟨hk, rfl⟩ := List.getElem?_eq_some_iff.1 hx
  unfold afL
  rw [List.take_succ_eq_append_getElem hk, List.filter_append]
  simp [onF, h]
theorem afL_yes (L t : Int) (l : List (Int × Int)) (k : Nat) (x : Int × Int) (hx : l[k]? = some x) (h : ¬ endT L x ≤ t) : afL L t (l.take (k + 1)) = afL L t (l.take k) ++ [mvF t x] := by
  obtain ⟨hk, rfl⟩ := List.getElem?_eq_some_iff.1 hx
  unfold afL
  rw [List.take_succ_eq_append_getElem hk, List.filter_append]
  have e : onF L t l[k] = true := by simp only [onF, h]; rfl
  simp [e]
theorem afL_len (L t : Int) (l : List (Int × Int)) (k : Nat) : (srtA (afL L t (l.take k))).length ≤ k := by
  rw [srtA_len]
  unfold afL
  rw [List.length_map]
  refine Nat.le_trans (List.length_filter_le _ _) ?_
  rw [List.length_take]; omega

theorem roEnd_b (L a y : Int) (w : World) (h0 : 0 ≤ a) (h1 : a ≤ 1000) (h2 : 0 ≤ L) (h3 : L ≤ 1000) :
    Calls Try.prog 49 #[.int .i64 L, .agg #[.int .i64 a, .int .i64 y]] w fun e w' => e = .returned (.int .i64 (endT L (a, y))) ∧ Below w.heap.size w w' := by
  have hw : IntKind.i64.wrap (L - a) = L - a := IntWalk.i64_in _ (by omega)
  by_cases hy : y < 0
  · have HV : Hid (endT L (a, y) = a) := by show _ = _; unfold endT; rw [if_pos hy]
    go_enter Try.func49, Try.ntmps49
    go_wp2
    go_ret
    exact ⟨ret_int HV.out.symm, (Below.refl _ _).alloc (Nat.le_refl _) _⟩
  · have HV : Hid (endT L (a, y) = L - a) := by show _ = _; unfold endT; rw [if_neg hy]
    go_enter Try.func49, Try.ntmps49
    go_wp2
    go_ret
    exact ⟨ret_int HV.out.symm, (Below.refl _ _).alloc (Nat.le_refl _) _⟩

set_option maxRecDepth 100000 in
set_option maxHeartbeats 2000000 in
theorem roGhosts_any (L : Int) (A : Option Addr) (c : Nat) (l : List (Int × Int)) (t : Int) (w : World) (hg : goodB L l = true) (ht0 : 0 ≤ t) (ht1 : t ≤ 2000) (hA : AntsAt w A l) :
    Calls Try.prog 29 #[.agg #[.int .i64 L, .slice A l.length c], .int .i64 t] w fun e w' => ∃ A' n' c', e = .returned (.slice A' n' c') ∧ n' = (srtA (afL L t l)).length ∧ AntsOwn w' w.heap.size 42 (.slice A' n' c') (srtA (afL L t l)) ∧ Below w.heap.size w w' := by
  obtain ⟨i0, hi, hz0, hz1, hz2⟩ := info_parts antI
  have OA := Lib.hid (hA.alloc (Obj.cells #[Value.int IntKind.i64 L, Value.slice A l.length c] 26))
  have hnl := good_len hg
  obtain ⟨hL0, hL1, _⟩ := good_hdr hg
  have HGG := Lib.hid hg
  clear hA hg
  go_enter Try.func29, Try.ntmps29
  go_wp2
  go_loopw [5, 14] (fun v i wr => ∃ (kk : Nat) (A3 : Option Addr) (n3 c3 : Nat), kk ≤ l.length ∧ i = .int .i64 kk ∧ v = .slice A3 n3 c3 ∧ Below (w.heap.size + 1) (w.alloc (Obj.cells #[Value.int IntKind.i64 L, Value.slice A l.length c] 26)) wr ∧ SlOwn pairS wr (w.heap.size + 1) 42 (.slice A3 n3 c3) (srtA (afL L t (l.take kk))))
    (fun _ i _ => l.length - (intOf i).toNat)
  case atStart => exact ⟨0, none, 0, 0, Nat.zero_le _, rfl, rfl, Below.refl _ _, by rw [List.take_zero, show srtA (afL L t []) = [] from srtA_nil]; exact SlOwn.nil pairS _ _ _⟩
  case round =>
    obtain ⟨kk, A3, n3, c3, hkk, rfl, rfl, hb, hown⟩ := hrel
    have hs : w.heap.size < wr.heap.size := by have := hb.size; simp at this; omega
    have c0 : wr.cell? ⟨w.heap.size, 0, none⟩ = some (.int .i64 L) := by rw [hb.cell (p := ⟨w.heap.size, 0, none⟩) (by simp)]; simp
    have c1 : wr.cell? ⟨w.heap.size, 1, none⟩ = some (.slice A l.length c) := by rw [hb.cell (p := ⟨w.heap.size, 1, none⟩) (by simp)]; simp
    have OB := Lib.hid hb
    have OAr := Lib.hid (OA.out.below (hb.mono (by simp)))
    have hn3 : n3 = (srtA (afL L t (l.take kk))).length := by
      obtain ⟨_, _, he, _, _⟩ := hown.form
      injection he
    have OO := Lib.hid hown
    have ON := Lib.hid hn3
    have hl3 := afL_len L t l kk
    rw [← hn3] at hl3
    clear hb hown hn3
    by_cases hlt : kk < l.length
    · obtain ⟨b1, off1, rfl, l0, hc⟩ := OAr.out.at_ hlt
      obtain ⟨a0, a1⟩ := hc kk hlt
      have hx : l[kk]? = some (l.getD kk (0, 0)) := by rw [List.getD_eq_getElem?_getD, List.getElem?_eq_getElem hlt]; rfl
      have ONO := Lib.hid (afL_no L t l kk _ hx)
      have OYES := Lib.hid (afL_yes L t l kk _ hx)
      obtain ⟨q0, q1, _, qw⟩ := good_ant HGG.out hx
      clear hc hx
      generalize l.getD kk (0, 0) = x at *
      obtain ⟨p, y⟩ := x
      simp only at a0 a1 q0 q1 qw
      have HEND : Hid (∀ w, Calls Try.prog 49 #[.int .i64 L, .agg #[.int .i64 p, .int .i64 y]] w fun e w' => e = .returned (.int .i64 (endT L (p, y))) ∧ Below w.heap.size w w') := fun w => roEnd_b L p y w q0 (by omega) (by omega) hL1
      by_cases hf : endT L (p, y) ≤ t
      · have OSN := Lib.hid (ONO.out hf)
        generalize endT L (p, y) = en at *
        go_wp2_with fail
        refine (HEND.out _).mono ?_
        rintro e w3 ⟨rfl, hb3⟩
        go_wp2
        go_roundw
        case rel =>
          have hb4 : Below wr.heap.size wr w3 := ((Below.refl _ _).alloc (Nat.le_refl _) _).trans (hb3.mono (by simp))
          refine ⟨kk + 1, A3, n3, c3, by omega, by go_num, rfl, OB.out.trans (hb4.mono hs), ?_⟩
          rw [OSN.out]; exact OO.out.below hb4
        case measure => simp [intOf]; omega
      · have hsn : putA (srtA (afL L t (l.take kk))) (mvF t (p, y)) = srtA (afL L t (l.take (kk + 1))) := by rw [putA_srtA, OYES.out hf]
        have hw1 : IntKind.i64.wrap (y * t) = y * t := IntWalk.i64_in _ (by rcases qw with rfl | rfl <;> omega)
        have hmv : mvF t (p, y) = (p + y * t, y) := rfl
        rw [hmv] at hsn
        obtain ⟨z, hz⟩ : ∃ z, p + y * t = z := ⟨_, rfl⟩
        rw [hz] at hsn
        have hw2 : IntKind.i64.wrap (p + y * t) = z := by rw [← hz]; exact IntWalk.i64_in _ (by rcases qw with rfl | rfl <;> omega)
        have OSN := Lib.hid hsn
        have OM : Hid (n3 = (srtA (afL L t (l.take kk))).length) := ON
        clear hz hmv hsn
        generalize endT L (p, y) = en at *
        generalize (srtA (afL L t (l.take kk))) = m at *
        have hm := OM.out
        subst hm
        have hcap : m.length ≤ c3 := own_cap OO.out
        have hn : (m.length : Int) ≤ 65536 := by omega
        clear q0 q1 qw
        go_wp2_with fail
        refine (HEND.out _).mono ?_
        rintro e w3 ⟨rfl, hb3⟩
        have d0 : w3.cell? ⟨wr.heap.size, 0, none⟩ = some (.int .i64 p) := by rw [hb3.cell (p := ⟨wr.heap.size, 0, none⟩) (by simp)]; simp
        have d1 : w3.cell? ⟨wr.heap.size, 1, none⟩ = some (.int .i64 y) := by rw [hb3.cell (p := ⟨wr.heap.size, 1, none⟩) (by simp)]; simp
        have hb4 : Below wr.heap.size wr w3 := ((Below.refl _ _).alloc (Nat.le_refl _) _).trans (hb3.mono (by simp))
        have OB3 := Lib.hid (OB.out.trans (hb4.mono hs))
        have OS3 : Hid (w.heap.size + 1 ≤ w3.heap.size) := Nat.le_trans hs hb4.size
        have HA : Hid (AntsAt (w3.alloc (Obj.cells #[Value.int IntKind.i64 z, Value.int IntKind.i64 y] 42)) A3 m) := slAt_ants ((OO.out.below hb4).sl.alloc _)
        have hs9 : wr.heap.size < w3.heap.size := by have := hb3.size; simp at this; omega
        clear hb3 hb4
        go_wp2
        go_loopw [9] (fun i wr => ∃ k : Nat, k ≤ m.length ∧ i = .int .i64 k ∧ putK m (z, y) k = putK m (z, y) m.length ∧ Below (w3.heap.size + 1) (w3.alloc (Obj.cells #[Value.int IntKind.i64 z, Value.int IntKind.i64 y] 42)) wr) (fun i _ => (intOf i).toNat)
        case atStart => exact ⟨m.length, Nat.le_refl _, rfl, rfl, Below.refl _ _⟩
        case round =>
          obtain ⟨k, hk, rfl, hp, hb⟩ := hrel
          have hs : w3.heap.size < wr.heap.size := by have := hb.size; simp at this; omega
          have c0 : wr.cell? ⟨w3.heap.size, 0, none⟩ = some (.int .i64 z) := by rw [hb.cell (p := ⟨w3.heap.size, 0, none⟩) (by simp)]; simp
          have c1 : wr.cell? ⟨w3.heap.size, 1, none⟩ = some (.int .i64 y) := by rw [hb.cell (p := ⟨w3.heap.size, 1, none⟩) (by simp)]; simp
          have HB := Lib.hid hb
          have HA := Lib.hid (AntsAt.below HA.out (hb.mono (by simp)))
          clear hb
          cases k with
          | zero =>
            have HP := Lib.hid hp
            clear hp
            have hd0 : decide ((0 : Int) < 0) = false := by decide
            go_wp2
            go_quiet (fail)
            go_wp2
            cases A3 with
            | none =>
              have HL : Hid (m = []) := by
                rcases HA.out with h | ⟨_, _, h, _⟩
                · exact h
                · cases h
              have HKE : Hid (0 = putK m (z, y) m.length) := HP.out
              obtain ⟨X, hX⟩ : ∃ X, X = wr.drewN nq := ⟨_, rfl⟩
              have HBX : Hid (Below (w3.heap.size + 1) (w3.alloc (Obj.cells #[Value.int IntKind.i64 z, Value.int IntKind.i64 y] 42)) X) := by rw [hX]; exact ⟨HB.out.os, HB.out.tape, HB.out.output, HB.out.size, HB.out.block⟩
              have HAX : Hid (SlAt pairS X none m) := by rw [hX]; exact antsAt_sl HA.out
              have x0 : X.cell? ⟨w3.heap.size, 0, none⟩ = some (.int .i64 z) := by rw [hX]; exact c0
              have x1 : X.cell? ⟨w3.heap.size, 1, none⟩ = some (.int .i64 y) := by rw [hX]; exact c1
              have hsX : w3.heap.size < X.heap.size := by rw [hX]; exact hs
              rw [← hX]
              clear hX c0 c1 hs
              have p0 : X.drew.cell? ⟨w3.heap.size, 0, none⟩ = some (.int .i64 z) := x0
              have p1 : X.drew.cell? ⟨w3.heap.size, 1, none⟩ = some (.int .i64 y) := x1
              have D0 : (X.alloc (Obj.cells #[] 42)).drew.cell? ⟨w3.heap.size, 0, none⟩ = some (.int .i64 z) := alloc_some x0 _
              have D1 : (X.alloc (Obj.cells #[] 42)).drew.cell? ⟨w3.heap.size, 1, none⟩ = some (.int .i64 y) := alloc_some x1 _
              have F0 : (X.alloc (Obj.cells #[.int .i64 z, .int .i64 y] 42)).drew.cell? ⟨w3.heap.size, 0, none⟩ = some (.int .i64 z) := alloc_some x0 _
              have F1 : (X.alloc (Obj.cells #[.int .i64 z, .int .i64 y] 42)).drew.cell? ⟨w3.heap.size, 1, none⟩ = some (.int .i64 y) := alloc_some x1 _
              have G0 : ((X.alloc (Obj.cells #[] 42)).alloc (Obj.cells #[.int .i64 z, .int .i64 y] 42)).drew.cell? ⟨w3.heap.size, 0, none⟩ = some (.int .i64 z) := alloc_some (alloc_some x0 _) _
              have G1 : ((X.alloc (Obj.cells #[] 42)).alloc (Obj.cells #[.int .i64 z, .int .i64 y] 42)).drew.cell? ⟨w3.heap.size, 1, none⟩ = some (.int .i64 y) := alloc_some (alloc_some x1 _) _
              have J0 : ((X.alloc (Obj.cells #[.int .i64 z, .int .i64 y] 42)).alloc (Obj.cells #[] 42)).drew.cell? ⟨w3.heap.size, 0, none⟩ = some (.int .i64 z) := alloc_some (alloc_some x0 _) _
              have J1 : ((X.alloc (Obj.cells #[.int .i64 z, .int .i64 y] 42)).alloc (Obj.cells #[] 42)).drew.cell? ⟨w3.heap.size, 1, none⟩ = some (.int .i64 y) := alloc_some (alloc_some x1 _) _
              have BA1 : Hid (Below X.heap.size X (X.alloc (Obj.cells #[] 42)).drew) := (((Below.refl _ X).alloc (Nat.le_refl _) _).drew)
              have BA2 : Hid (Below X.heap.size X ((X.alloc (Obj.cells #[] 42)).alloc (Obj.cells #[.int .i64 z, .int .i64 y] 42)).drew) := ((((Below.refl _ X).alloc (Nat.le_refl _) _).alloc (by simp) _).drew)
              have BB : Hid (Below X.heap.size X ((X.alloc (Obj.cells #[.int .i64 z, .int .i64 y] 42)).alloc (Obj.cells #[] 42)).drew) := ((((Below.refl _ X).alloc (Nat.le_refl _) _).alloc (by simp) _).drew)
              have OA1 : Hid (SlOwn pairS (X.alloc (Obj.cells #[] 42)).drew X.heap.size 42 (.slice (some ⟨X.heap.size, 0, none⟩) 0 0) []) := own_empty pairS X _
              have OA2 : Hid (SlOwn pairS ((X.alloc (Obj.cells #[] 42)).alloc (Obj.cells #[.int .i64 z, .int .i64 y] 42)).drew X.heap.size 42 (.slice (some ⟨X.heap.size, 0, none⟩) 0 0) []) := (own_empty pairS X 42).below (((Below.refl _ _).alloc (Nat.le_refl _) _).drew)
              have OB : Hid (SlOwn pairS ((X.alloc (Obj.cells #[.int .i64 z, .int .i64 y] 42)).alloc (Obj.cells #[] 42)).drew (X.heap.size + 1) 42 (.slice (some ⟨X.heap.size + 1, 0, none⟩) 0 0) []) := own_empty_n pairS (X.alloc (Obj.cells #[.int .i64 z, .int .i64 y] 42)) _ (by simp)
              have LA1 : Hid (SlAt pairS (X.alloc (Obj.cells #[] 42)).drew none (m.take (0))) := (HAX.out.below BA1.out).take _
              have LA2 : Hid (SlAt pairS ((X.alloc (Obj.cells #[] 42)).alloc (Obj.cells #[.int .i64 z, .int .i64 y] 42)).drew none (m.take (0))) := (HAX.out.below BA2.out).take _
              have LB : Hid (SlAt pairS ((X.alloc (Obj.cells #[.int .i64 z, .int .i64 y] 42)).alloc (Obj.cells #[] 42)).drew none (m.take (0))) := (HAX.out.below BB.out).take _
              have NK : Hid (0 = (m.take (0)).length) := by show _ = _; simp only [List.length_take]; omega
              have LE1 : Hid (([] : List (Int × Int)).length + (m.take (0)).length ≤ 1048576) := by show _ ≤ _; simp only [List.length_take, List.length_nil]; omega
              have LE2 : Hid (([] ++ m.take (0)).length + [(z, y)].length ≤ 1048576) := by show _ ≤ _; simp only [List.length_append, List.length_take, List.length_nil, List.length_cons]; omega
              have EA2 : Hid (((X.alloc (Obj.cells #[] 42)).alloc (Obj.cells #[.int .i64 z, .int .i64 y] 42)).drew.heap[X.heap.size + 1]? = some (Obj.cells #[.int .i64 z, .int .i64 y] 42)) := heap_new (w := X.alloc (Obj.cells #[] 42)) (by simp)
              have EB : Hid (((X.alloc (Obj.cells #[.int .i64 z, .int .i64 y] 42)).alloc (Obj.cells #[] 42)).drew.heap[X.heap.size]? = some (Obj.cells #[.int .i64 z, .int .i64 y] 42)) := (((Below.refl (X.heap.size + 1) (X.alloc (Obj.cells #[.int .i64 z, .int .i64 y] 42))).alloc (by simp) (Obj.cells #[] 42)).block X.heap.size (by omega)).trans (heap_new (w := X) rfl)
              go_region_held3 (fun w' => w'.cell? ⟨w3.heap.size, 0, none⟩ = some (.int .i64 z) ∧ w'.cell? ⟨w3.heap.size, 1, none⟩ = some (.int .i64 y))
                (first | exact ⟨c0'', c1''⟩ | exact ⟨e0', e1'⟩ | exact ⟨c0', c1'⟩ | exact ⟨D0, D1⟩ | exact ⟨F0, F1⟩ | exact ⟨G0, G1⟩ | exact ⟨J0, J1⟩ | go_keep)
                (first
                  | (refine step_append_slsv pairS _ rfl _ _ 24 rfl _ 42 i0 _ 16 Try.underlying24 hi hz0 hz1 hz2 rfl (by decide) _ ([] ++ m.take (0)) rfl HO5.out _ 1 1 [(z, y)] rfl rfl HS5.out LE2.out HZ5.out ?_; intro A6 n6 k6 w6 hn6 ho6 hb6 hg6; have HN6 := Lib.hid hn6; have HO6 : Hid (SlOwn pairS w6 (w3.heap.size + 1) 42 (.slice A6 n6 k6) ([] ++ m.take (0) ++ [(z, y)])) := ho6.base HZ5'.out; have HB6 := Lib.hid (HB5.out.trans (hb6.mono HZ5'.out)); have HBQ := Lib.hid (HQ5.out.trans (hb6.mono HY5.out)); have c0'' := (hb6.cell (p := ⟨w3.heap.size, 0, none⟩) HZ5'.out).trans e0'; have c1'' := (hb6.cell (p := ⟨w3.heap.size, 1, none⟩) HZ5'.out).trans e1'; clear hn6 ho6 hb6 hg6)
                  | (refine step_append_slsv pairS _ rfl _ _ 24 rfl X.heap.size 42 i0 _ 16 Try.underlying24 hi hz0 hz1 hz2 rfl (by decide) (.slice (some ⟨X.heap.size, 0, none⟩) 0 0) [] rfl OA1.out _ _ _ (m.take (0)) rfl NK.out LA1.out LE1.out (by simp) ?_; intro A5 n5 k5 w5 hn5 ho5 hb5 hg5; have c0' := (hb5.cell (p := ⟨w3.heap.size, 0, none⟩) hsX).trans D0; have c1' := (hb5.cell (p := ⟨w3.heap.size, 1, none⟩) hsX).trans D1; have e0' := alloc_some c0' (Obj.cells #[.int .i64 z, .int .i64 y] 42); have e1' := alloc_some c1' (Obj.cells #[.int .i64 z, .int .i64 y] 42); have HO5 := Lib.hid (ho5.below ((Below.refl _ _).alloc (Nat.le_refl _) (Obj.cells #[.int .i64 z, .int .i64 y] 42))); have HS5 := Lib.hid (slAt_one (heap_new (w := w5) (o := Obj.cells #[.int .i64 z, .int .i64 y] 42) rfl)); have HB5 := Lib.hid ((HBX.out.trans ((BA1.out.trans hb5).mono hsX)).alloc (Nat.le_trans hsX (BA1.out.trans hb5).size) (Obj.cells #[.int .i64 z, .int .i64 y] 42)); have HZ5 : Hid (X.heap.size ≤ (w5.alloc (Obj.cells #[.int .i64 z, .int .i64 y] 42)).heap.size) := Nat.le_trans (BA1.out.trans hb5).size ((Below.refl 0 w5).alloc (Nat.zero_le _) _).size; have HZ5' : Hid (w3.heap.size + 1 ≤ X.heap.size) := hsX; have HQ5 := Lib.hid ((BA1.out.trans hb5).alloc (BA1.out.trans hb5).size (Obj.cells #[.int .i64 z, .int .i64 y] 42)); have HY5 : Hid (X.heap.size ≤ X.heap.size) := Nat.le_refl _; clear hn5 ho5 hb5 hg5)
                  | (refine step_append_slsv pairS _ rfl _ _ 24 rfl X.heap.size 42 i0 _ 16 Try.underlying24 hi hz0 hz1 hz2 rfl (by decide) (.slice (some ⟨X.heap.size, 0, none⟩) 0 0) [] rfl OA2.out _ _ _ (m.take (0)) rfl NK.out LA2.out LE1.out (by simp; omega) ?_; intro A5 n5 k5 w5 hn5 ho5 hb5 hg5; have e0' := (hb5.cell (p := ⟨w3.heap.size, 0, none⟩) hsX).trans G0; have e1' := (hb5.cell (p := ⟨w3.heap.size, 1, none⟩) hsX).trans G1; have HO5 := Lib.hid ho5; have HS5 := Lib.hid (slAt_one ((hg5.block (X.heap.size + 1) (Array.getElem?_eq_some_iff.1 EA2.out).1 (by simp [Value.ownBlock])).trans EA2.out)); have HB5 := Lib.hid (HBX.out.trans ((BA2.out.trans hb5).mono hsX)); have HZ5 : Hid (X.heap.size ≤ w5.heap.size) := (BA2.out.trans hb5).size; have HZ5' : Hid (w3.heap.size + 1 ≤ X.heap.size) := hsX; have HQ5 := Lib.hid (BA2.out.trans hb5); have HY5 : Hid (X.heap.size ≤ X.heap.size) := Nat.le_refl _; clear hn5 ho5 hb5 hg5)
                  | (refine step_append_slsv pairS _ rfl _ _ 24 rfl (X.heap.size + 1) 42 i0 _ 16 Try.underlying24 hi hz0 hz1 hz2 rfl (by decide) (.slice (some ⟨X.heap.size + 1, 0, none⟩) 0 0) [] rfl OB.out _ _ _ (m.take (0)) rfl NK.out LB.out LE1.out (by simp) ?_; intro A5 n5 k5 w5 hn5 ho5 hb5 hg5; have e0' := (hb5.cell (p := ⟨w3.heap.size, 0, none⟩) (Nat.lt_succ_of_lt hsX)).trans J0; have e1' := (hb5.cell (p := ⟨w3.heap.size, 1, none⟩) (Nat.lt_succ_of_lt hsX)).trans J1; have HO5 := Lib.hid ho5; have HS5 := Lib.hid (slAt_one ((hb5.block X.heap.size (Nat.lt_succ_self _)).trans EB.out)); have HB5 := Lib.hid (HBX.out.trans ((BB.out.trans (hb5.mono (Nat.le_succ _))).mono hsX)); have HZ5 : Hid (X.heap.size + 1 ≤ w5.heap.size) := Nat.le_trans (by simp) hb5.size; have HZ5' : Hid (w3.heap.size + 1 ≤ X.heap.size + 1) := Nat.le_succ_of_le hsX; have HQ5 := Lib.hid (BB.out.trans (hb5.mono (Nat.le_succ _))); have HY5 : Hid (X.heap.size ≤ X.heap.size + 1) := Nat.le_succ _; clear hn5 ho5 hb5 hg5))
              all_goals (
                have HA6 : Hid (SlAt pairS w6 none m) := HAX.out.below HBQ.out
                have LE6 : Hid (([] ++ m.take (0) ++ [(z, y)]).length + (m.drop (0)).length ≤ 1048576) := by show _ ≤ _; simp only [List.length_append, List.length_take, List.length_drop, List.length_nil, List.length_cons]; omega
                have ND : Hid (m.length - (0) = (m.drop (0)).length) := by show _ = _; rw [List.length_drop]
                have HZ6 : Hid (w3.heap.size + 1 ≤ w6.heap.size) := Nat.le_trans hsX HBQ.out.size
                go_wp2_with (at_builtin; refine wpList_append_slsv pairS _ rfl _ _ 24 rfl (w3.heap.size + 1) 42 i0 _ 16 Try.underlying24 hi hz0 hz1 hz2 rfl (by decide) _ ([] ++ m.take (0) ++ [(z, y)]) rfl HO6.out _ _ _ (m.drop (0)) rfl ND.out (.inl (by rw [HL.out]; rfl)) LE6.out HZ6.out ?_; intro A7 n7 k7 w7 hn7 ho7 hb7; have HN7 := Lib.hid hn7; have HO7 := Lib.hid ho7; have HB7 := Lib.hid (HB6.out.trans hb7); clear hn7 ho7 hb7)
                all_goals (
                  go_roundw
                  case rel =>
                    refine ⟨kk + 1, A7, n7, k7, by omega, by go_num, rfl, ?_, ?_⟩
                    · exact OB3.out.trans ((((Below.refl _ w3).alloc (Nat.le_refl _) _).trans (HB7.out.mono (Nat.le_succ _))).mono OS3.out)
                    · have := HO7.out
                      rw [take_drop_put HKE.out, OSN.out] at this
                      exact this.base (Nat.le_succ_of_le OS3.out)
                  case measure => (simp [intOf]; omega)))
            | some ad =>
              obtain ⟨b, off, sp⟩ := ad
              by_cases hl : m = []
              · have HL := Lib.hid hl
                clear hl
                have HKE : Hid (0 = putK m (z, y) m.length) := HP.out
                obtain ⟨X, hX⟩ : ∃ X, X = wr.drewN nq := ⟨_, rfl⟩
                have HBX : Hid (Below (w3.heap.size + 1) (w3.alloc (Obj.cells #[Value.int IntKind.i64 z, Value.int IntKind.i64 y] 42)) X) := by rw [hX]; exact ⟨HB.out.os, HB.out.tape, HB.out.output, HB.out.size, HB.out.block⟩
                have HAX : Hid (SlAt pairS X (some ⟨b, off, sp⟩) m) := by rw [hX]; exact antsAt_sl HA.out
                have x0 : X.cell? ⟨w3.heap.size, 0, none⟩ = some (.int .i64 z) := by rw [hX]; exact c0
                have x1 : X.cell? ⟨w3.heap.size, 1, none⟩ = some (.int .i64 y) := by rw [hX]; exact c1
                have hsX : w3.heap.size < X.heap.size := by rw [hX]; exact hs
                rw [← hX]
                clear hX c0 c1 hs
                have p0 : X.drew.cell? ⟨w3.heap.size, 0, none⟩ = some (.int .i64 z) := x0
                have p1 : X.drew.cell? ⟨w3.heap.size, 1, none⟩ = some (.int .i64 y) := x1
                have D0 : (X.alloc (Obj.cells #[] 42)).drew.cell? ⟨w3.heap.size, 0, none⟩ = some (.int .i64 z) := alloc_some x0 _
                have D1 : (X.alloc (Obj.cells #[] 42)).drew.cell? ⟨w3.heap.size, 1, none⟩ = some (.int .i64 y) := alloc_some x1 _
                have F0 : (X.alloc (Obj.cells #[.int .i64 z, .int .i64 y] 42)).drew.cell? ⟨w3.heap.size, 0, none⟩ = some (.int .i64 z) := alloc_some x0 _
                have F1 : (X.alloc (Obj.cells #[.int .i64 z, .int .i64 y] 42)).drew.cell? ⟨w3.heap.size, 1, none⟩ = some (.int .i64 y) := alloc_some x1 _
                have G0 : ((X.alloc (Obj.cells #[] 42)).alloc (Obj.cells #[.int .i64 z, .int .i64 y] 42)).drew.cell? ⟨w3.heap.size, 0, none⟩ = some (.int .i64 z) := alloc_some (alloc_some x0 _) _
                have G1 : ((X.alloc (Obj.cells #[] 42)).alloc (Obj.cells #[.int .i64 z, .int .i64 y] 42)).drew.cell? ⟨w3.heap.size, 1, none⟩ = some (.int .i64 y) := alloc_some (alloc_some x1 _) _
                have J0 : ((X.alloc (Obj.cells #[.int .i64 z, .int .i64 y] 42)).alloc (Obj.cells #[] 42)).drew.cell? ⟨w3.heap.size, 0, none⟩ = some (.int .i64 z) := alloc_some (alloc_some x0 _) _
                have J1 : ((X.alloc (Obj.cells #[.int .i64 z, .int .i64 y] 42)).alloc (Obj.cells #[] 42)).drew.cell? ⟨w3.heap.size, 1, none⟩ = some (.int .i64 y) := alloc_some (alloc_some x1 _) _
                have BA1 : Hid (Below X.heap.size X (X.alloc (Obj.cells #[] 42)).drew) := (((Below.refl _ X).alloc (Nat.le_refl _) _).drew)
                have BA2 : Hid (Below X.heap.size X ((X.alloc (Obj.cells #[] 42)).alloc (Obj.cells #[.int .i64 z, .int .i64 y] 42)).drew) := ((((Below.refl _ X).alloc (Nat.le_refl _) _).alloc (by simp) _).drew)
                have BB : Hid (Below X.heap.size X ((X.alloc (Obj.cells #[.int .i64 z, .int .i64 y] 42)).alloc (Obj.cells #[] 42)).drew) := ((((Below.refl _ X).alloc (Nat.le_refl _) _).alloc (by simp) _).drew)
                have OA1 : Hid (SlOwn pairS (X.alloc (Obj.cells #[] 42)).drew X.heap.size 42 (.slice (some ⟨X.heap.size, 0, none⟩) 0 0) []) := own_empty pairS X _
                have OA2 : Hid (SlOwn pairS ((X.alloc (Obj.cells #[] 42)).alloc (Obj.cells #[.int .i64 z, .int .i64 y] 42)).drew X.heap.size 42 (.slice (some ⟨X.heap.size, 0, none⟩) 0 0) []) := (own_empty pairS X 42).below (((Below.refl _ _).alloc (Nat.le_refl _) _).drew)
                have OB : Hid (SlOwn pairS ((X.alloc (Obj.cells #[.int .i64 z, .int .i64 y] 42)).alloc (Obj.cells #[] 42)).drew (X.heap.size + 1) 42 (.slice (some ⟨X.heap.size + 1, 0, none⟩) 0 0) []) := own_empty_n pairS (X.alloc (Obj.cells #[.int .i64 z, .int .i64 y] 42)) _ (by simp)
                have LA1 : Hid (SlAt pairS (X.alloc (Obj.cells #[] 42)).drew (some ⟨b, off, sp⟩) (m.take (0))) := (HAX.out.below BA1.out).take _
                have LA2 : Hid (SlAt pairS ((X.alloc (Obj.cells #[] 42)).alloc (Obj.cells #[.int .i64 z, .int .i64 y] 42)).drew (some ⟨b, off, sp⟩) (m.take (0))) := (HAX.out.below BA2.out).take _
                have LB : Hid (SlAt pairS ((X.alloc (Obj.cells #[.int .i64 z, .int .i64 y] 42)).alloc (Obj.cells #[] 42)).drew (some ⟨b, off, sp⟩) (m.take (0))) := (HAX.out.below BB.out).take _
                have NK : Hid (0 = (m.take (0)).length) := by show _ = _; simp only [List.length_take]; omega
                have LE1 : Hid (([] : List (Int × Int)).length + (m.take (0)).length ≤ 1048576) := by show _ ≤ _; simp only [List.length_take, List.length_nil]; omega
                have LE2 : Hid (([] ++ m.take (0)).length + [(z, y)].length ≤ 1048576) := by show _ ≤ _; simp only [List.length_append, List.length_take, List.length_nil, List.length_cons]; omega
                have EA2 : Hid (((X.alloc (Obj.cells #[] 42)).alloc (Obj.cells #[.int .i64 z, .int .i64 y] 42)).drew.heap[X.heap.size + 1]? = some (Obj.cells #[.int .i64 z, .int .i64 y] 42)) := heap_new (w := X.alloc (Obj.cells #[] 42)) (by simp)
                have EB : Hid (((X.alloc (Obj.cells #[.int .i64 z, .int .i64 y] 42)).alloc (Obj.cells #[] 42)).drew.heap[X.heap.size]? = some (Obj.cells #[.int .i64 z, .int .i64 y] 42)) := (((Below.refl (X.heap.size + 1) (X.alloc (Obj.cells #[.int .i64 z, .int .i64 y] 42))).alloc (by simp) (Obj.cells #[] 42)).block X.heap.size (by omega)).trans (heap_new (w := X) rfl)
                go_region_held3 (fun w' => w'.cell? ⟨w3.heap.size, 0, none⟩ = some (.int .i64 z) ∧ w'.cell? ⟨w3.heap.size, 1, none⟩ = some (.int .i64 y))
                  (first | exact ⟨c0'', c1''⟩ | exact ⟨e0', e1'⟩ | exact ⟨c0', c1'⟩ | exact ⟨D0, D1⟩ | exact ⟨F0, F1⟩ | exact ⟨G0, G1⟩ | exact ⟨J0, J1⟩ | go_keep)
                  (first
                    | (refine step_append_slsv pairS _ rfl _ _ 24 rfl _ 42 i0 _ 16 Try.underlying24 hi hz0 hz1 hz2 rfl (by decide) _ ([] ++ m.take (0)) rfl HO5.out _ 1 1 [(z, y)] rfl rfl HS5.out LE2.out HZ5.out ?_; intro A6 n6 k6 w6 hn6 ho6 hb6 hg6; have HN6 := Lib.hid hn6; have HO6 : Hid (SlOwn pairS w6 (w3.heap.size + 1) 42 (.slice A6 n6 k6) ([] ++ m.take (0) ++ [(z, y)])) := ho6.base HZ5'.out; have HB6 := Lib.hid (HB5.out.trans (hb6.mono HZ5'.out)); have HBQ := Lib.hid (HQ5.out.trans (hb6.mono HY5.out)); have c0'' := (hb6.cell (p := ⟨w3.heap.size, 0, none⟩) HZ5'.out).trans e0'; have c1'' := (hb6.cell (p := ⟨w3.heap.size, 1, none⟩) HZ5'.out).trans e1'; clear hn6 ho6 hb6 hg6)
                    | (refine step_append_slsv pairS _ rfl _ _ 24 rfl X.heap.size 42 i0 _ 16 Try.underlying24 hi hz0 hz1 hz2 rfl (by decide) (.slice (some ⟨X.heap.size, 0, none⟩) 0 0) [] rfl OA1.out _ _ _ (m.take (0)) rfl NK.out LA1.out LE1.out (by simp) ?_; intro A5 n5 k5 w5 hn5 ho5 hb5 hg5; have c0' := (hb5.cell (p := ⟨w3.heap.size, 0, none⟩) hsX).trans D0; have c1' := (hb5.cell (p := ⟨w3.heap.size, 1, none⟩) hsX).trans D1; have e0' := alloc_some c0' (Obj.cells #[.int .i64 z, .int .i64 y] 42); have e1' := alloc_some c1' (Obj.cells #[.int .i64 z, .int .i64 y] 42); have HO5 := Lib.hid (ho5.below ((Below.refl _ _).alloc (Nat.le_refl _) (Obj.cells #[.int .i64 z, .int .i64 y] 42))); have HS5 := Lib.hid (slAt_one (heap_new (w := w5) (o := Obj.cells #[.int .i64 z, .int .i64 y] 42) rfl)); have HB5 := Lib.hid ((HBX.out.trans ((BA1.out.trans hb5).mono hsX)).alloc (Nat.le_trans hsX (BA1.out.trans hb5).size) (Obj.cells #[.int .i64 z, .int .i64 y] 42)); have HZ5 : Hid (X.heap.size ≤ (w5.alloc (Obj.cells #[.int .i64 z, .int .i64 y] 42)).heap.size) := Nat.le_trans (BA1.out.trans hb5).size ((Below.refl 0 w5).alloc (Nat.zero_le _) _).size; have HZ5' : Hid (w3.heap.size + 1 ≤ X.heap.size) := hsX; have HQ5 := Lib.hid ((BA1.out.trans hb5).alloc (BA1.out.trans hb5).size (Obj.cells #[.int .i64 z, .int .i64 y] 42)); have HY5 : Hid (X.heap.size ≤ X.heap.size) := Nat.le_refl _; clear hn5 ho5 hb5 hg5)
                    | (refine step_append_slsv pairS _ rfl _ _ 24 rfl X.heap.size 42 i0 _ 16 Try.underlying24 hi hz0 hz1 hz2 rfl (by decide) (.slice (some ⟨X.heap.size, 0, none⟩) 0 0) [] rfl OA2.out _ _ _ (m.take (0)) rfl NK.out LA2.out LE1.out (by simp; omega) ?_; intro A5 n5 k5 w5 hn5 ho5 hb5 hg5; have e0' := (hb5.cell (p := ⟨w3.heap.size, 0, none⟩) hsX).trans G0; have e1' := (hb5.cell (p := ⟨w3.heap.size, 1, none⟩) hsX).trans G1; have HO5 := Lib.hid ho5; have HS5 := Lib.hid (slAt_one ((hg5.block (X.heap.size + 1) (Array.getElem?_eq_some_iff.1 EA2.out).1 (by simp [Value.ownBlock])).trans EA2.out)); have HB5 := Lib.hid (HBX.out.trans ((BA2.out.trans hb5).mono hsX)); have HZ5 : Hid (X.heap.size ≤ w5.heap.size) := (BA2.out.trans hb5).size; have HZ5' : Hid (w3.heap.size + 1 ≤ X.heap.size) := hsX; have HQ5 := Lib.hid (BA2.out.trans hb5); have HY5 : Hid (X.heap.size ≤ X.heap.size) := Nat.le_refl _; clear hn5 ho5 hb5 hg5)
                    | (refine step_append_slsv pairS _ rfl _ _ 24 rfl (X.heap.size + 1) 42 i0 _ 16 Try.underlying24 hi hz0 hz1 hz2 rfl (by decide) (.slice (some ⟨X.heap.size + 1, 0, none⟩) 0 0) [] rfl OB.out _ _ _ (m.take (0)) rfl NK.out LB.out LE1.out (by simp) ?_; intro A5 n5 k5 w5 hn5 ho5 hb5 hg5; have e0' := (hb5.cell (p := ⟨w3.heap.size, 0, none⟩) (Nat.lt_succ_of_lt hsX)).trans J0; have e1' := (hb5.cell (p := ⟨w3.heap.size, 1, none⟩) (Nat.lt_succ_of_lt hsX)).trans J1; have HO5 := Lib.hid ho5; have HS5 := Lib.hid (slAt_one ((hb5.block X.heap.size (Nat.lt_succ_self _)).trans EB.out)); have HB5 := Lib.hid (HBX.out.trans ((BB.out.trans (hb5.mono (Nat.le_succ _))).mono hsX)); have HZ5 : Hid (X.heap.size + 1 ≤ w5.heap.size) := Nat.le_trans (by simp) hb5.size; have HZ5' : Hid (w3.heap.size + 1 ≤ X.heap.size + 1) := Nat.le_succ_of_le hsX; have HQ5 := Lib.hid (BB.out.trans (hb5.mono (Nat.le_succ _))); have HY5 : Hid (X.heap.size ≤ X.heap.size + 1) := Nat.le_succ _; clear hn5 ho5 hb5 hg5))
                all_goals (
                  have HA6 : Hid (SlAt pairS w6 (some ⟨b, off, sp⟩) m) := HAX.out.below HBQ.out
                  have LE6 : Hid (([] ++ m.take (0) ++ [(z, y)]).length + (m.drop (0)).length ≤ 1048576) := by show _ ≤ _; simp only [List.length_append, List.length_take, List.length_drop, List.length_nil, List.length_cons]; omega
                  have ND : Hid (m.length - (0) = (m.drop (0)).length) := by show _ = _; rw [List.length_drop]
                  have HZ6 : Hid (w3.heap.size + 1 ≤ w6.heap.size) := Nat.le_trans hsX HBQ.out.size
                  go_wp2_with (at_builtin; refine wpList_append_slsv pairS _ rfl _ _ 24 rfl (w3.heap.size + 1) 42 i0 _ 16 Try.underlying24 hi hz0 hz1 hz2 rfl (by decide) _ ([] ++ m.take (0) ++ [(z, y)]) rfl HO6.out _ _ _ (m.drop (0)) rfl ND.out (.inl (by rw [HL.out]; rfl)) LE6.out HZ6.out ?_; intro A7 n7 k7 w7 hn7 ho7 hb7; have HN7 := Lib.hid hn7; have HO7 := Lib.hid ho7; have HB7 := Lib.hid (HB6.out.trans hb7); clear hn7 ho7 hb7)
                  all_goals (
                    go_roundw
                    case rel =>
                      refine ⟨kk + 1, A7, n7, k7, by omega, by go_num, rfl, ?_, ?_⟩
                      · exact OB3.out.trans ((((Below.refl _ w3).alloc (Nat.le_refl _) _).trans (HB7.out.mono (Nat.le_succ _))).mono OS3.out)
                      · have := HO7.out
                        rw [take_drop_put HKE.out, OSN.out] at this
                        exact this.base (Nat.le_succ_of_le OS3.out)
                    case measure => (simp [intOf]; omega)))
              · obtain rfl : sp = none := by
                  rcases HA.out with h | ⟨_, _, h, _⟩
                  · exact absurd h hl
                  · injection h with h; injection h
                clear hl
                have HKE : Hid (0 = putK m (z, y) m.length) := HP.out
                obtain ⟨X, hX⟩ : ∃ X, X = wr.drewN nq := ⟨_, rfl⟩
                have HBX : Hid (Below (w3.heap.size + 1) (w3.alloc (Obj.cells #[Value.int IntKind.i64 z, Value.int IntKind.i64 y] 42)) X) := by rw [hX]; exact ⟨HB.out.os, HB.out.tape, HB.out.output, HB.out.size, HB.out.block⟩
                have HAX : Hid (SlAt pairS X (some ⟨b, off, none⟩) m) := by rw [hX]; exact antsAt_sl HA.out
                have x0 : X.cell? ⟨w3.heap.size, 0, none⟩ = some (.int .i64 z) := by rw [hX]; exact c0
                have x1 : X.cell? ⟨w3.heap.size, 1, none⟩ = some (.int .i64 y) := by rw [hX]; exact c1
                have hsX : w3.heap.size < X.heap.size := by rw [hX]; exact hs
                rw [← hX]
                clear hX c0 c1 hs
                have p0 : X.drew.cell? ⟨w3.heap.size, 0, none⟩ = some (.int .i64 z) := x0
                have p1 : X.drew.cell? ⟨w3.heap.size, 1, none⟩ = some (.int .i64 y) := x1
                have D0 : (X.alloc (Obj.cells #[] 42)).drew.cell? ⟨w3.heap.size, 0, none⟩ = some (.int .i64 z) := alloc_some x0 _
                have D1 : (X.alloc (Obj.cells #[] 42)).drew.cell? ⟨w3.heap.size, 1, none⟩ = some (.int .i64 y) := alloc_some x1 _
                have F0 : (X.alloc (Obj.cells #[.int .i64 z, .int .i64 y] 42)).drew.cell? ⟨w3.heap.size, 0, none⟩ = some (.int .i64 z) := alloc_some x0 _
                have F1 : (X.alloc (Obj.cells #[.int .i64 z, .int .i64 y] 42)).drew.cell? ⟨w3.heap.size, 1, none⟩ = some (.int .i64 y) := alloc_some x1 _
                have G0 : ((X.alloc (Obj.cells #[] 42)).alloc (Obj.cells #[.int .i64 z, .int .i64 y] 42)).drew.cell? ⟨w3.heap.size, 0, none⟩ = some (.int .i64 z) := alloc_some (alloc_some x0 _) _
                have G1 : ((X.alloc (Obj.cells #[] 42)).alloc (Obj.cells #[.int .i64 z, .int .i64 y] 42)).drew.cell? ⟨w3.heap.size, 1, none⟩ = some (.int .i64 y) := alloc_some (alloc_some x1 _) _
                have J0 : ((X.alloc (Obj.cells #[.int .i64 z, .int .i64 y] 42)).alloc (Obj.cells #[] 42)).drew.cell? ⟨w3.heap.size, 0, none⟩ = some (.int .i64 z) := alloc_some (alloc_some x0 _) _
                have J1 : ((X.alloc (Obj.cells #[.int .i64 z, .int .i64 y] 42)).alloc (Obj.cells #[] 42)).drew.cell? ⟨w3.heap.size, 1, none⟩ = some (.int .i64 y) := alloc_some (alloc_some x1 _) _
                have BA1 : Hid (Below X.heap.size X (X.alloc (Obj.cells #[] 42)).drew) := (((Below.refl _ X).alloc (Nat.le_refl _) _).drew)
                have BA2 : Hid (Below X.heap.size X ((X.alloc (Obj.cells #[] 42)).alloc (Obj.cells #[.int .i64 z, .int .i64 y] 42)).drew) := ((((Below.refl _ X).alloc (Nat.le_refl _) _).alloc (by simp) _).drew)
                have BB : Hid (Below X.heap.size X ((X.alloc (Obj.cells #[.int .i64 z, .int .i64 y] 42)).alloc (Obj.cells #[] 42)).drew) := ((((Below.refl _ X).alloc (Nat.le_refl _) _).alloc (by simp) _).drew)
                have OA1 : Hid (SlOwn pairS (X.alloc (Obj.cells #[] 42)).drew X.heap.size 42 (.slice (some ⟨X.heap.size, 0, none⟩) 0 0) []) := own_empty pairS X _
                have OA2 : Hid (SlOwn pairS ((X.alloc (Obj.cells #[] 42)).alloc (Obj.cells #[.int .i64 z, .int .i64 y] 42)).drew X.heap.size 42 (.slice (some ⟨X.heap.size, 0, none⟩) 0 0) []) := (own_empty pairS X 42).below (((Below.refl _ _).alloc (Nat.le_refl _) _).drew)
                have OB : Hid (SlOwn pairS ((X.alloc (Obj.cells #[.int .i64 z, .int .i64 y] 42)).alloc (Obj.cells #[] 42)).drew (X.heap.size + 1) 42 (.slice (some ⟨X.heap.size + 1, 0, none⟩) 0 0) []) := own_empty_n pairS (X.alloc (Obj.cells #[.int .i64 z, .int .i64 y] 42)) _ (by simp)
                have LA1 : Hid (SlAt pairS (X.alloc (Obj.cells #[] 42)).drew (some ⟨b, off, none⟩) (m.take (0))) := (HAX.out.below BA1.out).take _
                have LA2 : Hid (SlAt pairS ((X.alloc (Obj.cells #[] 42)).alloc (Obj.cells #[.int .i64 z, .int .i64 y] 42)).drew (some ⟨b, off, none⟩) (m.take (0))) := (HAX.out.below BA2.out).take _
                have LB : Hid (SlAt pairS ((X.alloc (Obj.cells #[.int .i64 z, .int .i64 y] 42)).alloc (Obj.cells #[] 42)).drew (some ⟨b, off, none⟩) (m.take (0))) := (HAX.out.below BB.out).take _
                have NK : Hid (0 = (m.take (0)).length) := by show _ = _; simp only [List.length_take]; omega
                have LE1 : Hid (([] : List (Int × Int)).length + (m.take (0)).length ≤ 1048576) := by show _ ≤ _; simp only [List.length_take, List.length_nil]; omega
                have LE2 : Hid (([] ++ m.take (0)).length + [(z, y)].length ≤ 1048576) := by show _ ≤ _; simp only [List.length_append, List.length_take, List.length_nil, List.length_cons]; omega
                have EA2 : Hid (((X.alloc (Obj.cells #[] 42)).alloc (Obj.cells #[.int .i64 z, .int .i64 y] 42)).drew.heap[X.heap.size + 1]? = some (Obj.cells #[.int .i64 z, .int .i64 y] 42)) := heap_new (w := X.alloc (Obj.cells #[] 42)) (by simp)
                have EB : Hid (((X.alloc (Obj.cells #[.int .i64 z, .int .i64 y] 42)).alloc (Obj.cells #[] 42)).drew.heap[X.heap.size]? = some (Obj.cells #[.int .i64 z, .int .i64 y] 42)) := (((Below.refl (X.heap.size + 1) (X.alloc (Obj.cells #[.int .i64 z, .int .i64 y] 42))).alloc (by simp) (Obj.cells #[] 42)).block X.heap.size (by omega)).trans (heap_new (w := X) rfl)
                go_region_held3 (fun w' => w'.cell? ⟨w3.heap.size, 0, none⟩ = some (.int .i64 z) ∧ w'.cell? ⟨w3.heap.size, 1, none⟩ = some (.int .i64 y))
                  (first | exact ⟨c0'', c1''⟩ | exact ⟨e0', e1'⟩ | exact ⟨c0', c1'⟩ | exact ⟨D0, D1⟩ | exact ⟨F0, F1⟩ | exact ⟨G0, G1⟩ | exact ⟨J0, J1⟩ | go_keep)
                  (first
                    | (refine step_append_slsv pairS _ rfl _ _ 24 rfl _ 42 i0 _ 16 Try.underlying24 hi hz0 hz1 hz2 rfl (by decide) _ ([] ++ m.take (0)) rfl HO5.out _ 1 1 [(z, y)] rfl rfl HS5.out LE2.out HZ5.out ?_; intro A6 n6 k6 w6 hn6 ho6 hb6 hg6; have HN6 := Lib.hid hn6; have HO6 : Hid (SlOwn pairS w6 (w3.heap.size + 1) 42 (.slice A6 n6 k6) ([] ++ m.take (0) ++ [(z, y)])) := ho6.base HZ5'.out; have HB6 := Lib.hid (HB5.out.trans (hb6.mono HZ5'.out)); have HBQ := Lib.hid (HQ5.out.trans (hb6.mono HY5.out)); have c0'' := (hb6.cell (p := ⟨w3.heap.size, 0, none⟩) HZ5'.out).trans e0'; have c1'' := (hb6.cell (p := ⟨w3.heap.size, 1, none⟩) HZ5'.out).trans e1'; clear hn6 ho6 hb6 hg6)
                    | (refine step_append_slsv pairS _ rfl _ _ 24 rfl X.heap.size 42 i0 _ 16 Try.underlying24 hi hz0 hz1 hz2 rfl (by decide) (.slice (some ⟨X.heap.size, 0, none⟩) 0 0) [] rfl OA1.out _ _ _ (m.take (0)) rfl NK.out LA1.out LE1.out (by simp) ?_; intro A5 n5 k5 w5 hn5 ho5 hb5 hg5; have c0' := (hb5.cell (p := ⟨w3.heap.size, 0, none⟩) hsX).trans D0; have c1' := (hb5.cell (p := ⟨w3.heap.size, 1, none⟩) hsX).trans D1; have e0' := alloc_some c0' (Obj.cells #[.int .i64 z, .int .i64 y] 42); have e1' := alloc_some c1' (Obj.cells #[.int .i64 z, .int .i64 y] 42); have HO5 := Lib.hid (ho5.below ((Below.refl _ _).alloc (Nat.le_refl _) (Obj.cells #[.int .i64 z, .int .i64 y] 42))); have HS5 := Lib.hid (slAt_one (heap_new (w := w5) (o := Obj.cells #[.int .i64 z, .int .i64 y] 42) rfl)); have HB5 := Lib.hid ((HBX.out.trans ((BA1.out.trans hb5).mono hsX)).alloc (Nat.le_trans hsX (BA1.out.trans hb5).size) (Obj.cells #[.int .i64 z, .int .i64 y] 42)); have HZ5 : Hid (X.heap.size ≤ (w5.alloc (Obj.cells #[.int .i64 z, .int .i64 y] 42)).heap.size) := Nat.le_trans (BA1.out.trans hb5).size ((Below.refl 0 w5).alloc (Nat.zero_le _) _).size; have HZ5' : Hid (w3.heap.size + 1 ≤ X.heap.size) := hsX; have HQ5 := Lib.hid ((BA1.out.trans hb5).alloc (BA1.out.trans hb5).size (Obj.cells #[.int .i64 z, .int .i64 y] 42)); have HY5 : Hid (X.heap.size ≤ X.heap.size) := Nat.le_refl _; clear hn5 ho5 hb5 hg5)
                    | (refine step_append_slsv pairS _ rfl _ _ 24 rfl X.heap.size 42 i0 _ 16 Try.underlying24 hi hz0 hz1 hz2 rfl (by decide) (.slice (some ⟨X.heap.size, 0, none⟩) 0 0) [] rfl OA2.out _ _ _ (m.take (0)) rfl NK.out LA2.out LE1.out (by simp; omega) ?_; intro A5 n5 k5 w5 hn5 ho5 hb5 hg5; have e0' := (hb5.cell (p := ⟨w3.heap.size, 0, none⟩) hsX).trans G0; have e1' := (hb5.cell (p := ⟨w3.heap.size, 1, none⟩) hsX).trans G1; have HO5 := Lib.hid ho5; have HS5 := Lib.hid (slAt_one ((hg5.block (X.heap.size + 1) (Array.getElem?_eq_some_iff.1 EA2.out).1 (by simp [Value.ownBlock])).trans EA2.out)); have HB5 := Lib.hid (HBX.out.trans ((BA2.out.trans hb5).mono hsX)); have HZ5 : Hid (X.heap.size ≤ w5.heap.size) := (BA2.out.trans hb5).size; have HZ5' : Hid (w3.heap.size + 1 ≤ X.heap.size) := hsX; have HQ5 := Lib.hid (BA2.out.trans hb5); have HY5 : Hid (X.heap.size ≤ X.heap.size) := Nat.le_refl _; clear hn5 ho5 hb5 hg5)
                    | (refine step_append_slsv pairS _ rfl _ _ 24 rfl (X.heap.size + 1) 42 i0 _ 16 Try.underlying24 hi hz0 hz1 hz2 rfl (by decide) (.slice (some ⟨X.heap.size + 1, 0, none⟩) 0 0) [] rfl OB.out _ _ _ (m.take (0)) rfl NK.out LB.out LE1.out (by simp) ?_; intro A5 n5 k5 w5 hn5 ho5 hb5 hg5; have e0' := (hb5.cell (p := ⟨w3.heap.size, 0, none⟩) (Nat.lt_succ_of_lt hsX)).trans J0; have e1' := (hb5.cell (p := ⟨w3.heap.size, 1, none⟩) (Nat.lt_succ_of_lt hsX)).trans J1; have HO5 := Lib.hid ho5; have HS5 := Lib.hid (slAt_one ((hb5.block X.heap.size (Nat.lt_succ_self _)).trans EB.out)); have HB5 := Lib.hid (HBX.out.trans ((BB.out.trans (hb5.mono (Nat.le_succ _))).mono hsX)); have HZ5 : Hid (X.heap.size + 1 ≤ w5.heap.size) := Nat.le_trans (by simp) hb5.size; have HZ5' : Hid (w3.heap.size + 1 ≤ X.heap.size + 1) := Nat.le_succ_of_le hsX; have HQ5 := Lib.hid (BB.out.trans (hb5.mono (Nat.le_succ _))); have HY5 : Hid (X.heap.size ≤ X.heap.size + 1) := Nat.le_succ _; clear hn5 ho5 hb5 hg5))
                all_goals (
                  have HA6 : Hid (SlAt pairS w6 (some ⟨b, off, none⟩) m) := HAX.out.below HBQ.out
                  have LE6 : Hid (([] ++ m.take (0) ++ [(z, y)]).length + (m.drop (0)).length ≤ 1048576) := by show _ ≤ _; simp only [List.length_append, List.length_take, List.length_drop, List.length_nil, List.length_cons]; omega
                  have ND : Hid (m.length - (0) = (m.drop (0)).length) := by show _ = _; rw [List.length_drop]
                  have HZ6 : Hid (w3.heap.size + 1 ≤ w6.heap.size) := Nat.le_trans hsX HBQ.out.size
                  go_wp2_with (at_builtin; refine wpList_append_slsv pairS _ rfl _ _ 24 rfl (w3.heap.size + 1) 42 i0 _ 16 Try.underlying24 hi hz0 hz1 hz2 rfl (by decide) _ ([] ++ m.take (0) ++ [(z, y)]) rfl HO6.out _ _ _ (m.drop (0)) rfl ND.out HA6.out LE6.out HZ6.out ?_; intro A7 n7 k7 w7 hn7 ho7 hb7; have HN7 := Lib.hid hn7; have HO7 := Lib.hid ho7; have HB7 := Lib.hid (HB6.out.trans hb7); clear hn7 ho7 hb7)
                  all_goals (
                    go_roundw
                    case rel =>
                      refine ⟨kk + 1, A7, n7, k7, by omega, by go_num, rfl, ?_, ?_⟩
                      · exact OB3.out.trans ((((Below.refl _ w3).alloc (Nat.le_refl _) _).trans (HB7.out.mono (Nat.le_succ _))).mono OS3.out)
                      · have := HO7.out
                        rw [take_drop_put HKE.out, OSN.out] at this
                        exact this.base (Nat.le_succ_of_le OS3.out)
                    case measure => (simp [intOf]; omega)))
          | succ j =>
            have hj : j < m.length := hk
            obtain ⟨b, off, rfl, l0, hc⟩ := (HA.out.at_ hj)
            obtain ⟨a0, a1⟩ := hc j hj
            clear hc
            have hw : IntKind.i64.wrap (((j + 1 : Nat) : Int) - 1) = (j : Int) := by rw [IntWalk.i64_in _ (by omega)]; omega
            have hw2 : IntKind.i64.wrap ((j : Int) + 1 - 1) = (j : Int) := by rw [IntWalk.i64_in _ (by omega)]; omega
            have hw3 : IntKind.i64.wrap (j : Int) = (j : Int) := IntWalk.i64_in _ (by omega)
            have hg0 : (0 : Int) < ((j + 1 : Nat) : Int) := by omega
            have hg1 : (0 : Int) < (j : Int) + 1 := by omega
            have hj0 : (0 : Int) ≤ (j : Int) := by omega
            have hj2 : (0 : Int) ≤ (j : Int) + 1 := by omega
            have hj3 : (j : Int) + 1 ≤ (c3 : Int) := by omega
            have hj4 : (j : Int) + 1 ≤ (m.length : Int) := by omega
            have hj5 : (m.length : Int) ≤ (c3 : Int) := by omega
            have hj1 : (j : Int) < (m.length : Int) := by omega
            have HPU : Hid (putK m (z, y) (j + 1) = if antLt (z, y) (m.getD j (0, 0)) then putK m (z, y) j else j + 1) := rfl
            generalize m.getD j (0, 0) = x at *
            obtain ⟨x1, x2⟩ := x
            simp only at a0 a1
            have HP := Lib.hid hp
            clear hp
            have done : (antLt (z, y) (x1, x2) = true → putK m (z, y) j = putK m (z, y) m.length) := fun h => by
              have h1 := HPU.out
              rw [h, if_pos rfl] at h1
              rw [← h1]; exact HP.out
            have stay : (antLt (z, y) (x1, x2) = false → j + 1 = putK m (z, y) m.length) := fun h => by
              have h1 := HPU.out
              rw [h, if_neg (by decide)] at h1
              rw [← h1]; exact HP.out
            have HD := Lib.hid done
            have HS := Lib.hid stay
            clear done stay
            by_cases h1 : z < x1
            · have d1 : decide (z < x1) = true := decide_eq_true h1
              go_wp2
              go_quiet (fail)
              go_wp2
              go_roundw
              case rel => exact ⟨j, by omega, by go_num, HD.out (by simp [antLt, *]), ⟨HB.out.os, HB.out.tape, HB.out.output, HB.out.size, HB.out.block⟩⟩
              case measure => simp [intOf]
            · have d1 : decide (z < x1) = false := decide_eq_false h1
              by_cases h2 : z = x1
              · have d2 : (z == x1) = true := by simp [h2]
                subst h2
                by_cases h3 : y < x2
                · have d3 : decide (y < x2) = true := decide_eq_true h3
                  go_wp2
                  go_quiet (fail)
                  go_wp2
                  go_roundw
                  case rel => exact ⟨j, by omega, by go_num, HD.out (by simp [antLt, *]), ⟨HB.out.os, HB.out.tape, HB.out.output, HB.out.size, HB.out.block⟩⟩
                  case measure => simp [intOf]
                · have d3 : decide (y < x2) = false := decide_eq_false h3
                  go_wp2
                  go_quiet (fail)
                  go_wp2
                  have HKE : Hid (j + 1 = putK m (z, y) m.length) := HS.out (by simp [antLt, *])
                  obtain ⟨X, hX⟩ : ∃ X, X = wr.drewN nq := ⟨_, rfl⟩
                  have HBX : Hid (Below (w3.heap.size + 1) (w3.alloc (Obj.cells #[Value.int IntKind.i64 z, Value.int IntKind.i64 y] 42)) X) := by rw [hX]; exact ⟨HB.out.os, HB.out.tape, HB.out.output, HB.out.size, HB.out.block⟩
                  have HAX : Hid (SlAt pairS X (some ⟨b, off, none⟩) m) := by rw [hX]; exact antsAt_sl HA.out
                  have x0 : X.cell? ⟨w3.heap.size, 0, none⟩ = some (.int .i64 z) := by rw [hX]; exact c0
                  have x1 : X.cell? ⟨w3.heap.size, 1, none⟩ = some (.int .i64 y) := by rw [hX]; exact c1
                  have hsX : w3.heap.size < X.heap.size := by rw [hX]; exact hs
                  rw [← hX]
                  clear hX c0 c1 hs
                  have p0 : X.drew.cell? ⟨w3.heap.size, 0, none⟩ = some (.int .i64 z) := x0
                  have p1 : X.drew.cell? ⟨w3.heap.size, 1, none⟩ = some (.int .i64 y) := x1
                  have D0 : (X.alloc (Obj.cells #[] 42)).drew.cell? ⟨w3.heap.size, 0, none⟩ = some (.int .i64 z) := alloc_some x0 _
                  have D1 : (X.alloc (Obj.cells #[] 42)).drew.cell? ⟨w3.heap.size, 1, none⟩ = some (.int .i64 y) := alloc_some x1 _
                  have F0 : (X.alloc (Obj.cells #[.int .i64 z, .int .i64 y] 42)).drew.cell? ⟨w3.heap.size, 0, none⟩ = some (.int .i64 z) := alloc_some x0 _
                  have F1 : (X.alloc (Obj.cells #[.int .i64 z, .int .i64 y] 42)).drew.cell? ⟨w3.heap.size, 1, none⟩ = some (.int .i64 y) := alloc_some x1 _
                  have G0 : ((X.alloc (Obj.cells #[] 42)).alloc (Obj.cells #[.int .i64 z, .int .i64 y] 42)).drew.cell? ⟨w3.heap.size, 0, none⟩ = some (.int .i64 z) := alloc_some (alloc_some x0 _) _
                  have G1 : ((X.alloc (Obj.cells #[] 42)).alloc (Obj.cells #[.int .i64 z, .int .i64 y] 42)).drew.cell? ⟨w3.heap.size, 1, none⟩ = some (.int .i64 y) := alloc_some (alloc_some x1 _) _
                  have J0 : ((X.alloc (Obj.cells #[.int .i64 z, .int .i64 y] 42)).alloc (Obj.cells #[] 42)).drew.cell? ⟨w3.heap.size, 0, none⟩ = some (.int .i64 z) := alloc_some (alloc_some x0 _) _
                  have J1 : ((X.alloc (Obj.cells #[.int .i64 z, .int .i64 y] 42)).alloc (Obj.cells #[] 42)).drew.cell? ⟨w3.heap.size, 1, none⟩ = some (.int .i64 y) := alloc_some (alloc_some x1 _) _
                  have BA1 : Hid (Below X.heap.size X (X.alloc (Obj.cells #[] 42)).drew) := (((Below.refl _ X).alloc (Nat.le_refl _) _).drew)
                  have BA2 : Hid (Below X.heap.size X ((X.alloc (Obj.cells #[] 42)).alloc (Obj.cells #[.int .i64 z, .int .i64 y] 42)).drew) := ((((Below.refl _ X).alloc (Nat.le_refl _) _).alloc (by simp) _).drew)
                  have BB : Hid (Below X.heap.size X ((X.alloc (Obj.cells #[.int .i64 z, .int .i64 y] 42)).alloc (Obj.cells #[] 42)).drew) := ((((Below.refl _ X).alloc (Nat.le_refl _) _).alloc (by simp) _).drew)
                  have OA1 : Hid (SlOwn pairS (X.alloc (Obj.cells #[] 42)).drew X.heap.size 42 (.slice (some ⟨X.heap.size, 0, none⟩) 0 0) []) := own_empty pairS X _
                  have OA2 : Hid (SlOwn pairS ((X.alloc (Obj.cells #[] 42)).alloc (Obj.cells #[.int .i64 z, .int .i64 y] 42)).drew X.heap.size 42 (.slice (some ⟨X.heap.size, 0, none⟩) 0 0) []) := (own_empty pairS X 42).below (((Below.refl _ _).alloc (Nat.le_refl _) _).drew)
                  have OB : Hid (SlOwn pairS ((X.alloc (Obj.cells #[.int .i64 z, .int .i64 y] 42)).alloc (Obj.cells #[] 42)).drew (X.heap.size + 1) 42 (.slice (some ⟨X.heap.size + 1, 0, none⟩) 0 0) []) := own_empty_n pairS (X.alloc (Obj.cells #[.int .i64 z, .int .i64 y] 42)) _ (by simp)
                  have LA1 : Hid (SlAt pairS (X.alloc (Obj.cells #[] 42)).drew (some ⟨b, off, none⟩) (m.take (j + 1))) := (HAX.out.below BA1.out).take _
                  have LA2 : Hid (SlAt pairS ((X.alloc (Obj.cells #[] 42)).alloc (Obj.cells #[.int .i64 z, .int .i64 y] 42)).drew (some ⟨b, off, none⟩) (m.take (j + 1))) := (HAX.out.below BA2.out).take _
                  have LB : Hid (SlAt pairS ((X.alloc (Obj.cells #[.int .i64 z, .int .i64 y] 42)).alloc (Obj.cells #[] 42)).drew (some ⟨b, off, none⟩) (m.take (j + 1))) := (HAX.out.below BB.out).take _
                  have NK : Hid (j + 1 = (m.take (j + 1)).length) := by show _ = _; simp only [List.length_take]; omega
                  have LE1 : Hid (([] : List (Int × Int)).length + (m.take (j + 1)).length ≤ 1048576) := by show _ ≤ _; simp only [List.length_take, List.length_nil]; omega
                  have LE2 : Hid (([] ++ m.take (j + 1)).length + [(z, y)].length ≤ 1048576) := by show _ ≤ _; simp only [List.length_append, List.length_take, List.length_nil, List.length_cons]; omega
                  have EA2 : Hid (((X.alloc (Obj.cells #[] 42)).alloc (Obj.cells #[.int .i64 z, .int .i64 y] 42)).drew.heap[X.heap.size + 1]? = some (Obj.cells #[.int .i64 z, .int .i64 y] 42)) := heap_new (w := X.alloc (Obj.cells #[] 42)) (by simp)
                  have EB : Hid (((X.alloc (Obj.cells #[.int .i64 z, .int .i64 y] 42)).alloc (Obj.cells #[] 42)).drew.heap[X.heap.size]? = some (Obj.cells #[.int .i64 z, .int .i64 y] 42)) := (((Below.refl (X.heap.size + 1) (X.alloc (Obj.cells #[.int .i64 z, .int .i64 y] 42))).alloc (by simp) (Obj.cells #[] 42)).block X.heap.size (by omega)).trans (heap_new (w := X) rfl)
                  go_region_held3 (fun w' => w'.cell? ⟨w3.heap.size, 0, none⟩ = some (.int .i64 z) ∧ w'.cell? ⟨w3.heap.size, 1, none⟩ = some (.int .i64 y))
                    (first | exact ⟨c0'', c1''⟩ | exact ⟨e0', e1'⟩ | exact ⟨c0', c1'⟩ | exact ⟨D0, D1⟩ | exact ⟨F0, F1⟩ | exact ⟨G0, G1⟩ | exact ⟨J0, J1⟩ | go_keep)
                    (first
                      | (refine step_append_slsv pairS _ rfl _ _ 24 rfl _ 42 i0 _ 16 Try.underlying24 hi hz0 hz1 hz2 rfl (by decide) _ ([] ++ m.take (j + 1)) rfl HO5.out _ 1 1 [(z, y)] rfl rfl HS5.out LE2.out HZ5.out ?_; intro A6 n6 k6 w6 hn6 ho6 hb6 hg6; have HN6 := Lib.hid hn6; have HO6 : Hid (SlOwn pairS w6 (w3.heap.size + 1) 42 (.slice A6 n6 k6) ([] ++ m.take (j + 1) ++ [(z, y)])) := ho6.base HZ5'.out; have HB6 := Lib.hid (HB5.out.trans (hb6.mono HZ5'.out)); have HBQ := Lib.hid (HQ5.out.trans (hb6.mono HY5.out)); have c0'' := (hb6.cell (p := ⟨w3.heap.size, 0, none⟩) HZ5'.out).trans e0'; have c1'' := (hb6.cell (p := ⟨w3.heap.size, 1, none⟩) HZ5'.out).trans e1'; clear hn6 ho6 hb6 hg6)
                      | (refine step_append_slsv pairS _ rfl _ _ 24 rfl X.heap.size 42 i0 _ 16 Try.underlying24 hi hz0 hz1 hz2 rfl (by decide) (.slice (some ⟨X.heap.size, 0, none⟩) 0 0) [] rfl OA1.out _ _ _ (m.take (j + 1)) rfl NK.out LA1.out LE1.out (by simp) ?_; intro A5 n5 k5 w5 hn5 ho5 hb5 hg5; have c0' := (hb5.cell (p := ⟨w3.heap.size, 0, none⟩) hsX).trans D0; have c1' := (hb5.cell (p := ⟨w3.heap.size, 1, none⟩) hsX).trans D1; have e0' := alloc_some c0' (Obj.cells #[.int .i64 z, .int .i64 y] 42); have e1' := alloc_some c1' (Obj.cells #[.int .i64 z, .int .i64 y] 42); have HO5 := Lib.hid (ho5.below ((Below.refl _ _).alloc (Nat.le_refl _) (Obj.cells #[.int .i64 z, .int .i64 y] 42))); have HS5 := Lib.hid (slAt_one (heap_new (w := w5) (o := Obj.cells #[.int .i64 z, .int .i64 y] 42) rfl)); have HB5 := Lib.hid ((HBX.out.trans ((BA1.out.trans hb5).mono hsX)).alloc (Nat.le_trans hsX (BA1.out.trans hb5).size) (Obj.cells #[.int .i64 z, .int .i64 y] 42)); have HZ5 : Hid (X.heap.size ≤ (w5.alloc (Obj.cells #[.int .i64 z, .int .i64 y] 42)).heap.size) := Nat.le_trans (BA1.out.trans hb5).size ((Below.refl 0 w5).alloc (Nat.zero_le _) _).size; have HZ5' : Hid (w3.heap.size + 1 ≤ X.heap.size) := hsX; have HQ5 := Lib.hid ((BA1.out.trans hb5).alloc (BA1.out.trans hb5).size (Obj.cells #[.int .i64 z, .int .i64 y] 42)); have HY5 : Hid (X.heap.size ≤ X.heap.size) := Nat.le_refl _; clear hn5 ho5 hb5 hg5)
                      | (refine step_append_slsv pairS _ rfl _ _ 24 rfl X.heap.size 42 i0 _ 16 Try.underlying24 hi hz0 hz1 hz2 rfl (by decide) (.slice (some ⟨X.heap.size, 0, none⟩) 0 0) [] rfl OA2.out _ _ _ (m.take (j + 1)) rfl NK.out LA2.out LE1.out (by simp; omega) ?_; intro A5 n5 k5 w5 hn5 ho5 hb5 hg5; have e0' := (hb5.cell (p := ⟨w3.heap.size, 0, none⟩) hsX).trans G0; have e1' := (hb5.cell (p := ⟨w3.heap.size, 1, none⟩) hsX).trans G1; have HO5 := Lib.hid ho5; have HS5 := Lib.hid (slAt_one ((hg5.block (X.heap.size + 1) (Array.getElem?_eq_some_iff.1 EA2.out).1 (by simp [Value.ownBlock])).trans EA2.out)); have HB5 := Lib.hid (HBX.out.trans ((BA2.out.trans hb5).mono hsX)); have HZ5 : Hid (X.heap.size ≤ w5.heap.size) := (BA2.out.trans hb5).size; have HZ5' : Hid (w3.heap.size + 1 ≤ X.heap.size) := hsX; have HQ5 := Lib.hid (BA2.out.trans hb5); have HY5 : Hid (X.heap.size ≤ X.heap.size) := Nat.le_refl _; clear hn5 ho5 hb5 hg5)
                      | (refine step_append_slsv pairS _ rfl _ _ 24 rfl (X.heap.size + 1) 42 i0 _ 16 Try.underlying24 hi hz0 hz1 hz2 rfl (by decide) (.slice (some ⟨X.heap.size + 1, 0, none⟩) 0 0) [] rfl OB.out _ _ _ (m.take (j + 1)) rfl NK.out LB.out LE1.out (by simp) ?_; intro A5 n5 k5 w5 hn5 ho5 hb5 hg5; have e0' := (hb5.cell (p := ⟨w3.heap.size, 0, none⟩) (Nat.lt_succ_of_lt hsX)).trans J0; have e1' := (hb5.cell (p := ⟨w3.heap.size, 1, none⟩) (Nat.lt_succ_of_lt hsX)).trans J1; have HO5 := Lib.hid ho5; have HS5 := Lib.hid (slAt_one ((hb5.block X.heap.size (Nat.lt_succ_self _)).trans EB.out)); have HB5 := Lib.hid (HBX.out.trans ((BB.out.trans (hb5.mono (Nat.le_succ _))).mono hsX)); have HZ5 : Hid (X.heap.size + 1 ≤ w5.heap.size) := Nat.le_trans (by simp) hb5.size; have HZ5' : Hid (w3.heap.size + 1 ≤ X.heap.size + 1) := Nat.le_succ_of_le hsX; have HQ5 := Lib.hid (BB.out.trans (hb5.mono (Nat.le_succ _))); have HY5 : Hid (X.heap.size ≤ X.heap.size + 1) := Nat.le_succ _; clear hn5 ho5 hb5 hg5))
                  all_goals (
                    have HA6 : Hid (SlAt pairS w6 (some ⟨b, off, none⟩) m) := HAX.out.below HBQ.out
                    have LE6 : Hid (([] ++ m.take (j + 1) ++ [(z, y)]).length + (m.drop (j + 1)).length ≤ 1048576) := by show _ ≤ _; simp only [List.length_append, List.length_take, List.length_drop, List.length_nil, List.length_cons]; omega
                    have ND : Hid (m.length - (j + 1) = (m.drop (j + 1)).length) := by show _ = _; rw [List.length_drop]
                    have HZ6 : Hid (w3.heap.size + 1 ≤ w6.heap.size) := Nat.le_trans hsX HBQ.out.size
                    go_wp2_with (at_builtin; refine wpList_append_slsv pairS _ rfl _ _ 24 rfl (w3.heap.size + 1) 42 i0 _ 16 Try.underlying24 hi hz0 hz1 hz2 rfl (by decide) _ ([] ++ m.take (j + 1) ++ [(z, y)]) rfl HO6.out _ _ _ (m.drop (j + 1)) rfl ND.out (HA6.out.dropIf j c3 hcap) LE6.out HZ6.out ?_; intro A7 n7 k7 w7 hn7 ho7 hb7; have HN7 := Lib.hid hn7; have HO7 := Lib.hid ho7; have HB7 := Lib.hid (HB6.out.trans hb7); clear hn7 ho7 hb7)
                    all_goals (
                      go_roundw
                      case rel =>
                        refine ⟨kk + 1, A7, n7, k7, by omega, by go_num, rfl, ?_, ?_⟩
                        · exact OB3.out.trans ((((Below.refl _ w3).alloc (Nat.le_refl _) _).trans (HB7.out.mono (Nat.le_succ _))).mono OS3.out)
                        · have := HO7.out
                          rw [take_drop_put HKE.out, OSN.out] at this
                          exact this.base (Nat.le_succ_of_le OS3.out)
                      case measure => (simp [intOf]; omega)))
              · have d2 : (z == x1) = false := by simp [h2]
                go_wp2
                go_quiet (fail)
                go_wp2
                have HKE : Hid (j + 1 = putK m (z, y) m.length) := HS.out (by simp [antLt, *])
                obtain ⟨X, hX⟩ : ∃ X, X = wr.drewN nq := ⟨_, rfl⟩
                have HBX : Hid (Below (w3.heap.size + 1) (w3.alloc (Obj.cells #[Value.int IntKind.i64 z, Value.int IntKind.i64 y] 42)) X) := by rw [hX]; exact ⟨HB.out.os, HB.out.tape, HB.out.output, HB.out.size, HB.out.block⟩
                have HAX : Hid (SlAt pairS X (some ⟨b, off, none⟩) m) := by rw [hX]; exact antsAt_sl HA.out
                have x0 : X.cell? ⟨w3.heap.size, 0, none⟩ = some (.int .i64 z) := by rw [hX]; exact c0
                have x1 : X.cell? ⟨w3.heap.size, 1, none⟩ = some (.int .i64 y) := by rw [hX]; exact c1
                have hsX : w3.heap.size < X.heap.size := by rw [hX]; exact hs
                rw [← hX]
                clear hX c0 c1 hs
                have p0 : X.drew.cell? ⟨w3.heap.size, 0, none⟩ = some (.int .i64 z) := x0
                have p1 : X.drew.cell? ⟨w3.heap.size, 1, none⟩ = some (.int .i64 y) := x1
                have D0 : (X.alloc (Obj.cells #[] 42)).drew.cell? ⟨w3.heap.size, 0, none⟩ = some (.int .i64 z) := alloc_some x0 _
                have D1 : (X.alloc (Obj.cells #[] 42)).drew.cell? ⟨w3.heap.size, 1, none⟩ = some (.int .i64 y) := alloc_some x1 _
                have F0 : (X.alloc (Obj.cells #[.int .i64 z, .int .i64 y] 42)).drew.cell? ⟨w3.heap.size, 0, none⟩ = some (.int .i64 z) := alloc_some x0 _
                have F1 : (X.alloc (Obj.cells #[.int .i64 z, .int .i64 y] 42)).drew.cell? ⟨w3.heap.size, 1, none⟩ = some (.int .i64 y) := alloc_some x1 _
                have G0 : ((X.alloc (Obj.cells #[] 42)).alloc (Obj.cells #[.int .i64 z, .int .i64 y] 42)).drew.cell? ⟨w3.heap.size, 0, none⟩ = some (.int .i64 z) := alloc_some (alloc_some x0 _) _
                have G1 : ((X.alloc (Obj.cells #[] 42)).alloc (Obj.cells #[.int .i64 z, .int .i64 y] 42)).drew.cell? ⟨w3.heap.size, 1, none⟩ = some (.int .i64 y) := alloc_some (alloc_some x1 _) _
                have J0 : ((X.alloc (Obj.cells #[.int .i64 z, .int .i64 y] 42)).alloc (Obj.cells #[] 42)).drew.cell? ⟨w3.heap.size, 0, none⟩ = some (.int .i64 z) := alloc_some (alloc_some x0 _) _
                have J1 : ((X.alloc (Obj.cells #[.int .i64 z, .int .i64 y] 42)).alloc (Obj.cells #[] 42)).drew.cell? ⟨w3.heap.size, 1, none⟩ = some (.int .i64 y) := alloc_some (alloc_some x1 _) _
                have BA1 : Hid (Below X.heap.size X (X.alloc (Obj.cells #[] 42)).drew) := (((Below.refl _ X).alloc (Nat.le_refl _) _).drew)
                have BA2 : Hid (Below X.heap.size X ((X.alloc (Obj.cells #[] 42)).alloc (Obj.cells #[.int .i64 z, .int .i64 y] 42)).drew) := ((((Below.refl _ X).alloc (Nat.le_refl _) _).alloc (by simp) _).drew)
                have BB : Hid (Below X.heap.size X ((X.alloc (Obj.cells #[.int .i64 z, .int .i64 y] 42)).alloc (Obj.cells #[] 42)).drew) := ((((Below.refl _ X).alloc (Nat.le_refl _) _).alloc (by simp) _).drew)
                have OA1 : Hid (SlOwn pairS (X.alloc (Obj.cells #[] 42)).drew X.heap.size 42 (.slice (some ⟨X.heap.size, 0, none⟩) 0 0) []) := own_empty pairS X _
                have OA2 : Hid (SlOwn pairS ((X.alloc (Obj.cells #[] 42)).alloc (Obj.cells #[.int .i64 z, .int .i64 y] 42)).drew X.heap.size 42 (.slice (some ⟨X.heap.size, 0, none⟩) 0 0) []) := (own_empty pairS X 42).below (((Below.refl _ _).alloc (Nat.le_refl _) _).drew)
                have OB : Hid (SlOwn pairS ((X.alloc (Obj.cells #[.int .i64 z, .int .i64 y] 42)).alloc (Obj.cells #[] 42)).drew (X.heap.size + 1) 42 (.slice (some ⟨X.heap.size + 1, 0, none⟩) 0 0) []) := own_empty_n pairS (X.alloc (Obj.cells #[.int .i64 z, .int .i64 y] 42)) _ (by simp)
                have LA1 : Hid (SlAt pairS (X.alloc (Obj.cells #[] 42)).drew (some ⟨b, off, none⟩) (m.take (j + 1))) := (HAX.out.below BA1.out).take _
                have LA2 : Hid (SlAt pairS ((X.alloc (Obj.cells #[] 42)).alloc (Obj.cells #[.int .i64 z, .int .i64 y] 42)).drew (some ⟨b, off, none⟩) (m.take (j + 1))) := (HAX.out.below BA2.out).take _
                have LB : Hid (SlAt pairS ((X.alloc (Obj.cells #[.int .i64 z, .int .i64 y] 42)).alloc (Obj.cells #[] 42)).drew (some ⟨b, off, none⟩) (m.take (j + 1))) := (HAX.out.below BB.out).take _
                have NK : Hid (j + 1 = (m.take (j + 1)).length) := by show _ = _; simp only [List.length_take]; omega
                have LE1 : Hid (([] : List (Int × Int)).length + (m.take (j + 1)).length ≤ 1048576) := by show _ ≤ _; simp only [List.length_take, List.length_nil]; omega
                have LE2 : Hid (([] ++ m.take (j + 1)).length + [(z, y)].length ≤ 1048576) := by show _ ≤ _; simp only [List.length_append, List.length_take, List.length_nil, List.length_cons]; omega
                have EA2 : Hid (((X.alloc (Obj.cells #[] 42)).alloc (Obj.cells #[.int .i64 z, .int .i64 y] 42)).drew.heap[X.heap.size + 1]? = some (Obj.cells #[.int .i64 z, .int .i64 y] 42)) := heap_new (w := X.alloc (Obj.cells #[] 42)) (by simp)
                have EB : Hid (((X.alloc (Obj.cells #[.int .i64 z, .int .i64 y] 42)).alloc (Obj.cells #[] 42)).drew.heap[X.heap.size]? = some (Obj.cells #[.int .i64 z, .int .i64 y] 42)) := (((Below.refl (X.heap.size + 1) (X.alloc (Obj.cells #[.int .i64 z, .int .i64 y] 42))).alloc (by simp) (Obj.cells #[] 42)).block X.heap.size (by omega)).trans (heap_new (w := X) rfl)
                go_region_held3 (fun w' => w'.cell? ⟨w3.heap.size, 0, none⟩ = some (.int .i64 z) ∧ w'.cell? ⟨w3.heap.size, 1, none⟩ = some (.int .i64 y))
                  (first | exact ⟨c0'', c1''⟩ | exact ⟨e0', e1'⟩ | exact ⟨c0', c1'⟩ | exact ⟨D0, D1⟩ | exact ⟨F0, F1⟩ | exact ⟨G0, G1⟩ | exact ⟨J0, J1⟩ | go_keep)
                  (first
                    | (refine step_append_slsv pairS _ rfl _ _ 24 rfl _ 42 i0 _ 16 Try.underlying24 hi hz0 hz1 hz2 rfl (by decide) _ ([] ++ m.take (j + 1)) rfl HO5.out _ 1 1 [(z, y)] rfl rfl HS5.out LE2.out HZ5.out ?_; intro A6 n6 k6 w6 hn6 ho6 hb6 hg6; have HN6 := Lib.hid hn6; have HO6 : Hid (SlOwn pairS w6 (w3.heap.size + 1) 42 (.slice A6 n6 k6) ([] ++ m.take (j + 1) ++ [(z, y)])) := ho6.base HZ5'.out; have HB6 := Lib.hid (HB5.out.trans (hb6.mono HZ5'.out)); have HBQ := Lib.hid (HQ5.out.trans (hb6.mono HY5.out)); have c0'' := (hb6.cell (p := ⟨w3.heap.size, 0, none⟩) HZ5'.out).trans e0'; have c1'' := (hb6.cell (p := ⟨w3.heap.size, 1, none⟩) HZ5'.out).trans e1'; clear hn6 ho6 hb6 hg6)
                    | (refine step_append_slsv pairS _ rfl _ _ 24 rfl X.heap.size 42 i0 _ 16 Try.underlying24 hi hz0 hz1 hz2 rfl (by decide) (.slice (some ⟨X.heap.size, 0, none⟩) 0 0) [] rfl OA1.out _ _ _ (m.take (j + 1)) rfl NK.out LA1.out LE1.out (by simp) ?_; intro A5 n5 k5 w5 hn5 ho5 hb5 hg5; have c0' := (hb5.cell (p := ⟨w3.heap.size, 0, none⟩) hsX).trans D0; have c1' := (hb5.cell (p := ⟨w3.heap.size, 1, none⟩) hsX).trans D1; have e0' := alloc_some c0' (Obj.cells #[.int .i64 z, .int .i64 y] 42); have e1' := alloc_some c1' (Obj.cells #[.int .i64 z, .int .i64 y] 42); have HO5 := Lib.hid (ho5.below ((Below.refl _ _).alloc (Nat.le_refl _) (Obj.cells #[.int .i64 z, .int .i64 y] 42))); have HS5 := Lib.hid (slAt_one (heap_new (w := w5) (o := Obj.cells #[.int .i64 z, .int .i64 y] 42) rfl)); have HB5 := Lib.hid ((HBX.out.trans ((BA1.out.trans hb5).mono hsX)).alloc (Nat.le_trans hsX (BA1.out.trans hb5).size) (Obj.cells #[.int .i64 z, .int .i64 y] 42)); have HZ5 : Hid (X.heap.size ≤ (w5.alloc (Obj.cells #[.int .i64 z, .int .i64 y] 42)).heap.size) := Nat.le_trans (BA1.out.trans hb5).size ((Below.refl 0 w5).alloc (Nat.zero_le _) _).size; have HZ5' : Hid (w3.heap.size + 1 ≤ X.heap.size) := hsX; have HQ5 := Lib.hid ((BA1.out.trans hb5).alloc (BA1.out.trans hb5).size (Obj.cells #[.int .i64 z, .int .i64 y] 42)); have HY5 : Hid (X.heap.size ≤ X.heap.size) := Nat.le_refl _; clear hn5 ho5 hb5 hg5)
                    | (refine step_append_slsv pairS _ rfl _ _ 24 rfl X.heap.size 42 i0 _ 16 Try.underlying24 hi hz0 hz1 hz2 rfl (by decide) (.slice (some ⟨X.heap.size, 0, none⟩) 0 0) [] rfl OA2.out _ _ _ (m.take (j + 1)) rfl NK.out LA2.out LE1.out (by simp; omega) ?_; intro A5 n5 k5 w5 hn5 ho5 hb5 hg5; have e0' := (hb5.cell (p := ⟨w3.heap.size, 0, none⟩) hsX).trans G0; have e1' := (hb5.cell (p := ⟨w3.heap.size, 1, none⟩) hsX).trans G1; have HO5 := Lib.hid ho5; have HS5 := Lib.hid (slAt_one ((hg5.block (X.heap.size + 1) (Array.getElem?_eq_some_iff.1 EA2.out).1 (by simp [Value.ownBlock])).trans EA2.out)); have HB5 := Lib.hid (HBX.out.trans ((BA2.out.trans hb5).mono hsX)); have HZ5 : Hid (X.heap.size ≤ w5.heap.size) := (BA2.out.trans hb5).size; have HZ5' : Hid (w3.heap.size + 1 ≤ X.heap.size) := hsX; have HQ5 := Lib.hid (BA2.out.trans hb5); have HY5 : Hid (X.heap.size ≤ X.heap.size) := Nat.le_refl _; clear hn5 ho5 hb5 hg5)
                    | (refine step_append_slsv pairS _ rfl _ _ 24 rfl (X.heap.size + 1) 42 i0 _ 16 Try.underlying24 hi hz0 hz1 hz2 rfl (by decide) (.slice (some ⟨X.heap.size + 1, 0, none⟩) 0 0) [] rfl OB.out _ _ _ (m.take (j + 1)) rfl NK.out LB.out LE1.out (by simp) ?_; intro A5 n5 k5 w5 hn5 ho5 hb5 hg5; have e0' := (hb5.cell (p := ⟨w3.heap.size, 0, none⟩) (Nat.lt_succ_of_lt hsX)).trans J0; have e1' := (hb5.cell (p := ⟨w3.heap.size, 1, none⟩) (Nat.lt_succ_of_lt hsX)).trans J1; have HO5 := Lib.hid ho5; have HS5 := Lib.hid (slAt_one ((hb5.block X.heap.size (Nat.lt_succ_self _)).trans EB.out)); have HB5 := Lib.hid (HBX.out.trans ((BB.out.trans (hb5.mono (Nat.le_succ _))).mono hsX)); have HZ5 : Hid (X.heap.size + 1 ≤ w5.heap.size) := Nat.le_trans (by simp) hb5.size; have HZ5' : Hid (w3.heap.size + 1 ≤ X.heap.size + 1) := Nat.le_succ_of_le hsX; have HQ5 := Lib.hid (BB.out.trans (hb5.mono (Nat.le_succ _))); have HY5 : Hid (X.heap.size ≤ X.heap.size + 1) := Nat.le_succ _; clear hn5 ho5 hb5 hg5))
                all_goals (
                  have HA6 : Hid (SlAt pairS w6 (some ⟨b, off, none⟩) m) := HAX.out.below HBQ.out
                  have LE6 : Hid (([] ++ m.take (j + 1) ++ [(z, y)]).length + (m.drop (j + 1)).length ≤ 1048576) := by show _ ≤ _; simp only [List.length_append, List.length_take, List.length_drop, List.length_nil, List.length_cons]; omega
                  have ND : Hid (m.length - (j + 1) = (m.drop (j + 1)).length) := by show _ = _; rw [List.length_drop]
                  have HZ6 : Hid (w3.heap.size + 1 ≤ w6.heap.size) := Nat.le_trans hsX HBQ.out.size
                  go_wp2_with (at_builtin; refine wpList_append_slsv pairS _ rfl _ _ 24 rfl (w3.heap.size + 1) 42 i0 _ 16 Try.underlying24 hi hz0 hz1 hz2 rfl (by decide) _ ([] ++ m.take (j + 1) ++ [(z, y)]) rfl HO6.out _ _ _ (m.drop (j + 1)) rfl ND.out (HA6.out.dropIf j c3 hcap) LE6.out HZ6.out ?_; intro A7 n7 k7 w7 hn7 ho7 hb7; have HN7 := Lib.hid hn7; have HO7 := Lib.hid ho7; have HB7 := Lib.hid (HB6.out.trans hb7); clear hn7 ho7 hb7)
                  all_goals (
                    go_roundw
                    case rel =>
                      refine ⟨kk + 1, A7, n7, k7, by omega, by go_num, rfl, ?_, ?_⟩
                      · exact OB3.out.trans ((((Below.refl _ w3).alloc (Nat.le_refl _) _).trans (HB7.out.mono (Nat.le_succ _))).mono OS3.out)
                      · have := HO7.out
                        rw [take_drop_put HKE.out, OSN.out] at this
                        exact this.base (Nat.le_succ_of_le OS3.out)
                    case measure => (simp [intOf]; omega)))
    · obtain rfl : kk = l.length := by omega
      have HE : Hid (l.take l.length = l) := List.take_length
      go_wp2
      go_ret
      refine ⟨A3, n3, c3, rfl, by rw [ON.out, HE.out], ?_, ((Below.refl _ _).alloc (Nat.le_refl _) _).trans (OB.out.mono (by simp))⟩
      have := OO.out
      rw [HE.out] at this
      exact this.base (Nat.le_succ _)
end Go.Proofs.Ythfacfoclekcbaa
