/- The model's ghosts at a time: each put into its place. -/
import Derived.Test.YtlepdphdflpoaaaGho
import Derived.Test.YtlepdphdflpoaaaBehind
import Derived.Test.YtlepdphdflpoaaaTimes
namespace Go.Proofs.Ytlepdphdflpoaaa
open Go.RowKit

theorem insA_eq {m : List (Int × Int)} {x : Int × Int} {K : Nat} (h : kA m x = K) : [] ++ m.take K ++ [x] ++ m.drop K = insA m x := by
  subst h; unfold insA; rfl

set_option maxRecDepth 100000 in
set_option maxHeartbeats 4000000 in
theorem spGhosts_any (A : Option Addr) (c : Nat) (l : List (Int × Int)) (n d : Int) (w : World) (hg : rnnB l = true) (ht : timB n d = true) (hA : AntsAt w A l) :
    Calls Try.prog 68 #[.slice A l.length c, .agg #[.int .i64 n, .int .i64 d]] w fun e w' => ∃ A' n' c', e = .returned (.slice A' n' c') ∧ n' = l.length ∧ SlOwn pairS w' w.heap.size 64 (.slice A' n' c') (ghL n d l) ∧ Below w.heap.size w w' := by
  obtain ⟨i0, hi, hz0, hz1, hz2⟩ := info_parts runInfo
  have HA := Lib.hid (hA.alloc (Obj.cells #[Value.int IntKind.i64 n, Value.int IntKind.i64 d] 32))
  have hl12 := rnn_len hg
  have hti := (timB_iff n d).1 ht
  have HKB : Hid (∀ k, k < l.length → 0 ≤ (l.getD k (0, 0)).1 * d ∧ (l.getD k (0, 0)).1 * d ≤ 1000000 ∧ -9000000 ≤ (l.getD k (0, 0)).2 * n ∧ (l.getD k (0, 0)).2 * n ≤ 9000000) := fun k hk => key_bound (N := n) (D := d) hti.1 hti.2.1 hti.2.2.1 hti.2.2.2.1 (rnn_one hg hk)
  clear hA hg ht hti
  obtain ⟨W0, hW0⟩ : ∃ X, X = w.alloc (Obj.cells #[Value.int IntKind.i64 n, Value.int IntKind.i64 d] 32) := ⟨_, rfl⟩
  have C0 : Hid (W0.cell? ⟨w.heap.size, 0, none⟩ = some (.int .i64 n)) := by show _ = _; rw [hW0]; simp
  have C1 : Hid (W0.cell? ⟨w.heap.size, 1, none⟩ = some (.int .i64 d)) := by show _ = _; rw [hW0]; simp
  have HB0 : Hid (Below w.heap.size w W0) := by show Below _ _ _; rw [hW0]; exact (Below.refl _ _).alloc (Nat.le_refl _) _
  rw [← hW0] at HA
  go_enter Try.func68, Try.ntmps68
  go_wp2
  rw [← hW0]
  clear hW0
  go_loopw [5, 13] (fun v i wr => ∃ (k : Nat) (A3 : Option Addr) (n3 c3 : Nat), k ≤ l.length ∧ i = .int .i64 k ∧ v = .slice A3 n3 c3 ∧ Below W0.heap.size W0 wr ∧ SlOwn pairS wr W0.heap.size 64 (.slice A3 n3 c3) (ghL n d (l.take k)))
    (fun _ i _ => l.length - (intOf i).toNat)
  case atStart => exact ⟨0, none, 0, 0, Nat.zero_le _, rfl, rfl, Below.refl _ _, by rw [List.take_zero, ghL_nil]; exact SlOwn.nil pairS _ _ _⟩
  case round =>
    obtain ⟨k, A6, n6, c6, hk, rfl, rfl, hbr, hown⟩ := hrel
    obtain ⟨W1, rfl⟩ : ∃ W, W = wr := ⟨_, rfl⟩
    have HB11 := Lib.hid hbr
    have hs11 := hbr.size
    have HAr := Lib.hid (HA.out.below hbr)
    have HO := Lib.hid hown
    have c0 := Below.cell_some hbr C0.out
    have c1 := Below.cell_some hbr C1.out
    have hsl : w.heap.size < W1.heap.size := World.block_lt_of_cell? _ _ c0
    clear hbr hown
    by_cases hlt : k < l.length
    · obtain ⟨b1, off1, rfl, l0, hc⟩ := HAr.out.at_ hlt
      obtain ⟨a0, a1⟩ := hc k hlt
      have hkb := HKB.out k hlt
      have HSN := Lib.hid (ghL_snoc n d l k hlt)
      have hml : (ghL n d (l.take k)).length ≤ 12 := by rw [ghL_len, List.length_take]; omega
      clear hc
      generalize l.getD k (0, 0) = x at *
      obtain ⟨x1, x2⟩ := x
      simp only at a0 a1 hkb
      have hw1 : IntKind.i64.wrap (x1 * d) = x1 * d := IntWalk.i64_in _ (by omega)
      have hw2 : IntKind.i64.wrap (x2 * n) = x2 * n := IntWalk.i64_in _ (by omega)
      have hw3 : IntKind.i64.wrap (x1 * d + x2 * n) = x1 * d + x2 * n := IntWalk.i64_in _ (by omega)
      obtain ⟨T, hT⟩ : ∃ T, x1 * d + x2 * n = T := ⟨_, rfl⟩
      have hw4 : IntKind.i64.wrap T = T := by rw [← hT]; exact hw3
      obtain ⟨P, hP⟩ : ∃ P, x2 = P := ⟨_, rfl⟩
      have HSN2 : Hid (ghL n d (l.take (k + 1)) = insA (ghL n d (l.take k)) (T, P)) := by show _ = _; rw [HSN.out]; unfold keyR; simp only; rw [hT, hP]
      subst hP
      generalize ghL n d (l.take k) = m at *
      have hn6 := own_len HO.out
      subst hn6
      have hcap6 : m.length ≤ c6 := own_cap HO.out
      obtain ⟨W3, hW3⟩ : ∃ X, X = (W1.alloc (Obj.cells #[Value.int IntKind.i64 x1, Value.int IntKind.i64 x2] 64)).alloc (Obj.cells #[Value.int IntKind.i64 T, Value.int IntKind.i64 x2] 64) := ⟨_, rfl⟩
      have Z0 : Hid (W3.cell? ⟨W1.heap.size + 1, 0, none⟩ = some (.int .i64 T)) := by show _ = _; rw [hW3]; simp [go_sem]
      have Z1 : Hid (W3.cell? ⟨W1.heap.size + 1, 1, none⟩ = some (.int .i64 x2)) := by show _ = _; rw [hW3]; simp [go_sem]
      have HZ3 : Hid (W1.heap.size + 1 < W3.heap.size) := by show _ < _; rw [hW3]; simp
      have hb13 : Below W1.heap.size W1 W3 := by rw [hW3]; exact ((Below.refl _ _).alloc (Nat.le_refl _) _).alloc (by simp) _
      have HM3 : Hid (SlAt pairS W3 A6 m) := HO.out.sl.below hb13
      have HB13 := Lib.hid (HB11.out.trans (hb13.mono hs11))
      have HS13 : Hid (W0.heap.size ≤ W3.heap.size) := HB13.out.size
      have HNE : Hid (∀ {K}, kA m (T, x2) = K → [] ++ m.take K ++ [(T, x2)] ++ m.drop K = ghL n d (l.take (k + 1))) := fun h1 => by rw [HSN2.out]; exact insA_eq h1
      clear hb13
      go_wp2
      rw [← hW3]
      clear hW3 hw3 hw4 hT
      obtain ⟨P, rfl⟩ : ∃ P, P = x2 := ⟨_, rfl⟩
      go_loopw [9] (fun i w4 => ∃ kk : Nat, kk ≤ m.length ∧ i = .int .i64 kk ∧ (∀ j, j < kk → antLt (m.getD j (0, 0)) (T, P) = true) ∧ Below W3.heap.size W3 w4) (fun i _ => m.length - (intOf i).toNat)
      case atStart => exact ⟨0, Nat.zero_le _, rfl, fun j hj => absurd hj (Nat.not_lt_zero j), Below.refl _ _⟩
      case round =>
        obtain ⟨kk, hkk, rfl, hall, hb4⟩ := hrel
        obtain ⟨W4, rfl⟩ : ∃ W, W = wr := ⟨_, rfl⟩
        have HB4 := Lib.hid hb4
        have HALL := Lib.hid hall
        have g0 := Below.cell_some hb4 Z0.out
        have g1 := Below.cell_some hb4 Z1.out
        clear hb4 hall a0 a1 c0 c1
        by_cases hkl2 : kk < m.length
        · obtain ⟨b, off, rfl, l2, hc2⟩ := (slAt_ants (HM3.out.below HB4.out)).at_ hkl2
          obtain ⟨b0, b1'⟩ := hc2 kk hkl2
          have HST : Hid (antLt (m.getD kk (0, 0)) (T, P) = false → kA m (T, P) = kk) := fun h => kA_stop hkk HALL.out (fun _ => h)
          obtain ⟨v, hv⟩ : ∃ v, m.getD kk (0, 0) = v := ⟨_, rfl⟩
          have HV := Lib.hid hv
          rw [hv] at b0 b1' HST
          clear hc2 hv
          obtain ⟨v1, v2⟩ := v
          simp only at b0 b1'
          have hk1 : (kk : Int) ≤ (c6 : Int) := by omega
          have hk2 : (kk : Int) ≤ (m.length : Int) := by omega
          have hk3 : (m.length : Int) ≤ (c6 : Int) := by omega
          by_cases h1 : v1 < T
          · have HAL : Hid (∀ j, j < kk + 1 → antLt (m.getD j (0, 0)) (T, P) = true) := fun j hj => by
              by_cases e : j = kk
              · subst e; rw [HV.out]; simp [antLt, *]
              · exact HALL.out j (by omega)
            go_wp2
            go_quiet (fail)
            go_wp2
            go_roundw
            case rel => exact ⟨kk + 1, by omega, by go_num, HAL.out, ⟨HB4.out.os, HB4.out.tape, HB4.out.output, HB4.out.size, HB4.out.block⟩⟩
            case measure => simp [intOf]; omega
          · have hd1 : decide (v1 < T) = false := by simpa using h1
            by_cases h2 : v1 = T
            · have h2' : T = v1 := h2.symm
              subst h2'
              by_cases h3 : v2 < P
              · have HAL : Hid (∀ j, j < kk + 1 → antLt (m.getD j (0, 0)) (T, P) = true) := fun j hj => by
                  by_cases e : j = kk
                  · subst e; rw [HV.out]; simp [antLt, *]
                  · exact HALL.out j (by omega)
                go_wp2
                go_quiet (fail)
                go_wp2
                go_roundw
                case rel => exact ⟨kk + 1, by omega, by go_num, HAL.out, ⟨HB4.out.os, HB4.out.tape, HB4.out.output, HB4.out.size, HB4.out.block⟩⟩
                case measure => simp [intOf]; omega
              · have hd3 : decide (v2 < P) = false := by simpa using h3
                have HKK := Lib.hid (HST.out (by simp [antLt, h3]))
                go_wp2
                go_quiet (fail)
                go_wp2
                have HKE : Hid (kA m (T, P) = kk) := HKK.out
                obtain ⟨X, hX⟩ : ∃ X, X = W4.drewN nq := ⟨_, rfl⟩
                have HBX : Hid (Below W3.heap.size W3 X) := by rw [hX]; exact ⟨HB4.out.os, HB4.out.tape, HB4.out.output, HB4.out.size, HB4.out.block⟩
                have HAX : Hid (SlAt pairS X (some ⟨b, off, none⟩) m) := HM3.out.below HBX.out
                have x0 : X.cell? ⟨W1.heap.size + 1, 0, none⟩ = some (.int .i64 T) := Below.cell_some HBX.out Z0.out
                have x1 : X.cell? ⟨W1.heap.size + 1, 1, none⟩ = some (.int .i64 P) := Below.cell_some HBX.out Z1.out
                have hsX : W1.heap.size + 1 < X.heap.size := Nat.lt_of_lt_of_le HZ3.out HBX.out.size
                have h3X : W3.heap.size ≤ X.heap.size := HBX.out.size
                rw [← hX]
                clear hX
                have p0 : X.drew.cell? ⟨W1.heap.size + 1, 0, none⟩ = some (.int .i64 T) := x0
                have p1 : X.drew.cell? ⟨W1.heap.size + 1, 1, none⟩ = some (.int .i64 P) := x1
                have D0 : (X.alloc (Obj.cells #[] 64)).drew.cell? ⟨W1.heap.size + 1, 0, none⟩ = some (.int .i64 T) := alloc_some x0 _
                have D1 : (X.alloc (Obj.cells #[] 64)).drew.cell? ⟨W1.heap.size + 1, 1, none⟩ = some (.int .i64 P) := alloc_some x1 _
                have F0 : (X.alloc (Obj.cells #[.int .i64 T, .int .i64 P] 64)).drew.cell? ⟨W1.heap.size + 1, 0, none⟩ = some (.int .i64 T) := alloc_some x0 _
                have F1 : (X.alloc (Obj.cells #[.int .i64 T, .int .i64 P] 64)).drew.cell? ⟨W1.heap.size + 1, 1, none⟩ = some (.int .i64 P) := alloc_some x1 _
                have G0 : ((X.alloc (Obj.cells #[] 64)).alloc (Obj.cells #[.int .i64 T, .int .i64 P] 64)).drew.cell? ⟨W1.heap.size + 1, 0, none⟩ = some (.int .i64 T) := alloc_some (alloc_some x0 _) _
                have G1 : ((X.alloc (Obj.cells #[] 64)).alloc (Obj.cells #[.int .i64 T, .int .i64 P] 64)).drew.cell? ⟨W1.heap.size + 1, 1, none⟩ = some (.int .i64 P) := alloc_some (alloc_some x1 _) _
                have J0 : ((X.alloc (Obj.cells #[.int .i64 T, .int .i64 P] 64)).alloc (Obj.cells #[] 64)).drew.cell? ⟨W1.heap.size + 1, 0, none⟩ = some (.int .i64 T) := alloc_some (alloc_some x0 _) _
                have J1 : ((X.alloc (Obj.cells #[.int .i64 T, .int .i64 P] 64)).alloc (Obj.cells #[] 64)).drew.cell? ⟨W1.heap.size + 1, 1, none⟩ = some (.int .i64 P) := alloc_some (alloc_some x1 _) _
                have BA1 : Hid (Below X.heap.size X (X.alloc (Obj.cells #[] 64)).drew) := (((Below.refl _ X).alloc (Nat.le_refl _) _).drew)
                have BA2 : Hid (Below X.heap.size X ((X.alloc (Obj.cells #[] 64)).alloc (Obj.cells #[.int .i64 T, .int .i64 P] 64)).drew) := ((((Below.refl _ X).alloc (Nat.le_refl _) _).alloc (by simp) _).drew)
                have BB : Hid (Below X.heap.size X ((X.alloc (Obj.cells #[.int .i64 T, .int .i64 P] 64)).alloc (Obj.cells #[] 64)).drew) := ((((Below.refl _ X).alloc (Nat.le_refl _) _).alloc (by simp) _).drew)
                have OA1 : Hid (SlOwn pairS (X.alloc (Obj.cells #[] 64)).drew X.heap.size 64 (.slice (some ⟨X.heap.size, 0, none⟩) 0 0) []) := own_empty pairS X _
                have OA2 : Hid (SlOwn pairS ((X.alloc (Obj.cells #[] 64)).alloc (Obj.cells #[.int .i64 T, .int .i64 P] 64)).drew X.heap.size 64 (.slice (some ⟨X.heap.size, 0, none⟩) 0 0) []) := (own_empty pairS X 64).below (((Below.refl _ _).alloc (Nat.le_refl _) _).drew)
                have OB2 : Hid (SlOwn pairS ((X.alloc (Obj.cells #[.int .i64 T, .int .i64 P] 64)).alloc (Obj.cells #[] 64)).drew (X.heap.size + 1) 64 (.slice (some ⟨X.heap.size + 1, 0, none⟩) 0 0) []) := own_empty_n pairS (X.alloc (Obj.cells #[.int .i64 T, .int .i64 P] 64)) _ (by simp)
                have LA1 : Hid (SlAt pairS (X.alloc (Obj.cells #[] 64)).drew (some ⟨b, off, none⟩) (m.take (kk))) := (HAX.out.below BA1.out).take _
                have LA2 : Hid (SlAt pairS ((X.alloc (Obj.cells #[] 64)).alloc (Obj.cells #[.int .i64 T, .int .i64 P] 64)).drew (some ⟨b, off, none⟩) (m.take (kk))) := (HAX.out.below BA2.out).take _
                have LB : Hid (SlAt pairS ((X.alloc (Obj.cells #[.int .i64 T, .int .i64 P] 64)).alloc (Obj.cells #[] 64)).drew (some ⟨b, off, none⟩) (m.take (kk))) := (HAX.out.below BB.out).take _
                have NK : Hid (kk = (m.take (kk)).length) := by show _ = _; simp only [List.length_take]; omega
                have LE1 : Hid (([] : List (Int × Int)).length + (m.take (kk)).length ≤ 1048576) := by show _ ≤ _; simp only [List.length_take, List.length_nil]; omega
                have LE2 : Hid (([] ++ m.take (kk)).length + [(T, P)].length ≤ 1048576) := by show _ ≤ _; simp only [List.length_append, List.length_take, List.length_nil, List.length_cons]; omega
                have EA2 : Hid (((X.alloc (Obj.cells #[] 64)).alloc (Obj.cells #[.int .i64 T, .int .i64 P] 64)).drew.heap[X.heap.size + 1]? = some (Obj.cells #[.int .i64 T, .int .i64 P] 64)) := heap_new (w := X.alloc (Obj.cells #[] 64)) (by simp)
                have EB : Hid (((X.alloc (Obj.cells #[.int .i64 T, .int .i64 P] 64)).alloc (Obj.cells #[] 64)).drew.heap[X.heap.size]? = some (Obj.cells #[.int .i64 T, .int .i64 P] 64)) := (((Below.refl (X.heap.size + 1) (X.alloc (Obj.cells #[.int .i64 T, .int .i64 P] 64))).alloc (by simp) (Obj.cells #[] 64)).block X.heap.size (by omega)).trans (heap_new (w := X) rfl)
                go_region_held3 (fun w' => w'.cell? ⟨W1.heap.size + 1, 0, none⟩ = some (.int .i64 T) ∧ w'.cell? ⟨W1.heap.size + 1, 1, none⟩ = some (.int .i64 P))
                  (first | exact ⟨c0'', c1''⟩ | exact ⟨e0', e1'⟩ | exact ⟨c0', c1'⟩ | exact ⟨D0, D1⟩ | exact ⟨F0, F1⟩ | exact ⟨G0, G1⟩ | exact ⟨J0, J1⟩ | go_keep)
                  (first
                    | (refine step_append_slsv pairS _ rfl _ _ 25 rfl _ 64 i0 _ 16 Try.underlying25 hi hz0 hz1 hz2 rfl (by decide) _ ([] ++ m.take (kk)) rfl HO5.out _ 1 1 [(T, P)] rfl rfl HS5.out LE2.out HZ5.out ?_; intro A7 n7 k7 w6 hn6 ho6 hb6 hg6; have HN6 := Lib.hid hn6; have HO6 : Hid (SlOwn pairS w6 X.heap.size 64 (.slice A7 n7 k7) ([] ++ m.take (kk) ++ [(T, P)])) := ho6.base HZ5'.out; have HBQ := Lib.hid (HQ5.out.trans (hb6.mono HY5.out)); have c0'' := (hb6.cell (p := ⟨W1.heap.size + 1, 0, none⟩) (Nat.lt_of_lt_of_le hsX HZ5'.out)).trans e0'; have c1'' := (hb6.cell (p := ⟨W1.heap.size + 1, 1, none⟩) (Nat.lt_of_lt_of_le hsX HZ5'.out)).trans e1'; clear hn6 ho6 hb6 hg6)
                    | (refine step_append_slsv pairS _ rfl _ _ 25 rfl X.heap.size 64 i0 _ 16 Try.underlying25 hi hz0 hz1 hz2 rfl (by decide) (.slice (some ⟨X.heap.size, 0, none⟩) 0 0) [] rfl OA1.out _ _ _ (m.take (kk)) rfl NK.out LA1.out LE1.out (by simp) ?_; intro A5 n5 k5 w5 hn5 ho5 hb5 hg5; have c0' := (hb5.cell (p := ⟨W1.heap.size + 1, 0, none⟩) hsX).trans D0; have c1' := (hb5.cell (p := ⟨W1.heap.size + 1, 1, none⟩) hsX).trans D1; have e0' := alloc_some c0' (Obj.cells #[.int .i64 T, .int .i64 P] 64); have e1' := alloc_some c1' (Obj.cells #[.int .i64 T, .int .i64 P] 64); have HO5 := Lib.hid (ho5.below ((Below.refl _ _).alloc (Nat.le_refl _) (Obj.cells #[.int .i64 T, .int .i64 P] 64))); have HS5 := Lib.hid (slAt_one (a := T) (y := P) (heap_new (w := w5) (o := (Obj.cells #[.int .i64 T, .int .i64 P] 64)) rfl)); have HZ5 : Hid (X.heap.size ≤ (w5.alloc (Obj.cells #[.int .i64 T, .int .i64 P] 64)).heap.size) := Nat.le_trans (BA1.out.trans hb5).size ((Below.refl 0 w5).alloc (Nat.zero_le _) _).size; have HZ5' : Hid (X.heap.size ≤ X.heap.size) := Nat.le_refl _; have HQ5 := Lib.hid ((BA1.out.trans hb5).alloc (BA1.out.trans hb5).size (Obj.cells #[.int .i64 T, .int .i64 P] 64)); have HY5 : Hid (X.heap.size ≤ X.heap.size) := Nat.le_refl _; clear hn5 ho5 hb5 hg5)
                    | (refine step_append_slsv pairS _ rfl _ _ 25 rfl X.heap.size 64 i0 _ 16 Try.underlying25 hi hz0 hz1 hz2 rfl (by decide) (.slice (some ⟨X.heap.size, 0, none⟩) 0 0) [] rfl OA2.out _ _ _ (m.take (kk)) rfl NK.out LA2.out LE1.out (by simp; omega) ?_; intro A5 n5 k5 w5 hn5 ho5 hb5 hg5; have e0' := (hb5.cell (p := ⟨W1.heap.size + 1, 0, none⟩) hsX).trans G0; have e1' := (hb5.cell (p := ⟨W1.heap.size + 1, 1, none⟩) hsX).trans G1; have HO5 := Lib.hid ho5; have HS5 := Lib.hid (slAt_one (a := T) (y := P) ((hg5.block (X.heap.size + 1) (Array.getElem?_eq_some_iff.1 EA2.out).1 (by simp [Value.ownBlock])).trans EA2.out)); have HZ5 : Hid (X.heap.size ≤ w5.heap.size) := (BA2.out.trans hb5).size; have HZ5' : Hid (X.heap.size ≤ X.heap.size) := Nat.le_refl _; have HQ5 := Lib.hid (BA2.out.trans hb5); have HY5 : Hid (X.heap.size ≤ X.heap.size) := Nat.le_refl _; clear hn5 ho5 hb5 hg5)
                    | (refine step_append_slsv pairS _ rfl _ _ 25 rfl (X.heap.size + 1) 64 i0 _ 16 Try.underlying25 hi hz0 hz1 hz2 rfl (by decide) (.slice (some ⟨X.heap.size + 1, 0, none⟩) 0 0) [] rfl OB2.out _ _ _ (m.take (kk)) rfl NK.out LB.out LE1.out (by simp) ?_; intro A5 n5 k5 w5 hn5 ho5 hb5 hg5; have e0' := (hb5.cell (p := ⟨W1.heap.size + 1, 0, none⟩) (Nat.lt_succ_of_lt hsX)).trans J0; have e1' := (hb5.cell (p := ⟨W1.heap.size + 1, 1, none⟩) (Nat.lt_succ_of_lt hsX)).trans J1; have HO5 := Lib.hid ho5; have HS5 := Lib.hid (slAt_one (a := T) (y := P) ((hb5.block X.heap.size (Nat.lt_succ_self _)).trans EB.out)); have HZ5 : Hid (X.heap.size + 1 ≤ w5.heap.size) := Nat.le_trans (by simp) hb5.size; have HZ5' : Hid (X.heap.size ≤ X.heap.size + 1) := Nat.le_succ _; have HQ5 := Lib.hid (BB.out.trans (hb5.mono (Nat.le_succ _))); have HY5 : Hid (X.heap.size ≤ X.heap.size + 1) := Nat.le_succ _; clear hn5 ho5 hb5 hg5))
                all_goals (
                  have HA6 : Hid (SlAt pairS w6 (some ⟨b, off, none⟩) m) := HAX.out.below HBQ.out
                  have LE6 : Hid (([] ++ m.take (kk) ++ [(T, P)]).length + (m.drop (kk)).length ≤ 1048576) := by show _ ≤ _; simp only [List.length_append, List.length_take, List.length_drop, List.length_nil, List.length_cons]; omega
                  have ND : Hid (m.length - (kk) = (m.drop (kk)).length) := by show _ = _; rw [List.length_drop]
                  have HZ6 : Hid (X.heap.size ≤ w6.heap.size) := HBQ.out.size
                  have HD6 : Hid (SlAt pairS w6 (some ⟨b, off + (kk) * 2, none⟩) (m.drop (kk))) := HA6.out.drop (kk)
                  by_cases hck : c6 = kk
                  · have HNIL : Hid (m.drop (kk) = []) := List.drop_eq_nil_of_le (by omega)
                    go_wp2_with (at_builtin; refine wpList_append_slsv pairS _ rfl _ _ 25 rfl X.heap.size 64 i0 _ 16 Try.underlying25 hi hz0 hz1 hz2 rfl (by decide) _ ([] ++ m.take (kk) ++ [(T, P)]) rfl HO6.out _ _ _ (m.drop (kk)) rfl ND.out (.inl HNIL.out) LE6.out HZ6.out ?_; intro A8 n8 k8 w7 hn7 ho7 hb7; have HO7 := Lib.hid ho7; have HB7 := Lib.hid (HBX.out.trans ((HBQ.out.trans hb7).mono h3X)); clear hn7 ho7 hb7)
                    all_goals (
                      go_roundw
                      case rel =>
                        refine ⟨k + 1, A8, n8, k8, by omega, by go_num, rfl, HB13.out.trans (HB7.out.mono HS13.out), ?_⟩
                        have := HO7.out
                        rw [HNE.out HKE.out] at this
                        exact this.base (Nat.le_trans HS13.out h3X)
                      case measure => (simp [intOf]; omega))
                  · have hck2 : decide (c6 = kk) = false := by simpa using hck
                    go_wp2_with (at_builtin; refine wpList_append_slsv pairS _ rfl _ _ 25 rfl X.heap.size 64 i0 _ 16 Try.underlying25 hi hz0 hz1 hz2 rfl (by decide) _ ([] ++ m.take (kk) ++ [(T, P)]) rfl HO6.out _ _ _ (m.drop (kk)) rfl ND.out HD6.out LE6.out HZ6.out ?_; intro A8 n8 k8 w7 hn7 ho7 hb7; have HO7 := Lib.hid ho7; have HB7 := Lib.hid (HBX.out.trans ((HBQ.out.trans hb7).mono h3X)); clear hn7 ho7 hb7)
                    all_goals (
                      go_roundw
                      case rel =>
                        refine ⟨k + 1, A8, n8, k8, by omega, by go_num, rfl, HB13.out.trans (HB7.out.mono HS13.out), ?_⟩
                        have := HO7.out
                        rw [HNE.out HKE.out] at this
                        exact this.base (Nat.le_trans HS13.out h3X)
                      case measure => (simp [intOf]; omega)))
            · have hd2 : (v1 == T) = false := by simpa using h2
              have HKK := Lib.hid (HST.out (by simp [antLt, h1, h2]))
              go_wp2
              go_quiet (fail)
              go_wp2
              have HKE : Hid (kA m (T, P) = kk) := HKK.out
              obtain ⟨X, hX⟩ : ∃ X, X = W4.drewN nq := ⟨_, rfl⟩
              have HBX : Hid (Below W3.heap.size W3 X) := by rw [hX]; exact ⟨HB4.out.os, HB4.out.tape, HB4.out.output, HB4.out.size, HB4.out.block⟩
              have HAX : Hid (SlAt pairS X (some ⟨b, off, none⟩) m) := HM3.out.below HBX.out
              have x0 : X.cell? ⟨W1.heap.size + 1, 0, none⟩ = some (.int .i64 T) := Below.cell_some HBX.out Z0.out
              have x1 : X.cell? ⟨W1.heap.size + 1, 1, none⟩ = some (.int .i64 P) := Below.cell_some HBX.out Z1.out
              have hsX : W1.heap.size + 1 < X.heap.size := Nat.lt_of_lt_of_le HZ3.out HBX.out.size
              have h3X : W3.heap.size ≤ X.heap.size := HBX.out.size
              rw [← hX]
              clear hX
              have p0 : X.drew.cell? ⟨W1.heap.size + 1, 0, none⟩ = some (.int .i64 T) := x0
              have p1 : X.drew.cell? ⟨W1.heap.size + 1, 1, none⟩ = some (.int .i64 P) := x1
              have D0 : (X.alloc (Obj.cells #[] 64)).drew.cell? ⟨W1.heap.size + 1, 0, none⟩ = some (.int .i64 T) := alloc_some x0 _
              have D1 : (X.alloc (Obj.cells #[] 64)).drew.cell? ⟨W1.heap.size + 1, 1, none⟩ = some (.int .i64 P) := alloc_some x1 _
              have F0 : (X.alloc (Obj.cells #[.int .i64 T, .int .i64 P] 64)).drew.cell? ⟨W1.heap.size + 1, 0, none⟩ = some (.int .i64 T) := alloc_some x0 _
              have F1 : (X.alloc (Obj.cells #[.int .i64 T, .int .i64 P] 64)).drew.cell? ⟨W1.heap.size + 1, 1, none⟩ = some (.int .i64 P) := alloc_some x1 _
              have G0 : ((X.alloc (Obj.cells #[] 64)).alloc (Obj.cells #[.int .i64 T, .int .i64 P] 64)).drew.cell? ⟨W1.heap.size + 1, 0, none⟩ = some (.int .i64 T) := alloc_some (alloc_some x0 _) _
              have G1 : ((X.alloc (Obj.cells #[] 64)).alloc (Obj.cells #[.int .i64 T, .int .i64 P] 64)).drew.cell? ⟨W1.heap.size + 1, 1, none⟩ = some (.int .i64 P) := alloc_some (alloc_some x1 _) _
              have J0 : ((X.alloc (Obj.cells #[.int .i64 T, .int .i64 P] 64)).alloc (Obj.cells #[] 64)).drew.cell? ⟨W1.heap.size + 1, 0, none⟩ = some (.int .i64 T) := alloc_some (alloc_some x0 _) _
              have J1 : ((X.alloc (Obj.cells #[.int .i64 T, .int .i64 P] 64)).alloc (Obj.cells #[] 64)).drew.cell? ⟨W1.heap.size + 1, 1, none⟩ = some (.int .i64 P) := alloc_some (alloc_some x1 _) _
              have BA1 : Hid (Below X.heap.size X (X.alloc (Obj.cells #[] 64)).drew) := (((Below.refl _ X).alloc (Nat.le_refl _) _).drew)
              have BA2 : Hid (Below X.heap.size X ((X.alloc (Obj.cells #[] 64)).alloc (Obj.cells #[.int .i64 T, .int .i64 P] 64)).drew) := ((((Below.refl _ X).alloc (Nat.le_refl _) _).alloc (by simp) _).drew)
              have BB : Hid (Below X.heap.size X ((X.alloc (Obj.cells #[.int .i64 T, .int .i64 P] 64)).alloc (Obj.cells #[] 64)).drew) := ((((Below.refl _ X).alloc (Nat.le_refl _) _).alloc (by simp) _).drew)
              have OA1 : Hid (SlOwn pairS (X.alloc (Obj.cells #[] 64)).drew X.heap.size 64 (.slice (some ⟨X.heap.size, 0, none⟩) 0 0) []) := own_empty pairS X _
              have OA2 : Hid (SlOwn pairS ((X.alloc (Obj.cells #[] 64)).alloc (Obj.cells #[.int .i64 T, .int .i64 P] 64)).drew X.heap.size 64 (.slice (some ⟨X.heap.size, 0, none⟩) 0 0) []) := (own_empty pairS X 64).below (((Below.refl _ _).alloc (Nat.le_refl _) _).drew)
              have OB2 : Hid (SlOwn pairS ((X.alloc (Obj.cells #[.int .i64 T, .int .i64 P] 64)).alloc (Obj.cells #[] 64)).drew (X.heap.size + 1) 64 (.slice (some ⟨X.heap.size + 1, 0, none⟩) 0 0) []) := own_empty_n pairS (X.alloc (Obj.cells #[.int .i64 T, .int .i64 P] 64)) _ (by simp)
              have LA1 : Hid (SlAt pairS (X.alloc (Obj.cells #[] 64)).drew (some ⟨b, off, none⟩) (m.take (kk))) := (HAX.out.below BA1.out).take _
              have LA2 : Hid (SlAt pairS ((X.alloc (Obj.cells #[] 64)).alloc (Obj.cells #[.int .i64 T, .int .i64 P] 64)).drew (some ⟨b, off, none⟩) (m.take (kk))) := (HAX.out.below BA2.out).take _
              have LB : Hid (SlAt pairS ((X.alloc (Obj.cells #[.int .i64 T, .int .i64 P] 64)).alloc (Obj.cells #[] 64)).drew (some ⟨b, off, none⟩) (m.take (kk))) := (HAX.out.below BB.out).take _
              have NK : Hid (kk = (m.take (kk)).length) := by show _ = _; simp only [List.length_take]; omega
              have LE1 : Hid (([] : List (Int × Int)).length + (m.take (kk)).length ≤ 1048576) := by show _ ≤ _; simp only [List.length_take, List.length_nil]; omega
              have LE2 : Hid (([] ++ m.take (kk)).length + [(T, P)].length ≤ 1048576) := by show _ ≤ _; simp only [List.length_append, List.length_take, List.length_nil, List.length_cons]; omega
              have EA2 : Hid (((X.alloc (Obj.cells #[] 64)).alloc (Obj.cells #[.int .i64 T, .int .i64 P] 64)).drew.heap[X.heap.size + 1]? = some (Obj.cells #[.int .i64 T, .int .i64 P] 64)) := heap_new (w := X.alloc (Obj.cells #[] 64)) (by simp)
              have EB : Hid (((X.alloc (Obj.cells #[.int .i64 T, .int .i64 P] 64)).alloc (Obj.cells #[] 64)).drew.heap[X.heap.size]? = some (Obj.cells #[.int .i64 T, .int .i64 P] 64)) := (((Below.refl (X.heap.size + 1) (X.alloc (Obj.cells #[.int .i64 T, .int .i64 P] 64))).alloc (by simp) (Obj.cells #[] 64)).block X.heap.size (by omega)).trans (heap_new (w := X) rfl)
              go_region_held3 (fun w' => w'.cell? ⟨W1.heap.size + 1, 0, none⟩ = some (.int .i64 T) ∧ w'.cell? ⟨W1.heap.size + 1, 1, none⟩ = some (.int .i64 P))
                (first | exact ⟨c0'', c1''⟩ | exact ⟨e0', e1'⟩ | exact ⟨c0', c1'⟩ | exact ⟨D0, D1⟩ | exact ⟨F0, F1⟩ | exact ⟨G0, G1⟩ | exact ⟨J0, J1⟩ | go_keep)
                (first
                  | (refine step_append_slsv pairS _ rfl _ _ 25 rfl _ 64 i0 _ 16 Try.underlying25 hi hz0 hz1 hz2 rfl (by decide) _ ([] ++ m.take (kk)) rfl HO5.out _ 1 1 [(T, P)] rfl rfl HS5.out LE2.out HZ5.out ?_; intro A7 n7 k7 w6 hn6 ho6 hb6 hg6; have HN6 := Lib.hid hn6; have HO6 : Hid (SlOwn pairS w6 X.heap.size 64 (.slice A7 n7 k7) ([] ++ m.take (kk) ++ [(T, P)])) := ho6.base HZ5'.out; have HBQ := Lib.hid (HQ5.out.trans (hb6.mono HY5.out)); have c0'' := (hb6.cell (p := ⟨W1.heap.size + 1, 0, none⟩) (Nat.lt_of_lt_of_le hsX HZ5'.out)).trans e0'; have c1'' := (hb6.cell (p := ⟨W1.heap.size + 1, 1, none⟩) (Nat.lt_of_lt_of_le hsX HZ5'.out)).trans e1'; clear hn6 ho6 hb6 hg6)
                  | (refine step_append_slsv pairS _ rfl _ _ 25 rfl X.heap.size 64 i0 _ 16 Try.underlying25 hi hz0 hz1 hz2 rfl (by decide) (.slice (some ⟨X.heap.size, 0, none⟩) 0 0) [] rfl OA1.out _ _ _ (m.take (kk)) rfl NK.out LA1.out LE1.out (by simp) ?_; intro A5 n5 k5 w5 hn5 ho5 hb5 hg5; have c0' := (hb5.cell (p := ⟨W1.heap.size + 1, 0, none⟩) hsX).trans D0; have c1' := (hb5.cell (p := ⟨W1.heap.size + 1, 1, none⟩) hsX).trans D1; have e0' := alloc_some c0' (Obj.cells #[.int .i64 T, .int .i64 P] 64); have e1' := alloc_some c1' (Obj.cells #[.int .i64 T, .int .i64 P] 64); have HO5 := Lib.hid (ho5.below ((Below.refl _ _).alloc (Nat.le_refl _) (Obj.cells #[.int .i64 T, .int .i64 P] 64))); have HS5 := Lib.hid (slAt_one (a := T) (y := P) (heap_new (w := w5) (o := (Obj.cells #[.int .i64 T, .int .i64 P] 64)) rfl)); have HZ5 : Hid (X.heap.size ≤ (w5.alloc (Obj.cells #[.int .i64 T, .int .i64 P] 64)).heap.size) := Nat.le_trans (BA1.out.trans hb5).size ((Below.refl 0 w5).alloc (Nat.zero_le _) _).size; have HZ5' : Hid (X.heap.size ≤ X.heap.size) := Nat.le_refl _; have HQ5 := Lib.hid ((BA1.out.trans hb5).alloc (BA1.out.trans hb5).size (Obj.cells #[.int .i64 T, .int .i64 P] 64)); have HY5 : Hid (X.heap.size ≤ X.heap.size) := Nat.le_refl _; clear hn5 ho5 hb5 hg5)
                  | (refine step_append_slsv pairS _ rfl _ _ 25 rfl X.heap.size 64 i0 _ 16 Try.underlying25 hi hz0 hz1 hz2 rfl (by decide) (.slice (some ⟨X.heap.size, 0, none⟩) 0 0) [] rfl OA2.out _ _ _ (m.take (kk)) rfl NK.out LA2.out LE1.out (by simp; omega) ?_; intro A5 n5 k5 w5 hn5 ho5 hb5 hg5; have e0' := (hb5.cell (p := ⟨W1.heap.size + 1, 0, none⟩) hsX).trans G0; have e1' := (hb5.cell (p := ⟨W1.heap.size + 1, 1, none⟩) hsX).trans G1; have HO5 := Lib.hid ho5; have HS5 := Lib.hid (slAt_one (a := T) (y := P) ((hg5.block (X.heap.size + 1) (Array.getElem?_eq_some_iff.1 EA2.out).1 (by simp [Value.ownBlock])).trans EA2.out)); have HZ5 : Hid (X.heap.size ≤ w5.heap.size) := (BA2.out.trans hb5).size; have HZ5' : Hid (X.heap.size ≤ X.heap.size) := Nat.le_refl _; have HQ5 := Lib.hid (BA2.out.trans hb5); have HY5 : Hid (X.heap.size ≤ X.heap.size) := Nat.le_refl _; clear hn5 ho5 hb5 hg5)
                  | (refine step_append_slsv pairS _ rfl _ _ 25 rfl (X.heap.size + 1) 64 i0 _ 16 Try.underlying25 hi hz0 hz1 hz2 rfl (by decide) (.slice (some ⟨X.heap.size + 1, 0, none⟩) 0 0) [] rfl OB2.out _ _ _ (m.take (kk)) rfl NK.out LB.out LE1.out (by simp) ?_; intro A5 n5 k5 w5 hn5 ho5 hb5 hg5; have e0' := (hb5.cell (p := ⟨W1.heap.size + 1, 0, none⟩) (Nat.lt_succ_of_lt hsX)).trans J0; have e1' := (hb5.cell (p := ⟨W1.heap.size + 1, 1, none⟩) (Nat.lt_succ_of_lt hsX)).trans J1; have HO5 := Lib.hid ho5; have HS5 := Lib.hid (slAt_one (a := T) (y := P) ((hb5.block X.heap.size (Nat.lt_succ_self _)).trans EB.out)); have HZ5 : Hid (X.heap.size + 1 ≤ w5.heap.size) := Nat.le_trans (by simp) hb5.size; have HZ5' : Hid (X.heap.size ≤ X.heap.size + 1) := Nat.le_succ _; have HQ5 := Lib.hid (BB.out.trans (hb5.mono (Nat.le_succ _))); have HY5 : Hid (X.heap.size ≤ X.heap.size + 1) := Nat.le_succ _; clear hn5 ho5 hb5 hg5))
              all_goals (
                have HA6 : Hid (SlAt pairS w6 (some ⟨b, off, none⟩) m) := HAX.out.below HBQ.out
                have LE6 : Hid (([] ++ m.take (kk) ++ [(T, P)]).length + (m.drop (kk)).length ≤ 1048576) := by show _ ≤ _; simp only [List.length_append, List.length_take, List.length_drop, List.length_nil, List.length_cons]; omega
                have ND : Hid (m.length - (kk) = (m.drop (kk)).length) := by show _ = _; rw [List.length_drop]
                have HZ6 : Hid (X.heap.size ≤ w6.heap.size) := HBQ.out.size
                have HD6 : Hid (SlAt pairS w6 (some ⟨b, off + (kk) * 2, none⟩) (m.drop (kk))) := HA6.out.drop (kk)
                by_cases hck : c6 = kk
                · have HNIL : Hid (m.drop (kk) = []) := List.drop_eq_nil_of_le (by omega)
                  go_wp2_with (at_builtin; refine wpList_append_slsv pairS _ rfl _ _ 25 rfl X.heap.size 64 i0 _ 16 Try.underlying25 hi hz0 hz1 hz2 rfl (by decide) _ ([] ++ m.take (kk) ++ [(T, P)]) rfl HO6.out _ _ _ (m.drop (kk)) rfl ND.out (.inl HNIL.out) LE6.out HZ6.out ?_; intro A8 n8 k8 w7 hn7 ho7 hb7; have HO7 := Lib.hid ho7; have HB7 := Lib.hid (HBX.out.trans ((HBQ.out.trans hb7).mono h3X)); clear hn7 ho7 hb7)
                  all_goals (
                    go_roundw
                    case rel =>
                      refine ⟨k + 1, A8, n8, k8, by omega, by go_num, rfl, HB13.out.trans (HB7.out.mono HS13.out), ?_⟩
                      have := HO7.out
                      rw [HNE.out HKE.out] at this
                      exact this.base (Nat.le_trans HS13.out h3X)
                    case measure => (simp [intOf]; omega))
                · have hck2 : decide (c6 = kk) = false := by simpa using hck
                  go_wp2_with (at_builtin; refine wpList_append_slsv pairS _ rfl _ _ 25 rfl X.heap.size 64 i0 _ 16 Try.underlying25 hi hz0 hz1 hz2 rfl (by decide) _ ([] ++ m.take (kk) ++ [(T, P)]) rfl HO6.out _ _ _ (m.drop (kk)) rfl ND.out HD6.out LE6.out HZ6.out ?_; intro A8 n8 k8 w7 hn7 ho7 hb7; have HO7 := Lib.hid ho7; have HB7 := Lib.hid (HBX.out.trans ((HBQ.out.trans hb7).mono h3X)); clear hn7 ho7 hb7)
                  all_goals (
                    go_roundw
                    case rel =>
                      refine ⟨k + 1, A8, n8, k8, by omega, by go_num, rfl, HB13.out.trans (HB7.out.mono HS13.out), ?_⟩
                      have := HO7.out
                      rw [HNE.out HKE.out] at this
                      exact this.base (Nat.le_trans HS13.out h3X)
                    case measure => (simp [intOf]; omega)))
        · have hkm : kk = m.length := by omega
          have hk3 : (m.length : Int) ≤ (c6 : Int) := by omega
          rcases own_addr HO.out with ⟨rfl, hm0⟩ | ⟨g9, rfl⟩
          · obtain rfl : kk = 0 := by rw [hkm, hm0]; rfl
            have HL := Lib.hid hm0
            have HKK : Hid (kA m (T, P) = 0) := kA_stop (Nat.zero_le _) HALL.out (fun h => absurd h (by omega))
            have hself : decide ((0 : Int) < (m.length : Int)) = false := by simp; exact hm0
            clear hm0 hkm
            go_wp2
            go_quiet (fail)
            go_wp2
            have HKE : Hid (kA m (T, P) = 0) := HKK.out
            obtain ⟨X, hX⟩ : ∃ X, X = W4.drewN nq := ⟨_, rfl⟩
            have HBX : Hid (Below W3.heap.size W3 X) := by rw [hX]; exact ⟨HB4.out.os, HB4.out.tape, HB4.out.output, HB4.out.size, HB4.out.block⟩
            have HAX : Hid (SlAt pairS X none m) := HM3.out.below HBX.out
            have x0 : X.cell? ⟨W1.heap.size + 1, 0, none⟩ = some (.int .i64 T) := Below.cell_some HBX.out Z0.out
            have x1 : X.cell? ⟨W1.heap.size + 1, 1, none⟩ = some (.int .i64 P) := Below.cell_some HBX.out Z1.out
            have hsX : W1.heap.size + 1 < X.heap.size := Nat.lt_of_lt_of_le HZ3.out HBX.out.size
            have h3X : W3.heap.size ≤ X.heap.size := HBX.out.size
            rw [← hX]
            clear hX
            have p0 : X.drew.cell? ⟨W1.heap.size + 1, 0, none⟩ = some (.int .i64 T) := x0
            have p1 : X.drew.cell? ⟨W1.heap.size + 1, 1, none⟩ = some (.int .i64 P) := x1
            have D0 : (X.alloc (Obj.cells #[] 64)).drew.cell? ⟨W1.heap.size + 1, 0, none⟩ = some (.int .i64 T) := alloc_some x0 _
            have D1 : (X.alloc (Obj.cells #[] 64)).drew.cell? ⟨W1.heap.size + 1, 1, none⟩ = some (.int .i64 P) := alloc_some x1 _
            have F0 : (X.alloc (Obj.cells #[.int .i64 T, .int .i64 P] 64)).drew.cell? ⟨W1.heap.size + 1, 0, none⟩ = some (.int .i64 T) := alloc_some x0 _
            have F1 : (X.alloc (Obj.cells #[.int .i64 T, .int .i64 P] 64)).drew.cell? ⟨W1.heap.size + 1, 1, none⟩ = some (.int .i64 P) := alloc_some x1 _
            have G0 : ((X.alloc (Obj.cells #[] 64)).alloc (Obj.cells #[.int .i64 T, .int .i64 P] 64)).drew.cell? ⟨W1.heap.size + 1, 0, none⟩ = some (.int .i64 T) := alloc_some (alloc_some x0 _) _
            have G1 : ((X.alloc (Obj.cells #[] 64)).alloc (Obj.cells #[.int .i64 T, .int .i64 P] 64)).drew.cell? ⟨W1.heap.size + 1, 1, none⟩ = some (.int .i64 P) := alloc_some (alloc_some x1 _) _
            have J0 : ((X.alloc (Obj.cells #[.int .i64 T, .int .i64 P] 64)).alloc (Obj.cells #[] 64)).drew.cell? ⟨W1.heap.size + 1, 0, none⟩ = some (.int .i64 T) := alloc_some (alloc_some x0 _) _
            have J1 : ((X.alloc (Obj.cells #[.int .i64 T, .int .i64 P] 64)).alloc (Obj.cells #[] 64)).drew.cell? ⟨W1.heap.size + 1, 1, none⟩ = some (.int .i64 P) := alloc_some (alloc_some x1 _) _
            have BA1 : Hid (Below X.heap.size X (X.alloc (Obj.cells #[] 64)).drew) := (((Below.refl _ X).alloc (Nat.le_refl _) _).drew)
            have BA2 : Hid (Below X.heap.size X ((X.alloc (Obj.cells #[] 64)).alloc (Obj.cells #[.int .i64 T, .int .i64 P] 64)).drew) := ((((Below.refl _ X).alloc (Nat.le_refl _) _).alloc (by simp) _).drew)
            have BB : Hid (Below X.heap.size X ((X.alloc (Obj.cells #[.int .i64 T, .int .i64 P] 64)).alloc (Obj.cells #[] 64)).drew) := ((((Below.refl _ X).alloc (Nat.le_refl _) _).alloc (by simp) _).drew)
            have OA1 : Hid (SlOwn pairS (X.alloc (Obj.cells #[] 64)).drew X.heap.size 64 (.slice (some ⟨X.heap.size, 0, none⟩) 0 0) []) := own_empty pairS X _
            have OA2 : Hid (SlOwn pairS ((X.alloc (Obj.cells #[] 64)).alloc (Obj.cells #[.int .i64 T, .int .i64 P] 64)).drew X.heap.size 64 (.slice (some ⟨X.heap.size, 0, none⟩) 0 0) []) := (own_empty pairS X 64).below (((Below.refl _ _).alloc (Nat.le_refl _) _).drew)
            have OB2 : Hid (SlOwn pairS ((X.alloc (Obj.cells #[.int .i64 T, .int .i64 P] 64)).alloc (Obj.cells #[] 64)).drew (X.heap.size + 1) 64 (.slice (some ⟨X.heap.size + 1, 0, none⟩) 0 0) []) := own_empty_n pairS (X.alloc (Obj.cells #[.int .i64 T, .int .i64 P] 64)) _ (by simp)
            have LA1 : Hid (SlAt pairS (X.alloc (Obj.cells #[] 64)).drew none (m.take (0))) := (HAX.out.below BA1.out).take _
            have LA2 : Hid (SlAt pairS ((X.alloc (Obj.cells #[] 64)).alloc (Obj.cells #[.int .i64 T, .int .i64 P] 64)).drew none (m.take (0))) := (HAX.out.below BA2.out).take _
            have LB : Hid (SlAt pairS ((X.alloc (Obj.cells #[.int .i64 T, .int .i64 P] 64)).alloc (Obj.cells #[] 64)).drew none (m.take (0))) := (HAX.out.below BB.out).take _
            have NK : Hid (0 = (m.take (0)).length) := by show _ = _; simp only [List.length_take]; omega
            have LE1 : Hid (([] : List (Int × Int)).length + (m.take (0)).length ≤ 1048576) := by show _ ≤ _; simp only [List.length_take, List.length_nil]; omega
            have LE2 : Hid (([] ++ m.take (0)).length + [(T, P)].length ≤ 1048576) := by show _ ≤ _; simp only [List.length_append, List.length_take, List.length_nil, List.length_cons]; omega
            have EA2 : Hid (((X.alloc (Obj.cells #[] 64)).alloc (Obj.cells #[.int .i64 T, .int .i64 P] 64)).drew.heap[X.heap.size + 1]? = some (Obj.cells #[.int .i64 T, .int .i64 P] 64)) := heap_new (w := X.alloc (Obj.cells #[] 64)) (by simp)
            have EB : Hid (((X.alloc (Obj.cells #[.int .i64 T, .int .i64 P] 64)).alloc (Obj.cells #[] 64)).drew.heap[X.heap.size]? = some (Obj.cells #[.int .i64 T, .int .i64 P] 64)) := (((Below.refl (X.heap.size + 1) (X.alloc (Obj.cells #[.int .i64 T, .int .i64 P] 64))).alloc (by simp) (Obj.cells #[] 64)).block X.heap.size (by omega)).trans (heap_new (w := X) rfl)
            go_region_held3 (fun w' => w'.cell? ⟨W1.heap.size + 1, 0, none⟩ = some (.int .i64 T) ∧ w'.cell? ⟨W1.heap.size + 1, 1, none⟩ = some (.int .i64 P))
              (first | exact ⟨c0'', c1''⟩ | exact ⟨e0', e1'⟩ | exact ⟨c0', c1'⟩ | exact ⟨D0, D1⟩ | exact ⟨F0, F1⟩ | exact ⟨G0, G1⟩ | exact ⟨J0, J1⟩ | go_keep)
              (first
                | (refine step_append_slsv pairS _ rfl _ _ 25 rfl _ 64 i0 _ 16 Try.underlying25 hi hz0 hz1 hz2 rfl (by decide) _ ([] ++ m.take (0)) rfl HO5.out _ 1 1 [(T, P)] rfl rfl HS5.out LE2.out HZ5.out ?_; intro A7 n7 k7 w6 hn6 ho6 hb6 hg6; have HN6 := Lib.hid hn6; have HO6 : Hid (SlOwn pairS w6 X.heap.size 64 (.slice A7 n7 k7) ([] ++ m.take (0) ++ [(T, P)])) := ho6.base HZ5'.out; have HBQ := Lib.hid (HQ5.out.trans (hb6.mono HY5.out)); have c0'' := (hb6.cell (p := ⟨W1.heap.size + 1, 0, none⟩) (Nat.lt_of_lt_of_le hsX HZ5'.out)).trans e0'; have c1'' := (hb6.cell (p := ⟨W1.heap.size + 1, 1, none⟩) (Nat.lt_of_lt_of_le hsX HZ5'.out)).trans e1'; clear hn6 ho6 hb6 hg6)
                | (refine step_append_slsv pairS _ rfl _ _ 25 rfl X.heap.size 64 i0 _ 16 Try.underlying25 hi hz0 hz1 hz2 rfl (by decide) (.slice (some ⟨X.heap.size, 0, none⟩) 0 0) [] rfl OA1.out _ _ _ (m.take (0)) rfl NK.out LA1.out LE1.out (by simp) ?_; intro A5 n5 k5 w5 hn5 ho5 hb5 hg5; have c0' := (hb5.cell (p := ⟨W1.heap.size + 1, 0, none⟩) hsX).trans D0; have c1' := (hb5.cell (p := ⟨W1.heap.size + 1, 1, none⟩) hsX).trans D1; have e0' := alloc_some c0' (Obj.cells #[.int .i64 T, .int .i64 P] 64); have e1' := alloc_some c1' (Obj.cells #[.int .i64 T, .int .i64 P] 64); have HO5 := Lib.hid (ho5.below ((Below.refl _ _).alloc (Nat.le_refl _) (Obj.cells #[.int .i64 T, .int .i64 P] 64))); have HS5 := Lib.hid (slAt_one (a := T) (y := P) (heap_new (w := w5) (o := (Obj.cells #[.int .i64 T, .int .i64 P] 64)) rfl)); have HZ5 : Hid (X.heap.size ≤ (w5.alloc (Obj.cells #[.int .i64 T, .int .i64 P] 64)).heap.size) := Nat.le_trans (BA1.out.trans hb5).size ((Below.refl 0 w5).alloc (Nat.zero_le _) _).size; have HZ5' : Hid (X.heap.size ≤ X.heap.size) := Nat.le_refl _; have HQ5 := Lib.hid ((BA1.out.trans hb5).alloc (BA1.out.trans hb5).size (Obj.cells #[.int .i64 T, .int .i64 P] 64)); have HY5 : Hid (X.heap.size ≤ X.heap.size) := Nat.le_refl _; clear hn5 ho5 hb5 hg5)
                | (refine step_append_slsv pairS _ rfl _ _ 25 rfl X.heap.size 64 i0 _ 16 Try.underlying25 hi hz0 hz1 hz2 rfl (by decide) (.slice (some ⟨X.heap.size, 0, none⟩) 0 0) [] rfl OA2.out _ _ _ (m.take (0)) rfl NK.out LA2.out LE1.out (by simp; omega) ?_; intro A5 n5 k5 w5 hn5 ho5 hb5 hg5; have e0' := (hb5.cell (p := ⟨W1.heap.size + 1, 0, none⟩) hsX).trans G0; have e1' := (hb5.cell (p := ⟨W1.heap.size + 1, 1, none⟩) hsX).trans G1; have HO5 := Lib.hid ho5; have HS5 := Lib.hid (slAt_one (a := T) (y := P) ((hg5.block (X.heap.size + 1) (Array.getElem?_eq_some_iff.1 EA2.out).1 (by simp [Value.ownBlock])).trans EA2.out)); have HZ5 : Hid (X.heap.size ≤ w5.heap.size) := (BA2.out.trans hb5).size; have HZ5' : Hid (X.heap.size ≤ X.heap.size) := Nat.le_refl _; have HQ5 := Lib.hid (BA2.out.trans hb5); have HY5 : Hid (X.heap.size ≤ X.heap.size) := Nat.le_refl _; clear hn5 ho5 hb5 hg5)
                | (refine step_append_slsv pairS _ rfl _ _ 25 rfl (X.heap.size + 1) 64 i0 _ 16 Try.underlying25 hi hz0 hz1 hz2 rfl (by decide) (.slice (some ⟨X.heap.size + 1, 0, none⟩) 0 0) [] rfl OB2.out _ _ _ (m.take (0)) rfl NK.out LB.out LE1.out (by simp) ?_; intro A5 n5 k5 w5 hn5 ho5 hb5 hg5; have e0' := (hb5.cell (p := ⟨W1.heap.size + 1, 0, none⟩) (Nat.lt_succ_of_lt hsX)).trans J0; have e1' := (hb5.cell (p := ⟨W1.heap.size + 1, 1, none⟩) (Nat.lt_succ_of_lt hsX)).trans J1; have HO5 := Lib.hid ho5; have HS5 := Lib.hid (slAt_one (a := T) (y := P) ((hb5.block X.heap.size (Nat.lt_succ_self _)).trans EB.out)); have HZ5 : Hid (X.heap.size + 1 ≤ w5.heap.size) := Nat.le_trans (by simp) hb5.size; have HZ5' : Hid (X.heap.size ≤ X.heap.size + 1) := Nat.le_succ _; have HQ5 := Lib.hid (BB.out.trans (hb5.mono (Nat.le_succ _))); have HY5 : Hid (X.heap.size ≤ X.heap.size + 1) := Nat.le_succ _; clear hn5 ho5 hb5 hg5))
            all_goals (
              have HA6 : Hid (SlAt pairS w6 none m) := HAX.out.below HBQ.out
              have LE6 : Hid (([] ++ m.take (0) ++ [(T, P)]).length + (m.drop (0)).length ≤ 1048576) := by show _ ≤ _; simp only [List.length_append, List.length_take, List.length_drop, List.length_nil, List.length_cons]; omega
              have ND : Hid (m.length - (0) = (m.drop (0)).length) := by show _ = _; rw [List.length_drop]
              have HZ6 : Hid (X.heap.size ≤ w6.heap.size) := HBQ.out.size
              go_wp2_with (at_builtin; refine wpList_append_slsv pairS _ rfl _ _ 25 rfl X.heap.size 64 i0 _ 16 Try.underlying25 hi hz0 hz1 hz2 rfl (by decide) _ ([] ++ m.take (0) ++ [(T, P)]) rfl HO6.out _ _ _ (m.drop (0)) rfl ND.out (.inl (by rw [HL.out]; rfl)) LE6.out HZ6.out ?_; intro A8 n8 k8 w7 hn7 ho7 hb7; have HO7 := Lib.hid ho7; have HB7 := Lib.hid (HBX.out.trans ((HBQ.out.trans hb7).mono h3X)); clear hn7 ho7 hb7)
              all_goals (
                go_roundw
                case rel =>
                  refine ⟨k + 1, A8, n8, k8, by omega, by go_num, rfl, HB13.out.trans (HB7.out.mono HS13.out), ?_⟩
                  have := HO7.out
                  rw [HNE.out HKE.out] at this
                  exact this.base (Nat.le_trans HS13.out h3X)
                case measure => (simp [intOf]; omega)))
          · have hk1 : (kk : Int) ≤ (c6 : Int) := by omega
            have hk2 : (kk : Int) ≤ (m.length : Int) := by omega
            have HKK : Hid (kA m (T, P) = kk) := kA_stop hkk HALL.out (fun h => absurd h hkl2)
            have hself : decide ((kk : Int) < (m.length : Int)) = false := by simp; omega
            clear hkm
            go_wp2
            go_quiet (fail)
            go_wp2
            have HKE : Hid (kA m (T, P) = kk) := HKK.out
            obtain ⟨X, hX⟩ : ∃ X, X = W4.drewN nq := ⟨_, rfl⟩
            have HBX : Hid (Below W3.heap.size W3 X) := by rw [hX]; exact ⟨HB4.out.os, HB4.out.tape, HB4.out.output, HB4.out.size, HB4.out.block⟩
            have HAX : Hid (SlAt pairS X (some ⟨g9, 0, none⟩) m) := HM3.out.below HBX.out
            have x0 : X.cell? ⟨W1.heap.size + 1, 0, none⟩ = some (.int .i64 T) := Below.cell_some HBX.out Z0.out
            have x1 : X.cell? ⟨W1.heap.size + 1, 1, none⟩ = some (.int .i64 P) := Below.cell_some HBX.out Z1.out
            have hsX : W1.heap.size + 1 < X.heap.size := Nat.lt_of_lt_of_le HZ3.out HBX.out.size
            have h3X : W3.heap.size ≤ X.heap.size := HBX.out.size
            rw [← hX]
            clear hX
            have p0 : X.drew.cell? ⟨W1.heap.size + 1, 0, none⟩ = some (.int .i64 T) := x0
            have p1 : X.drew.cell? ⟨W1.heap.size + 1, 1, none⟩ = some (.int .i64 P) := x1
            have D0 : (X.alloc (Obj.cells #[] 64)).drew.cell? ⟨W1.heap.size + 1, 0, none⟩ = some (.int .i64 T) := alloc_some x0 _
            have D1 : (X.alloc (Obj.cells #[] 64)).drew.cell? ⟨W1.heap.size + 1, 1, none⟩ = some (.int .i64 P) := alloc_some x1 _
            have F0 : (X.alloc (Obj.cells #[.int .i64 T, .int .i64 P] 64)).drew.cell? ⟨W1.heap.size + 1, 0, none⟩ = some (.int .i64 T) := alloc_some x0 _
            have F1 : (X.alloc (Obj.cells #[.int .i64 T, .int .i64 P] 64)).drew.cell? ⟨W1.heap.size + 1, 1, none⟩ = some (.int .i64 P) := alloc_some x1 _
            have G0 : ((X.alloc (Obj.cells #[] 64)).alloc (Obj.cells #[.int .i64 T, .int .i64 P] 64)).drew.cell? ⟨W1.heap.size + 1, 0, none⟩ = some (.int .i64 T) := alloc_some (alloc_some x0 _) _
            have G1 : ((X.alloc (Obj.cells #[] 64)).alloc (Obj.cells #[.int .i64 T, .int .i64 P] 64)).drew.cell? ⟨W1.heap.size + 1, 1, none⟩ = some (.int .i64 P) := alloc_some (alloc_some x1 _) _
            have J0 : ((X.alloc (Obj.cells #[.int .i64 T, .int .i64 P] 64)).alloc (Obj.cells #[] 64)).drew.cell? ⟨W1.heap.size + 1, 0, none⟩ = some (.int .i64 T) := alloc_some (alloc_some x0 _) _
            have J1 : ((X.alloc (Obj.cells #[.int .i64 T, .int .i64 P] 64)).alloc (Obj.cells #[] 64)).drew.cell? ⟨W1.heap.size + 1, 1, none⟩ = some (.int .i64 P) := alloc_some (alloc_some x1 _) _
            have BA1 : Hid (Below X.heap.size X (X.alloc (Obj.cells #[] 64)).drew) := (((Below.refl _ X).alloc (Nat.le_refl _) _).drew)
            have BA2 : Hid (Below X.heap.size X ((X.alloc (Obj.cells #[] 64)).alloc (Obj.cells #[.int .i64 T, .int .i64 P] 64)).drew) := ((((Below.refl _ X).alloc (Nat.le_refl _) _).alloc (by simp) _).drew)
            have BB : Hid (Below X.heap.size X ((X.alloc (Obj.cells #[.int .i64 T, .int .i64 P] 64)).alloc (Obj.cells #[] 64)).drew) := ((((Below.refl _ X).alloc (Nat.le_refl _) _).alloc (by simp) _).drew)
            have OA1 : Hid (SlOwn pairS (X.alloc (Obj.cells #[] 64)).drew X.heap.size 64 (.slice (some ⟨X.heap.size, 0, none⟩) 0 0) []) := own_empty pairS X _
            have OA2 : Hid (SlOwn pairS ((X.alloc (Obj.cells #[] 64)).alloc (Obj.cells #[.int .i64 T, .int .i64 P] 64)).drew X.heap.size 64 (.slice (some ⟨X.heap.size, 0, none⟩) 0 0) []) := (own_empty pairS X 64).below (((Below.refl _ _).alloc (Nat.le_refl _) _).drew)
            have OB2 : Hid (SlOwn pairS ((X.alloc (Obj.cells #[.int .i64 T, .int .i64 P] 64)).alloc (Obj.cells #[] 64)).drew (X.heap.size + 1) 64 (.slice (some ⟨X.heap.size + 1, 0, none⟩) 0 0) []) := own_empty_n pairS (X.alloc (Obj.cells #[.int .i64 T, .int .i64 P] 64)) _ (by simp)
            have LA1 : Hid (SlAt pairS (X.alloc (Obj.cells #[] 64)).drew (some ⟨g9, 0, none⟩) (m.take (kk))) := (HAX.out.below BA1.out).take _
            have LA2 : Hid (SlAt pairS ((X.alloc (Obj.cells #[] 64)).alloc (Obj.cells #[.int .i64 T, .int .i64 P] 64)).drew (some ⟨g9, 0, none⟩) (m.take (kk))) := (HAX.out.below BA2.out).take _
            have LB : Hid (SlAt pairS ((X.alloc (Obj.cells #[.int .i64 T, .int .i64 P] 64)).alloc (Obj.cells #[] 64)).drew (some ⟨g9, 0, none⟩) (m.take (kk))) := (HAX.out.below BB.out).take _
            have NK : Hid (kk = (m.take (kk)).length) := by show _ = _; simp only [List.length_take]; omega
            have LE1 : Hid (([] : List (Int × Int)).length + (m.take (kk)).length ≤ 1048576) := by show _ ≤ _; simp only [List.length_take, List.length_nil]; omega
            have LE2 : Hid (([] ++ m.take (kk)).length + [(T, P)].length ≤ 1048576) := by show _ ≤ _; simp only [List.length_append, List.length_take, List.length_nil, List.length_cons]; omega
            have EA2 : Hid (((X.alloc (Obj.cells #[] 64)).alloc (Obj.cells #[.int .i64 T, .int .i64 P] 64)).drew.heap[X.heap.size + 1]? = some (Obj.cells #[.int .i64 T, .int .i64 P] 64)) := heap_new (w := X.alloc (Obj.cells #[] 64)) (by simp)
            have EB : Hid (((X.alloc (Obj.cells #[.int .i64 T, .int .i64 P] 64)).alloc (Obj.cells #[] 64)).drew.heap[X.heap.size]? = some (Obj.cells #[.int .i64 T, .int .i64 P] 64)) := (((Below.refl (X.heap.size + 1) (X.alloc (Obj.cells #[.int .i64 T, .int .i64 P] 64))).alloc (by simp) (Obj.cells #[] 64)).block X.heap.size (by omega)).trans (heap_new (w := X) rfl)
            go_region_held3 (fun w' => w'.cell? ⟨W1.heap.size + 1, 0, none⟩ = some (.int .i64 T) ∧ w'.cell? ⟨W1.heap.size + 1, 1, none⟩ = some (.int .i64 P))
              (first | exact ⟨c0'', c1''⟩ | exact ⟨e0', e1'⟩ | exact ⟨c0', c1'⟩ | exact ⟨D0, D1⟩ | exact ⟨F0, F1⟩ | exact ⟨G0, G1⟩ | exact ⟨J0, J1⟩ | go_keep)
              (first
                | (refine step_append_slsv pairS _ rfl _ _ 25 rfl _ 64 i0 _ 16 Try.underlying25 hi hz0 hz1 hz2 rfl (by decide) _ ([] ++ m.take (kk)) rfl HO5.out _ 1 1 [(T, P)] rfl rfl HS5.out LE2.out HZ5.out ?_; intro A7 n7 k7 w6 hn6 ho6 hb6 hg6; have HN6 := Lib.hid hn6; have HO6 : Hid (SlOwn pairS w6 X.heap.size 64 (.slice A7 n7 k7) ([] ++ m.take (kk) ++ [(T, P)])) := ho6.base HZ5'.out; have HBQ := Lib.hid (HQ5.out.trans (hb6.mono HY5.out)); have c0'' := (hb6.cell (p := ⟨W1.heap.size + 1, 0, none⟩) (Nat.lt_of_lt_of_le hsX HZ5'.out)).trans e0'; have c1'' := (hb6.cell (p := ⟨W1.heap.size + 1, 1, none⟩) (Nat.lt_of_lt_of_le hsX HZ5'.out)).trans e1'; clear hn6 ho6 hb6 hg6)
                | (refine step_append_slsv pairS _ rfl _ _ 25 rfl X.heap.size 64 i0 _ 16 Try.underlying25 hi hz0 hz1 hz2 rfl (by decide) (.slice (some ⟨X.heap.size, 0, none⟩) 0 0) [] rfl OA1.out _ _ _ (m.take (kk)) rfl NK.out LA1.out LE1.out (by simp) ?_; intro A5 n5 k5 w5 hn5 ho5 hb5 hg5; have c0' := (hb5.cell (p := ⟨W1.heap.size + 1, 0, none⟩) hsX).trans D0; have c1' := (hb5.cell (p := ⟨W1.heap.size + 1, 1, none⟩) hsX).trans D1; have e0' := alloc_some c0' (Obj.cells #[.int .i64 T, .int .i64 P] 64); have e1' := alloc_some c1' (Obj.cells #[.int .i64 T, .int .i64 P] 64); have HO5 := Lib.hid (ho5.below ((Below.refl _ _).alloc (Nat.le_refl _) (Obj.cells #[.int .i64 T, .int .i64 P] 64))); have HS5 := Lib.hid (slAt_one (a := T) (y := P) (heap_new (w := w5) (o := (Obj.cells #[.int .i64 T, .int .i64 P] 64)) rfl)); have HZ5 : Hid (X.heap.size ≤ (w5.alloc (Obj.cells #[.int .i64 T, .int .i64 P] 64)).heap.size) := Nat.le_trans (BA1.out.trans hb5).size ((Below.refl 0 w5).alloc (Nat.zero_le _) _).size; have HZ5' : Hid (X.heap.size ≤ X.heap.size) := Nat.le_refl _; have HQ5 := Lib.hid ((BA1.out.trans hb5).alloc (BA1.out.trans hb5).size (Obj.cells #[.int .i64 T, .int .i64 P] 64)); have HY5 : Hid (X.heap.size ≤ X.heap.size) := Nat.le_refl _; clear hn5 ho5 hb5 hg5)
                | (refine step_append_slsv pairS _ rfl _ _ 25 rfl X.heap.size 64 i0 _ 16 Try.underlying25 hi hz0 hz1 hz2 rfl (by decide) (.slice (some ⟨X.heap.size, 0, none⟩) 0 0) [] rfl OA2.out _ _ _ (m.take (kk)) rfl NK.out LA2.out LE1.out (by simp; omega) ?_; intro A5 n5 k5 w5 hn5 ho5 hb5 hg5; have e0' := (hb5.cell (p := ⟨W1.heap.size + 1, 0, none⟩) hsX).trans G0; have e1' := (hb5.cell (p := ⟨W1.heap.size + 1, 1, none⟩) hsX).trans G1; have HO5 := Lib.hid ho5; have HS5 := Lib.hid (slAt_one (a := T) (y := P) ((hg5.block (X.heap.size + 1) (Array.getElem?_eq_some_iff.1 EA2.out).1 (by simp [Value.ownBlock])).trans EA2.out)); have HZ5 : Hid (X.heap.size ≤ w5.heap.size) := (BA2.out.trans hb5).size; have HZ5' : Hid (X.heap.size ≤ X.heap.size) := Nat.le_refl _; have HQ5 := Lib.hid (BA2.out.trans hb5); have HY5 : Hid (X.heap.size ≤ X.heap.size) := Nat.le_refl _; clear hn5 ho5 hb5 hg5)
                | (refine step_append_slsv pairS _ rfl _ _ 25 rfl (X.heap.size + 1) 64 i0 _ 16 Try.underlying25 hi hz0 hz1 hz2 rfl (by decide) (.slice (some ⟨X.heap.size + 1, 0, none⟩) 0 0) [] rfl OB2.out _ _ _ (m.take (kk)) rfl NK.out LB.out LE1.out (by simp) ?_; intro A5 n5 k5 w5 hn5 ho5 hb5 hg5; have e0' := (hb5.cell (p := ⟨W1.heap.size + 1, 0, none⟩) (Nat.lt_succ_of_lt hsX)).trans J0; have e1' := (hb5.cell (p := ⟨W1.heap.size + 1, 1, none⟩) (Nat.lt_succ_of_lt hsX)).trans J1; have HO5 := Lib.hid ho5; have HS5 := Lib.hid (slAt_one (a := T) (y := P) ((hb5.block X.heap.size (Nat.lt_succ_self _)).trans EB.out)); have HZ5 : Hid (X.heap.size + 1 ≤ w5.heap.size) := Nat.le_trans (by simp) hb5.size; have HZ5' : Hid (X.heap.size ≤ X.heap.size + 1) := Nat.le_succ _; have HQ5 := Lib.hid (BB.out.trans (hb5.mono (Nat.le_succ _))); have HY5 : Hid (X.heap.size ≤ X.heap.size + 1) := Nat.le_succ _; clear hn5 ho5 hb5 hg5))
            all_goals (
              have HA6 : Hid (SlAt pairS w6 (some ⟨g9, 0, none⟩) m) := HAX.out.below HBQ.out
              have LE6 : Hid (([] ++ m.take (kk) ++ [(T, P)]).length + (m.drop (kk)).length ≤ 1048576) := by show _ ≤ _; simp only [List.length_append, List.length_take, List.length_drop, List.length_nil, List.length_cons]; omega
              have ND : Hid (m.length - (kk) = (m.drop (kk)).length) := by show _ = _; rw [List.length_drop]
              have HZ6 : Hid (X.heap.size ≤ w6.heap.size) := HBQ.out.size
              have HD6 : Hid (SlAt pairS w6 (some ⟨g9, (kk) * 2, none⟩) (m.drop (kk))) := by have h9 := HA6.out.drop (kk); rw [Nat.zero_add] at h9; exact h9
              by_cases hck : c6 = kk
              · have HNIL : Hid (m.drop (kk) = []) := List.drop_eq_nil_of_le (by omega)
                go_wp2_with (at_builtin; refine wpList_append_slsv pairS _ rfl _ _ 25 rfl X.heap.size 64 i0 _ 16 Try.underlying25 hi hz0 hz1 hz2 rfl (by decide) _ ([] ++ m.take (kk) ++ [(T, P)]) rfl HO6.out _ _ _ (m.drop (kk)) rfl ND.out (.inl HNIL.out) LE6.out HZ6.out ?_; intro A8 n8 k8 w7 hn7 ho7 hb7; have HO7 := Lib.hid ho7; have HB7 := Lib.hid (HBX.out.trans ((HBQ.out.trans hb7).mono h3X)); clear hn7 ho7 hb7)
                all_goals (
                  go_roundw
                  case rel =>
                    refine ⟨k + 1, A8, n8, k8, by omega, by go_num, rfl, HB13.out.trans (HB7.out.mono HS13.out), ?_⟩
                    have := HO7.out
                    rw [HNE.out HKE.out] at this
                    exact this.base (Nat.le_trans HS13.out h3X)
                  case measure => (simp [intOf]; omega))
              · have hck2 : decide (c6 = kk) = false := by simpa using hck
                go_wp2_with (at_builtin; refine wpList_append_slsv pairS _ rfl _ _ 25 rfl X.heap.size 64 i0 _ 16 Try.underlying25 hi hz0 hz1 hz2 rfl (by decide) _ ([] ++ m.take (kk) ++ [(T, P)]) rfl HO6.out _ _ _ (m.drop (kk)) rfl ND.out HD6.out LE6.out HZ6.out ?_; intro A8 n8 k8 w7 hn7 ho7 hb7; have HO7 := Lib.hid ho7; have HB7 := Lib.hid (HBX.out.trans ((HBQ.out.trans hb7).mono h3X)); clear hn7 ho7 hb7)
                all_goals (
                  go_roundw
                  case rel =>
                    refine ⟨k + 1, A8, n8, k8, by omega, by go_num, rfl, HB13.out.trans (HB7.out.mono HS13.out), ?_⟩
                    have := HO7.out
                    rw [HNE.out HKE.out] at this
                    exact this.base (Nat.le_trans HS13.out h3X)
                  case measure => (simp [intOf]; omega)))
    · obtain rfl : k = l.length := by omega
      have HN6 : Hid (n6 = l.length) := by show _ = _; rw [own_len HO.out, ghL_len, List.length_take]; omega
      have HO9 : Hid (SlOwn pairS W1 W0.heap.size 64 (.slice A6 n6 c6) (ghL n d l)) := by
        have h := HO.out
        rwa [List.take_length] at h
      go_wp2
      go_ret
      exact ⟨_, _, _, rfl, HN6.out, SlOwn.base HO9.out HB0.out.size, HB0.out.trans (HB11.out.mono HB0.out.size)⟩
end Go.Proofs.Ytlepdphdflpoaaa
