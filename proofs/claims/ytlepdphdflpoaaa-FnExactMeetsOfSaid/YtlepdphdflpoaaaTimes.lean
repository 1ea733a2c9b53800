/- The model's times of meetings: those of all pairs, each put into its place, each once. -/
import Derived.Test.YtlepdphdflpoaaaPairs
import Derived.Deep.RegionHeld3
namespace Go.Proofs.Ytlepdphdflpoaaa
open Go.RowKit

theorem insF_new {m : List (Int × Int)} {x : Int × Int} {K : Nat} (h : kF m x = K) (hn : ¬ (K < m.length ∧ m.getD K (0, 0) = x)) : [] ++ m.take K ++ [x] ++ m.drop K = insF m x := by
  subst h
  unfold insF
  rw [if_neg hn]; rfl
theorem insF_old {m : List (Int × Int)} {x : Int × Int} {K : Nat} (h : kF m x = K) (hn : K < m.length ∧ m.getD K (0, 0) = x) : insF m x = m := by
  subst h
  unfold insF
  rw [if_pos hn]

theorem SlAt.dropIfG {w : World} {b off : Nat} {l : List (Int × Int)} (h : SlAt pairS w (some ⟨b, off, none⟩) l) (k c : Nat) (hc : l.length ≤ c) :
    SlAt pairS w (if c = k then some ⟨b, off, none⟩ else some ⟨b, off + k * 2, none⟩) (l.drop k) := by
  split
  · exact .inl (List.drop_eq_nil_of_le (by omega))
  · exact h.drop k
theorem own_addr {α : Type} {S : Shape α} {w : World} {B n c : Nat} {e : TypeId} {A : Option Addr} {l : List α} (h : SlOwn S w B e (.slice A n c) l) : (A = none ∧ l = []) ∨ ∃ g, A = some ⟨g, 0, none⟩ := by
  rcases h.2 with ⟨hv, h0⟩ | ⟨g, cap, cur, hv, _⟩
  · simp only [Value.slice.injEq] at hv
    exact .inl ⟨hv.1, List.eq_nil_of_length_eq_zero h0⟩
  · simp only [Value.slice.injEq] at hv
    exact .inr ⟨g, hv.1⟩

set_option maxRecDepth 100000 in
set_option maxHeartbeats 4000000 in
theorem spTimes_any (A : Option Addr) (c : Nat) (l : List (Int × Int)) (w : World) (hg : rnnB l = true) (hcap : l.length ≤ c) (hA : AntsAt w A l) :
    Calls Try.prog 78 #[.slice A l.length c] w fun e w' => ∃ A' n' c', e = .returned (.slice A' n' c') ∧ n' = (mmL l).length ∧ SlOwn pairS w' w.heap.size 32 (.slice A' n' c') (mmL l) ∧ Below w.heap.size w w' := by
  obtain ⟨i0, hi, hz0, hz1, hz2⟩ := info_parts momInfo
  have HA := Lib.hid hA
  have HSP := Lib.hid (spMeets_any A c l w hg hcap hA)
  have HML : Hid (mmL l = tmK (tsL l) (tsL l).length) := rfl
  have HSM : Hid (∀ t, t ∈ tsL l → smallF t) := fun t ht => by have := tsL_mem hg ht; unfold smallF; omega
  have hs144 : (tsL l).length ≤ 144 := tsK_144 (rnn_len hg) (rnn_len hg)
  clear hA hg
  generalize tsL l = s at *
  have HTL := Lib.hid (tmK_len s)
  have HTM := Lib.hid (tmK_mem s)
  go_enter Try.func78, Try.ntmps78
  go_wp2_with fail
  refine HSP.out.mono ?_
  rintro e w1 ⟨A1, n1, c1, rfl, hn1, ho1, hb1⟩
  have HS1 := Lib.hid (slAt_ants ho1.sl)
  have HB1 := Lib.hid hb1
  have hs1 := hb1.size
  subst hn1
  clear ho1 hb1
  go_wp2
  go_loopw [3, 11] (fun v i wr => ∃ (k : Nat) (A3 : Option Addr) (n3 c3 : Nat), k ≤ s.length ∧ i = .int .i64 k ∧ v = .slice A3 n3 c3 ∧ Below w1.heap.size w1 wr ∧ SlOwn pairS wr w1.heap.size 32 (.slice A3 n3 c3) (tmK s k))
    (fun _ i _ => s.length - (intOf i).toNat)
  case atStart => exact ⟨0, none, 0, 0, Nat.zero_le _, rfl, rfl, Below.refl _ _, by simpa [tmK] using SlOwn.nil pairS w1 w1.heap.size 32⟩
  case round =>
    obtain ⟨k, A6, n6, c6, hk, rfl, rfl, hbr, hown⟩ := hrel
    obtain ⟨W1, rfl⟩ : ∃ W, W = wr := ⟨_, rfl⟩
    have HB11 := Lib.hid hbr
    have hs11 := hbr.size
    have HSr := Lib.hid (HS1.out.below hbr)
    have HO := Lib.hid hown
    clear hbr hown
    by_cases hlt : k < s.length
    · obtain ⟨b1, off1, rfl, l0, hc⟩ := HSr.out.at_ hlt
      obtain ⟨a0, a1⟩ := hc k hlt
      have HSN := Lib.hid (tmK_snoc s k hlt)
      have hkl := HTL.out k hk
      have HSX := Lib.hid (HSM.out _ (mem_getD hlt))
      have HMM : Hid (∀ j, j < (tmK s k).length → smallF ((tmK s k).getD j (0, 0))) := fun j hj => HSM.out _ (List.mem_of_mem_take ((HTM.out k hk _).1 (mem_getD hj)))
      clear hc
      generalize s.getD k (0, 0) = x at *
      obtain ⟨T, P⟩ := x
      simp only at a0 a1
      generalize tmK s k = m at *
      have hn6 := own_len HO.out
      subst hn6
      have hcap6 : m.length ≤ c6 := own_cap HO.out
      obtain ⟨W3, hW3⟩ : ∃ X, X = W1.alloc (Obj.cells #[Value.int IntKind.i64 T, Value.int IntKind.i64 P] 32) := ⟨_, rfl⟩
      have Z0 : Hid (W3.cell? ⟨W1.heap.size, 0, none⟩ = some (.int .i64 T)) := by show _ = _; rw [hW3]; simp
      have Z1 : Hid (W3.cell? ⟨W1.heap.size, 1, none⟩ = some (.int .i64 P)) := by show _ = _; rw [hW3]; simp
      have HZ3 : Hid (W1.heap.size < W3.heap.size) := by show _ < _; rw [hW3]; simp
      have hb13 : Below W1.heap.size W1 W3 := by rw [hW3]; exact (Below.refl _ _).alloc (Nat.le_refl _) _
      have HM3 : Hid (SlAt pairS W3 A6 m) := HO.out.sl.below hb13
      have HB13 := Lib.hid (HB11.out.trans (hb13.mono hs11))
      have HS13 : Hid (w1.heap.size ≤ W3.heap.size) := HB13.out.size
      have HNE : Hid (∀ {K}, kF m (T, P) = K → ¬ (K < m.length ∧ m.getD K (0, 0) = (T, P)) → [] ++ m.take K ++ [(T, P)] ++ m.drop K = tmK s (k + 1)) := fun h1 h2 => by rw [HSN.out]; exact insF_new h1 h2
      have HOL : Hid (∀ {K}, kF m (T, P) = K → (K < m.length ∧ m.getD K (0, 0) = (T, P)) → tmK s (k + 1) = m) := fun h1 h2 => by rw [HSN.out]; exact insF_old h1 h2
      have HO3 := Lib.hid (HO.out.below hb13)
      clear hb13
      go_wp2
      rw [← hW3]
      clear hW3
      go_loopw [6] (fun i w4 => ∃ kk : Nat, kk ≤ m.length ∧ i = .int .i64 kk ∧ (∀ j, j < kk → fLt (m.getD j (0, 0)) (T, P) = true) ∧ Below W3.heap.size W3 w4) (fun i _ => m.length - (intOf i).toNat)
      case atStart => exact ⟨0, Nat.zero_le _, rfl, fun j hj => absurd hj (Nat.not_lt_zero j), Below.refl _ _⟩
      case round =>
        obtain ⟨kk, hkk, rfl, hall, hb4⟩ := hrel
        obtain ⟨W4, rfl⟩ : ∃ W, W = wr := ⟨_, rfl⟩
        have HB4 := Lib.hid hb4
        have HALL := Lib.hid hall
        have g0 := Ext.cell (Below.cell_some hb4 Z0.out)
        have g1 := Ext.cell (Below.cell_some hb4 Z1.out)
        clear hb4 hall a0 a1
        by_cases hkl2 : kk < m.length
        · obtain ⟨b, off, rfl, l2, hc2⟩ := (slAt_ants (HM3.out.below HB4.out)).at_ hkl2
          obtain ⟨b0, b1'⟩ := hc2 kk hkl2
          have f0 := Ext.cell b0
          have f1 := Ext.cell b1'
          have hsv := HMM.out kk hkl2
          have HST : Hid (fLt (m.getD kk (0, 0)) (T, P) = false → kF m (T, P) = kk) := fun h => kF_stop hkk HALL.out (fun _ => h)
          have HEQ : Hid (∀ v, m.getD kk (0, 0) = v → m.getD kk (0, 0) = v) := fun _ h => h
          obtain ⟨v, hv⟩ : ∃ v, m.getD kk (0, 0) = v := ⟨_, rfl⟩
          have HV := Lib.hid hv
          rw [hv] at b0 b1' f0 f1 hsv HST
          clear hc2 hv HEQ
          obtain ⟨v1, v2⟩ := v
          simp only at b0 b1' f0 f1
          have HLA := Lib.hid (fun w => spLess_any (v1, v2) (T, P) w hsv HSX.out)
          simp only at HLA
          have B0 := Lib.hid b0
          have B1 := Lib.hid b1'
          clear b0 b1' hsv
          cases hfl : fLt (v1, v2) (T, P) with
          | true =>
            have HL : Hid (∀ w, Calls Try.prog 75 #[.agg #[.int .i64 v1, .int .i64 v2], .agg #[.int .i64 T, .int .i64 P]] w fun e w' => e = .returned (.bool true) ∧ Below w.heap.size w w') := fun w => by rw [← hfl]; exact HLA.out w
            have HAL : Hid (∀ j, j < kk + 1 → fLt (m.getD j (0, 0)) (T, P) = true) := fun j hj => by
              by_cases e : j = kk
              · subst e; rw [HV.out]; exact hfl
              · exact HALL.out j (by omega)
            clear hfl HLA
            go_wp2
            refine wp_region_ext (by kernel_rfl) (by kernel_rfl) ?_
            repeat (first | go_big_quiet_skip | (go_big_quiet_want; go_big_quiet_op; first | go_big_quiet_on | (apply Exists.intro; refine ⟨fun _ => ?_, ?_⟩; (go_at_call 75; with_reducible exact Ext.call (HL.out _)); go_big_quiet_on)))
            refine wpQuiet_nil ?_
            rintro _ ⟨x, rfl⟩
            go_wp2
            go_roundw
            case rel => exact ⟨kk + 1, by omega, by go_num, HAL.out, HB4.out.trans (x.h.mono HB4.out.size)⟩
            case measure => simp [intOf]; omega
          | false =>
            have HL : Hid (∀ w, Calls Try.prog 75 #[.agg #[.int .i64 v1, .int .i64 v2], .agg #[.int .i64 T, .int .i64 P]] w fun e w' => e = .returned (.bool false) ∧ Below w.heap.size w w') := fun w => by rw [← hfl]; exact HLA.out w
            have HKK := Lib.hid (HST.out hfl)
            clear hfl HLA HST
            go_wp2
            refine wp_region_ext (by kernel_rfl) (by kernel_rfl) ?_
            repeat (first | go_big_quiet_skip | (go_big_quiet_want; go_big_quiet_op; first | go_big_quiet_on | (apply Exists.intro; refine ⟨fun _ => ?_, ?_⟩; (go_at_call 75; with_reducible exact Ext.call (HL.out _)); go_big_quiet_on)))
            refine wpQuiet_nil ?_
            rintro _ ⟨x, rfl⟩
            have y0 := Below.cell_some x.h B0.out
            have y1 := Below.cell_some x.h B1.out
            obtain ⟨W5, hW5⟩ : ∃ W, W = x.w := ⟨_, rfl⟩
            have HB5 : Hid (Below W3.heap.size W3 W5) := by rw [hW5]; exact HB4.out.trans (x.h.mono HB4.out.size)
            rw [← hW5]
            rw [← hW5] at y0 y1
            clear hW5
            have z0 := Below.cell_some HB5.out Z0.out
            have z1 := Below.cell_some HB5.out Z1.out
            by_cases heq : (v1, v2) = (T, P)
            · simp only [Prod.mk.injEq] at heq
              obtain ⟨rfl, rfl⟩ := heq
              go_wp2
              go_quiet (fail)
              go_wp2
              refine ⟨⟨k + 1, _, _, _, by omega, by go_num, rfl, HB13.out.trans (Below.mono ⟨HB5.out.os, HB5.out.tape, HB5.out.output, HB5.out.size, HB5.out.block⟩ HS13.out), ?_⟩, by simp [intOf]; omega⟩
              rw [HOL.out HKK.out ⟨hkl2, HV.out⟩]
              exact HO3.out.below ⟨HB5.out.os, HB5.out.tape, HB5.out.output, HB5.out.size, HB5.out.block⟩
            · have hk1 : (kk : Int) ≤ (c6 : Int) := by omega
              have hk2 : (kk : Int) ≤ (m.length : Int) := by omega
              have hk3 : (m.length : Int) ≤ (c6 : Int) := by omega
              have HN : Hid (¬ (kk < m.length ∧ m.getD kk (0, 0) = (T, P))) := fun h => heq (by rw [← HV.out]; exact h.2)
              by_cases hv1 : v1 = T
              · have hv1' : T = v1 := hv1.symm
                subst hv1'
                have hv2 : ¬ v2 = P := fun h => heq (by rw [h])
                have hne : (v2 == P) = false := by simpa using hv2
                go_wp2
                go_quiet (fail)
                go_wp2
                have HKE : Hid (kF m (T, P) = kk ∧ ¬ (kk < m.length ∧ m.getD (kk) (0, 0) = (T, P))) := ⟨HKK.out, HN.out⟩
                obtain ⟨X, hX⟩ : ∃ X, X = W5.drewN nq := ⟨_, rfl⟩
                have HBX : Hid (Below W3.heap.size W3 X) := by rw [hX]; exact ⟨HB5.out.os, HB5.out.tape, HB5.out.output, HB5.out.size, HB5.out.block⟩
                have HAX : Hid (SlAt pairS X (some ⟨b, off, none⟩) m) := HM3.out.below HBX.out
                have x0 : X.cell? ⟨W1.heap.size, 0, none⟩ = some (.int .i64 T) := Below.cell_some HBX.out Z0.out
                have x1 : X.cell? ⟨W1.heap.size, 1, none⟩ = some (.int .i64 P) := Below.cell_some HBX.out Z1.out
                have hsX : W1.heap.size < X.heap.size := Nat.lt_of_lt_of_le HZ3.out HBX.out.size
                have h3X : W3.heap.size ≤ X.heap.size := HBX.out.size
                rw [← hX]
                clear hX
                have p0 : X.drew.cell? ⟨W1.heap.size, 0, none⟩ = some (.int .i64 T) := x0
                have p1 : X.drew.cell? ⟨W1.heap.size, 1, none⟩ = some (.int .i64 P) := x1
                have D0 : (X.alloc (Obj.cells #[] 32)).drew.cell? ⟨W1.heap.size, 0, none⟩ = some (.int .i64 T) := alloc_some x0 _
                have D1 : (X.alloc (Obj.cells #[] 32)).drew.cell? ⟨W1.heap.size, 1, none⟩ = some (.int .i64 P) := alloc_some x1 _
                have F0 : (X.alloc (Obj.cells #[.int .i64 T, .int .i64 P] 32)).drew.cell? ⟨W1.heap.size, 0, none⟩ = some (.int .i64 T) := alloc_some x0 _
                have F1 : (X.alloc (Obj.cells #[.int .i64 T, .int .i64 P] 32)).drew.cell? ⟨W1.heap.size, 1, none⟩ = some (.int .i64 P) := alloc_some x1 _
                have G0 : ((X.alloc (Obj.cells #[] 32)).alloc (Obj.cells #[.int .i64 T, .int .i64 P] 32)).drew.cell? ⟨W1.heap.size, 0, none⟩ = some (.int .i64 T) := alloc_some (alloc_some x0 _) _
                have G1 : ((X.alloc (Obj.cells #[] 32)).alloc (Obj.cells #[.int .i64 T, .int .i64 P] 32)).drew.cell? ⟨W1.heap.size, 1, none⟩ = some (.int .i64 P) := alloc_some (alloc_some x1 _) _
                have J0 : ((X.alloc (Obj.cells #[.int .i64 T, .int .i64 P] 32)).alloc (Obj.cells #[] 32)).drew.cell? ⟨W1.heap.size, 0, none⟩ = some (.int .i64 T) := alloc_some (alloc_some x0 _) _
                have J1 : ((X.alloc (Obj.cells #[.int .i64 T, .int .i64 P] 32)).alloc (Obj.cells #[] 32)).drew.cell? ⟨W1.heap.size, 1, none⟩ = some (.int .i64 P) := alloc_some (alloc_some x1 _) _
                have BA1 : Hid (Below X.heap.size X (X.alloc (Obj.cells #[] 32)).drew) := (((Below.refl _ X).alloc (Nat.le_refl _) _).drew)
                have BA2 : Hid (Below X.heap.size X ((X.alloc (Obj.cells #[] 32)).alloc (Obj.cells #[.int .i64 T, .int .i64 P] 32)).drew) := ((((Below.refl _ X).alloc (Nat.le_refl _) _).alloc (by simp) _).drew)
                have BB : Hid (Below X.heap.size X ((X.alloc (Obj.cells #[.int .i64 T, .int .i64 P] 32)).alloc (Obj.cells #[] 32)).drew) := ((((Below.refl _ X).alloc (Nat.le_refl _) _).alloc (by simp) _).drew)
                have OA1 : Hid (SlOwn pairS (X.alloc (Obj.cells #[] 32)).drew X.heap.size 32 (.slice (some ⟨X.heap.size, 0, none⟩) 0 0) []) := own_empty pairS X _
                have OA2 : Hid (SlOwn pairS ((X.alloc (Obj.cells #[] 32)).alloc (Obj.cells #[.int .i64 T, .int .i64 P] 32)).drew X.heap.size 32 (.slice (some ⟨X.heap.size, 0, none⟩) 0 0) []) := (own_empty pairS X 32).below (((Below.refl _ _).alloc (Nat.le_refl _) _).drew)
                have OB2 : Hid (SlOwn pairS ((X.alloc (Obj.cells #[.int .i64 T, .int .i64 P] 32)).alloc (Obj.cells #[] 32)).drew (X.heap.size + 1) 32 (.slice (some ⟨X.heap.size + 1, 0, none⟩) 0 0) []) := own_empty_n pairS (X.alloc (Obj.cells #[.int .i64 T, .int .i64 P] 32)) _ (by simp)
                have LA1 : Hid (SlAt pairS (X.alloc (Obj.cells #[] 32)).drew (some ⟨b, off, none⟩) (m.take (kk))) := (HAX.out.below BA1.out).take _
                have LA2 : Hid (SlAt pairS ((X.alloc (Obj.cells #[] 32)).alloc (Obj.cells #[.int .i64 T, .int .i64 P] 32)).drew (some ⟨b, off, none⟩) (m.take (kk))) := (HAX.out.below BA2.out).take _
                have LB : Hid (SlAt pairS ((X.alloc (Obj.cells #[.int .i64 T, .int .i64 P] 32)).alloc (Obj.cells #[] 32)).drew (some ⟨b, off, none⟩) (m.take (kk))) := (HAX.out.below BB.out).take _
                have NK : Hid (kk = (m.take (kk)).length) := by show _ = _; simp only [List.length_take]; omega
                have LE1 : Hid (([] : List (Int × Int)).length + (m.take (kk)).length ≤ 1048576) := by show _ ≤ _; simp only [List.length_take, List.length_nil]; omega
                have LE2 : Hid (([] ++ m.take (kk)).length + [(T, P)].length ≤ 1048576) := by show _ ≤ _; simp only [List.length_append, List.length_take, List.length_nil, List.length_cons]; omega
                have EA2 : Hid (((X.alloc (Obj.cells #[] 32)).alloc (Obj.cells #[.int .i64 T, .int .i64 P] 32)).drew.heap[X.heap.size + 1]? = some (Obj.cells #[.int .i64 T, .int .i64 P] 32)) := heap_new (w := X.alloc (Obj.cells #[] 32)) (by simp)
                have EB : Hid (((X.alloc (Obj.cells #[.int .i64 T, .int .i64 P] 32)).alloc (Obj.cells #[] 32)).drew.heap[X.heap.size]? = some (Obj.cells #[.int .i64 T, .int .i64 P] 32)) := (((Below.refl (X.heap.size + 1) (X.alloc (Obj.cells #[.int .i64 T, .int .i64 P] 32))).alloc (by simp) (Obj.cells #[] 32)).block X.heap.size (by omega)).trans (heap_new (w := X) rfl)
                go_region_held3 (fun w' => w'.cell? ⟨W1.heap.size, 0, none⟩ = some (.int .i64 T) ∧ w'.cell? ⟨W1.heap.size, 1, none⟩ = some (.int .i64 P))
                  (first | exact ⟨c0'', c1''⟩ | exact ⟨e0', e1'⟩ | exact ⟨c0', c1'⟩ | exact ⟨D0, D1⟩ | exact ⟨F0, F1⟩ | exact ⟨G0, G1⟩ | exact ⟨J0, J1⟩ | go_keep)
                  (first
                    | (refine step_append_slsv pairS _ rfl _ _ 35 rfl _ 32 i0 _ 16 Try.underlying35 hi hz0 hz1 hz2 rfl (by decide) _ ([] ++ m.take (kk)) rfl HO5.out _ 1 1 [(T, P)] rfl rfl HS5.out LE2.out HZ5.out ?_; intro A7 n7 k7 w6 hn6 ho6 hb6 hg6; have HN6 := Lib.hid hn6; have HO6 : Hid (SlOwn pairS w6 X.heap.size 32 (.slice A7 n7 k7) ([] ++ m.take (kk) ++ [(T, P)])) := ho6.base HZ5'.out; have HBQ := Lib.hid (HQ5.out.trans (hb6.mono HY5.out)); have c0'' := (hb6.cell (p := ⟨W1.heap.size, 0, none⟩) (Nat.lt_of_lt_of_le hsX HZ5'.out)).trans e0'; have c1'' := (hb6.cell (p := ⟨W1.heap.size, 1, none⟩) (Nat.lt_of_lt_of_le hsX HZ5'.out)).trans e1'; clear hn6 ho6 hb6 hg6)
                    | (refine step_append_slsv pairS _ rfl _ _ 35 rfl X.heap.size 32 i0 _ 16 Try.underlying35 hi hz0 hz1 hz2 rfl (by decide) (.slice (some ⟨X.heap.size, 0, none⟩) 0 0) [] rfl OA1.out _ _ _ (m.take (kk)) rfl NK.out LA1.out LE1.out (by simp) ?_; intro A5 n5 k5 w5 hn5 ho5 hb5 hg5; have c0' := (hb5.cell (p := ⟨W1.heap.size, 0, none⟩) hsX).trans D0; have c1' := (hb5.cell (p := ⟨W1.heap.size, 1, none⟩) hsX).trans D1; have e0' := alloc_some c0' (Obj.cells #[.int .i64 T, .int .i64 P] 32); have e1' := alloc_some c1' (Obj.cells #[.int .i64 T, .int .i64 P] 32); have HO5 := Lib.hid (ho5.below ((Below.refl _ _).alloc (Nat.le_refl _) (Obj.cells #[.int .i64 T, .int .i64 P] 32))); have HS5 := Lib.hid (slAt_one (a := T) (y := P) (heap_new (w := w5) (o := (Obj.cells #[.int .i64 T, .int .i64 P] 32)) rfl)); have HZ5 : Hid (X.heap.size ≤ (w5.alloc (Obj.cells #[.int .i64 T, .int .i64 P] 32)).heap.size) := Nat.le_trans (BA1.out.trans hb5).size ((Below.refl 0 w5).alloc (Nat.zero_le _) _).size; have HZ5' : Hid (X.heap.size ≤ X.heap.size) := Nat.le_refl _; have HQ5 := Lib.hid ((BA1.out.trans hb5).alloc (BA1.out.trans hb5).size (Obj.cells #[.int .i64 T, .int .i64 P] 32)); have HY5 : Hid (X.heap.size ≤ X.heap.size) := Nat.le_refl _; clear hn5 ho5 hb5 hg5)
                    | (refine step_append_slsv pairS _ rfl _ _ 35 rfl X.heap.size 32 i0 _ 16 Try.underlying35 hi hz0 hz1 hz2 rfl (by decide) (.slice (some ⟨X.heap.size, 0, none⟩) 0 0) [] rfl OA2.out _ _ _ (m.take (kk)) rfl NK.out LA2.out LE1.out (by simp; omega) ?_; intro A5 n5 k5 w5 hn5 ho5 hb5 hg5; have e0' := (hb5.cell (p := ⟨W1.heap.size, 0, none⟩) hsX).trans G0; have e1' := (hb5.cell (p := ⟨W1.heap.size, 1, none⟩) hsX).trans G1; have HO5 := Lib.hid ho5; have HS5 := Lib.hid (slAt_one (a := T) (y := P) ((hg5.block (X.heap.size + 1) (Array.getElem?_eq_some_iff.1 EA2.out).1 (by simp [Value.ownBlock])).trans EA2.out)); have HZ5 : Hid (X.heap.size ≤ w5.heap.size) := (BA2.out.trans hb5).size; have HZ5' : Hid (X.heap.size ≤ X.heap.size) := Nat.le_refl _; have HQ5 := Lib.hid (BA2.out.trans hb5); have HY5 : Hid (X.heap.size ≤ X.heap.size) := Nat.le_refl _; clear hn5 ho5 hb5 hg5)
                    | (refine step_append_slsv pairS _ rfl _ _ 35 rfl (X.heap.size + 1) 32 i0 _ 16 Try.underlying35 hi hz0 hz1 hz2 rfl (by decide) (.slice (some ⟨X.heap.size + 1, 0, none⟩) 0 0) [] rfl OB2.out _ _ _ (m.take (kk)) rfl NK.out LB.out LE1.out (by simp) ?_; intro A5 n5 k5 w5 hn5 ho5 hb5 hg5; have e0' := (hb5.cell (p := ⟨W1.heap.size, 0, none⟩) (Nat.lt_succ_of_lt hsX)).trans J0; have e1' := (hb5.cell (p := ⟨W1.heap.size, 1, none⟩) (Nat.lt_succ_of_lt hsX)).trans J1; have HO5 := Lib.hid ho5; have HS5 := Lib.hid (slAt_one (a := T) (y := P) ((hb5.block X.heap.size (Nat.lt_succ_self _)).trans EB.out)); have HZ5 : Hid (X.heap.size + 1 ≤ w5.heap.size) := Nat.le_trans (by simp) hb5.size; have HZ5' : Hid (X.heap.size ≤ X.heap.size + 1) := Nat.le_succ _; have HQ5 := Lib.hid (BB.out.trans (hb5.mono (Nat.le_succ _))); have HY5 : Hid (X.heap.size ≤ X.heap.size + 1) := Nat.le_succ _; clear hn5 ho5 hb5 hg5))
                all_goals (
                  have HA6 : Hid (SlAt pairS w6 (some ⟨b, off, none⟩) m) := HAX.out.below HBQ.out
                  have LE6 : Hid (([] ++ m.take (kk) ++ [(T, P)]).length + (m.drop (kk)).length ≤ 1048576) := by show _ ≤ _; simp only [List.length_append, List.length_take, List.length_drop, List.length_nil, List.length_cons]; omega
                  have ND : Hid (m.length - (kk) = (m.drop (kk)).length) := by show _ = _; rw [List.length_drop]
                  have HZ6 : Hid (X.heap.size ≤ w6.heap.size) := HBQ.out.size
                  have HD6 : Hid (SlAt pairS w6 (some ⟨b, off + (kk) * 2, none⟩) (m.drop (kk))) := HA6.out.drop (kk)
                  by_cases hck : c6 = kk
                  · have HNIL : Hid (m.drop (kk) = []) := List.drop_eq_nil_of_le (by omega)
                    go_wp2_with (at_builtin; refine wpList_append_slsv pairS _ rfl _ _ 35 rfl X.heap.size 32 i0 _ 16 Try.underlying35 hi hz0 hz1 hz2 rfl (by decide) _ ([] ++ m.take (kk) ++ [(T, P)]) rfl HO6.out _ _ _ (m.drop (kk)) rfl ND.out (.inl HNIL.out) LE6.out HZ6.out ?_; intro A8 n8 k8 w7 hn7 ho7 hb7; have HO7 := Lib.hid ho7; have HB7 := Lib.hid (HBX.out.trans ((HBQ.out.trans hb7).mono h3X)); clear hn7 ho7 hb7)
                    all_goals (
                      go_roundw
                      case rel =>
                        refine ⟨k + 1, A8, n8, k8, by omega, by go_num, rfl, HB13.out.trans (HB7.out.mono HS13.out), ?_⟩
                        have := HO7.out
                        rw [HNE.out HKE.out.1 HKE.out.2] at this
                        exact this.base (Nat.le_trans HS13.out h3X)
                      case measure => (simp [intOf]; omega))
                  · have hck2 : decide (c6 = kk) = false := by simpa using hck
                    go_wp2_with (at_builtin; refine wpList_append_slsv pairS _ rfl _ _ 35 rfl X.heap.size 32 i0 _ 16 Try.underlying35 hi hz0 hz1 hz2 rfl (by decide) _ ([] ++ m.take (kk) ++ [(T, P)]) rfl HO6.out _ _ _ (m.drop (kk)) rfl ND.out HD6.out LE6.out HZ6.out ?_; intro A8 n8 k8 w7 hn7 ho7 hb7; have HO7 := Lib.hid ho7; have HB7 := Lib.hid (HBX.out.trans ((HBQ.out.trans hb7).mono h3X)); clear hn7 ho7 hb7)
                    all_goals (
                      go_roundw
                      case rel =>
                        refine ⟨k + 1, A8, n8, k8, by omega, by go_num, rfl, HB13.out.trans (HB7.out.mono HS13.out), ?_⟩
                        have := HO7.out
                        rw [HNE.out HKE.out.1 HKE.out.2] at this
                        exact this.base (Nat.le_trans HS13.out h3X)
                      case measure => (simp [intOf]; omega)))
              · have hne : (v1 == T) = false := by simpa using hv1
                go_wp2
                go_quiet (fail)
                go_wp2
                have HKE : Hid (kF m (T, P) = kk ∧ ¬ (kk < m.length ∧ m.getD (kk) (0, 0) = (T, P))) := ⟨HKK.out, HN.out⟩
                obtain ⟨X, hX⟩ : ∃ X, X = W5.drewN nq := ⟨_, rfl⟩
                have HBX : Hid (Below W3.heap.size W3 X) := by rw [hX]; exact ⟨HB5.out.os, HB5.out.tape, HB5.out.output, HB5.out.size, HB5.out.block⟩
                have HAX : Hid (SlAt pairS X (some ⟨b, off, none⟩) m) := HM3.out.below HBX.out
                have x0 : X.cell? ⟨W1.heap.size, 0, none⟩ = some (.int .i64 T) := Below.cell_some HBX.out Z0.out
                have x1 : X.cell? ⟨W1.heap.size, 1, none⟩ = some (.int .i64 P) := Below.cell_some HBX.out Z1.out
                have hsX : W1.heap.size < X.heap.size := Nat.lt_of_lt_of_le HZ3.out HBX.out.size
                have h3X : W3.heap.size ≤ X.heap.size := HBX.out.size
                rw [← hX]
                clear hX
                have p0 : X.drew.cell? ⟨W1.heap.size, 0, none⟩ = some (.int .i64 T) := x0
                have p1 : X.drew.cell? ⟨W1.heap.size, 1, none⟩ = some (.int .i64 P) := x1
                have D0 : (X.alloc (Obj.cells #[] 32)).drew.cell? ⟨W1.heap.size, 0, none⟩ = some (.int .i64 T) := alloc_some x0 _
                have D1 : (X.alloc (Obj.cells #[] 32)).drew.cell? ⟨W1.heap.size, 1, none⟩ = some (.int .i64 P) := alloc_some x1 _
                have F0 : (X.alloc (Obj.cells #[.int .i64 T, .int .i64 P] 32)).drew.cell? ⟨W1.heap.size, 0, none⟩ = some (.int .i64 T) := alloc_some x0 _
                have F1 : (X.alloc (Obj.cells #[.int .i64 T, .int .i64 P] 32)).drew.cell? ⟨W1.heap.size, 1, none⟩ = some (.int .i64 P) := alloc_some x1 _
                have G0 : ((X.alloc (Obj.cells #[] 32)).alloc (Obj.cells #[.int .i64 T, .int .i64 P] 32)).drew.cell? ⟨W1.heap.size, 0, none⟩ = some (.int .i64 T) := alloc_some (alloc_some x0 _) _
                have G1 : ((X.alloc (Obj.cells #[] 32)).alloc (Obj.cells #[.int .i64 T, .int .i64 P] 32)).drew.cell? ⟨W1.heap.size, 1, none⟩ = some (.int .i64 P) := alloc_some (alloc_some x1 _) _
                have J0 : ((X.alloc (Obj.cells #[.int .i64 T, .int .i64 P] 32)).alloc (Obj.cells #[] 32)).drew.cell? ⟨W1.heap.size, 0, none⟩ = some (.int .i64 T) := alloc_some (alloc_some x0 _) _
                have J1 : ((X.alloc (Obj.cells #[.int .i64 T, .int .i64 P] 32)).alloc (Obj.cells #[] 32)).drew.cell? ⟨W1.heap.size, 1, none⟩ = some (.int .i64 P) := alloc_some (alloc_some x1 _) _
                have BA1 : Hid (Below X.heap.size X (X.alloc (Obj.cells #[] 32)).drew) := (((Below.refl _ X).alloc (Nat.le_refl _) _).drew)
                have BA2 : Hid (Below X.heap.size X ((X.alloc (Obj.cells #[] 32)).alloc (Obj.cells #[.int .i64 T, .int .i64 P] 32)).drew) := ((((Below.refl _ X).alloc (Nat.le_refl _) _).alloc (by simp) _).drew)
                have BB : Hid (Below X.heap.size X ((X.alloc (Obj.cells #[.int .i64 T, .int .i64 P] 32)).alloc (Obj.cells #[] 32)).drew) := ((((Below.refl _ X).alloc (Nat.le_refl _) _).alloc (by simp) _).drew)
                have OA1 : Hid (SlOwn pairS (X.alloc (Obj.cells #[] 32)).drew X.heap.size 32 (.slice (some ⟨X.heap.size, 0, none⟩) 0 0) []) := own_empty pairS X _
                have OA2 : Hid (SlOwn pairS ((X.alloc (Obj.cells #[] 32)).alloc (Obj.cells #[.int .i64 T, .int .i64 P] 32)).drew X.heap.size 32 (.slice (some ⟨X.heap.size, 0, none⟩) 0 0) []) := (own_empty pairS X 32).below (((Below.refl _ _).alloc (Nat.le_refl _) _).drew)
                have OB2 : Hid (SlOwn pairS ((X.alloc (Obj.cells #[.int .i64 T, .int .i64 P] 32)).alloc (Obj.cells #[] 32)).drew (X.heap.size + 1) 32 (.slice (some ⟨X.heap.size + 1, 0, none⟩) 0 0) []) := own_empty_n pairS (X.alloc (Obj.cells #[.int .i64 T, .int .i64 P] 32)) _ (by simp)
                have LA1 : Hid (SlAt pairS (X.alloc (Obj.cells #[] 32)).drew (some ⟨b, off, none⟩) (m.take (kk))) := (HAX.out.below BA1.out).take _
                have LA2 : Hid (SlAt pairS ((X.alloc (Obj.cells #[] 32)).alloc (Obj.cells #[.int .i64 T, .int .i64 P] 32)).drew (some ⟨b, off, none⟩) (m.take (kk))) := (HAX.out.below BA2.out).take _
                have LB : Hid (SlAt pairS ((X.alloc (Obj.cells #[.int .i64 T, .int .i64 P] 32)).alloc (Obj.cells #[] 32)).drew (some ⟨b, off, none⟩) (m.take (kk))) := (HAX.out.below BB.out).take _
                have NK : Hid (kk = (m.take (kk)).length) := by show _ = _; simp only [List.length_take]; omega
                have LE1 : Hid (([] : List (Int × Int)).length + (m.take (kk)).length ≤ 1048576) := by show _ ≤ _; simp only [List.length_take, List.length_nil]; omega
                have LE2 : Hid (([] ++ m.take (kk)).length + [(T, P)].length ≤ 1048576) := by show _ ≤ _; simp only [List.length_append, List.length_take, List.length_nil, List.length_cons]; omega
                have EA2 : Hid (((X.alloc (Obj.cells #[] 32)).alloc (Obj.cells #[.int .i64 T, .int .i64 P] 32)).drew.heap[X.heap.size + 1]? = some (Obj.cells #[.int .i64 T, .int .i64 P] 32)) := heap_new (w := X.alloc (Obj.cells #[] 32)) (by simp)
                have EB : Hid (((X.alloc (Obj.cells #[.int .i64 T, .int .i64 P] 32)).alloc (Obj.cells #[] 32)).drew.heap[X.heap.size]? = some (Obj.cells #[.int .i64 T, .int .i64 P] 32)) := (((Below.refl (X.heap.size + 1) (X.alloc (Obj.cells #[.int .i64 T, .int .i64 P] 32))).alloc (by simp) (Obj.cells #[] 32)).block X.heap.size (by omega)).trans (heap_new (w := X) rfl)
                go_region_held3 (fun w' => w'.cell? ⟨W1.heap.size, 0, none⟩ = some (.int .i64 T) ∧ w'.cell? ⟨W1.heap.size, 1, none⟩ = some (.int .i64 P))
                  (first | exact ⟨c0'', c1''⟩ | exact ⟨e0', e1'⟩ | exact ⟨c0', c1'⟩ | exact ⟨D0, D1⟩ | exact ⟨F0, F1⟩ | exact ⟨G0, G1⟩ | exact ⟨J0, J1⟩ | go_keep)
                  (first
                    | (refine step_append_slsv pairS _ rfl _ _ 35 rfl _ 32 i0 _ 16 Try.underlying35 hi hz0 hz1 hz2 rfl (by decide) _ ([] ++ m.take (kk)) rfl HO5.out _ 1 1 [(T, P)] rfl rfl HS5.out LE2.out HZ5.out ?_; intro A7 n7 k7 w6 hn6 ho6 hb6 hg6; have HN6 := Lib.hid hn6; have HO6 : Hid (SlOwn pairS w6 X.heap.size 32 (.slice A7 n7 k7) ([] ++ m.take (kk) ++ [(T, P)])) := ho6.base HZ5'.out; have HBQ := Lib.hid (HQ5.out.trans (hb6.mono HY5.out)); have c0'' := (hb6.cell (p := ⟨W1.heap.size, 0, none⟩) (Nat.lt_of_lt_of_le hsX HZ5'.out)).trans e0'; have c1'' := (hb6.cell (p := ⟨W1.heap.size, 1, none⟩) (Nat.lt_of_lt_of_le hsX HZ5'.out)).trans e1'; clear hn6 ho6 hb6 hg6)
                    | (refine step_append_slsv pairS _ rfl _ _ 35 rfl X.heap.size 32 i0 _ 16 Try.underlying35 hi hz0 hz1 hz2 rfl (by decide) (.slice (some ⟨X.heap.size, 0, none⟩) 0 0) [] rfl OA1.out _ _ _ (m.take (kk)) rfl NK.out LA1.out LE1.out (by simp) ?_; intro A5 n5 k5 w5 hn5 ho5 hb5 hg5; have c0' := (hb5.cell (p := ⟨W1.heap.size, 0, none⟩) hsX).trans D0; have c1' := (hb5.cell (p := ⟨W1.heap.size, 1, none⟩) hsX).trans D1; have e0' := alloc_some c0' (Obj.cells #[.int .i64 T, .int .i64 P] 32); have e1' := alloc_some c1' (Obj.cells #[.int .i64 T, .int .i64 P] 32); have HO5 := Lib.hid (ho5.below ((Below.refl _ _).alloc (Nat.le_refl _) (Obj.cells #[.int .i64 T, .int .i64 P] 32))); have HS5 := Lib.hid (slAt_one (a := T) (y := P) (heap_new (w := w5) (o := (Obj.cells #[.int .i64 T, .int .i64 P] 32)) rfl)); have HZ5 : Hid (X.heap.size ≤ (w5.alloc (Obj.cells #[.int .i64 T, .int .i64 P] 32)).heap.size) := Nat.le_trans (BA1.out.trans hb5).size ((Below.refl 0 w5).alloc (Nat.zero_le _) _).size; have HZ5' : Hid (X.heap.size ≤ X.heap.size) := Nat.le_refl _; have HQ5 := Lib.hid ((BA1.out.trans hb5).alloc (BA1.out.trans hb5).size (Obj.cells #[.int .i64 T, .int .i64 P] 32)); have HY5 : Hid (X.heap.size ≤ X.heap.size) := Nat.le_refl _; clear hn5 ho5 hb5 hg5)
                    | (refine step_append_slsv pairS _ rfl _ _ 35 rfl X.heap.size 32 i0 _ 16 Try.underlying35 hi hz0 hz1 hz2 rfl (by decide) (.slice (some ⟨X.heap.size, 0, none⟩) 0 0) [] rfl OA2.out _ _ _ (m.take (kk)) rfl NK.out LA2.out LE1.out (by simp; omega) ?_; intro A5 n5 k5 w5 hn5 ho5 hb5 hg5; have e0' := (hb5.cell (p := ⟨W1.heap.size, 0, none⟩) hsX).trans G0; have e1' := (hb5.cell (p := ⟨W1.heap.size, 1, none⟩) hsX).trans G1; have HO5 := Lib.hid ho5; have HS5 := Lib.hid (slAt_one (a := T) (y := P) ((hg5.block (X.heap.size + 1) (Array.getElem?_eq_some_iff.1 EA2.out).1 (by simp [Value.ownBlock])).trans EA2.out)); have HZ5 : Hid (X.heap.size ≤ w5.heap.size) := (BA2.out.trans hb5).size; have HZ5' : Hid (X.heap.size ≤ X.heap.size) := Nat.le_refl _; have HQ5 := Lib.hid (BA2.out.trans hb5); have HY5 : Hid (X.heap.size ≤ X.heap.size) := Nat.le_refl _; clear hn5 ho5 hb5 hg5)
                    | (refine step_append_slsv pairS _ rfl _ _ 35 rfl (X.heap.size + 1) 32 i0 _ 16 Try.underlying35 hi hz0 hz1 hz2 rfl (by decide) (.slice (some ⟨X.heap.size + 1, 0, none⟩) 0 0) [] rfl OB2.out _ _ _ (m.take (kk)) rfl NK.out LB.out LE1.out (by simp) ?_; intro A5 n5 k5 w5 hn5 ho5 hb5 hg5; have e0' := (hb5.cell (p := ⟨W1.heap.size, 0, none⟩) (Nat.lt_succ_of_lt hsX)).trans J0; have e1' := (hb5.cell (p := ⟨W1.heap.size, 1, none⟩) (Nat.lt_succ_of_lt hsX)).trans J1; have HO5 := Lib.hid ho5; have HS5 := Lib.hid (slAt_one (a := T) (y := P) ((hb5.block X.heap.size (Nat.lt_succ_self _)).trans EB.out)); have HZ5 : Hid (X.heap.size + 1 ≤ w5.heap.size) := Nat.le_trans (by simp) hb5.size; have HZ5' : Hid (X.heap.size ≤ X.heap.size + 1) := Nat.le_succ _; have HQ5 := Lib.hid (BB.out.trans (hb5.mono (Nat.le_succ _))); have HY5 : Hid (X.heap.size ≤ X.heap.size + 1) := Nat.le_succ _; clear hn5 ho5 hb5 hg5))
                all_goals (
                  have HA6 : Hid (SlAt pairS w6 (some ⟨b, off, none⟩) m) := HAX.out.below HBQ.out
                  have LE6 : Hid (([] ++ m.take (kk) ++ [(T, P)]).length + (m.drop (kk)).length ≤ 1048576) := by show _ ≤ _; simp only [List.length_append, List.length_take, List.length_drop, List.length_nil, List.length_cons]; omega
                  have ND : Hid (m.length - (kk) = (m.drop (kk)).length) := by show _ = _; rw [List.length_drop]
                  have HZ6 : Hid (X.heap.size ≤ w6.heap.size) := HBQ.out.size
                  have HD6 : Hid (SlAt pairS w6 (some ⟨b, off + (kk) * 2, none⟩) (m.drop (kk))) := HA6.out.drop (kk)
                  by_cases hck : c6 = kk
                  · have HNIL : Hid (m.drop (kk) = []) := List.drop_eq_nil_of_le (by omega)
                    go_wp2_with (at_builtin; refine wpList_append_slsv pairS _ rfl _ _ 35 rfl X.heap.size 32 i0 _ 16 Try.underlying35 hi hz0 hz1 hz2 rfl (by decide) _ ([] ++ m.take (kk) ++ [(T, P)]) rfl HO6.out _ _ _ (m.drop (kk)) rfl ND.out (.inl HNIL.out) LE6.out HZ6.out ?_; intro A8 n8 k8 w7 hn7 ho7 hb7; have HO7 := Lib.hid ho7; have HB7 := Lib.hid (HBX.out.trans ((HBQ.out.trans hb7).mono h3X)); clear hn7 ho7 hb7)
                    all_goals (
                      go_roundw
                      case rel =>
                        refine ⟨k + 1, A8, n8, k8, by omega, by go_num, rfl, HB13.out.trans (HB7.out.mono HS13.out), ?_⟩
                        have := HO7.out
                        rw [HNE.out HKE.out.1 HKE.out.2] at this
                        exact this.base (Nat.le_trans HS13.out h3X)
                      case measure => (simp [intOf]; omega))
                  · have hck2 : decide (c6 = kk) = false := by simpa using hck
                    go_wp2_with (at_builtin; refine wpList_append_slsv pairS _ rfl _ _ 35 rfl X.heap.size 32 i0 _ 16 Try.underlying35 hi hz0 hz1 hz2 rfl (by decide) _ ([] ++ m.take (kk) ++ [(T, P)]) rfl HO6.out _ _ _ (m.drop (kk)) rfl ND.out HD6.out LE6.out HZ6.out ?_; intro A8 n8 k8 w7 hn7 ho7 hb7; have HO7 := Lib.hid ho7; have HB7 := Lib.hid (HBX.out.trans ((HBQ.out.trans hb7).mono h3X)); clear hn7 ho7 hb7)
                    all_goals (
                      go_roundw
                      case rel =>
                        refine ⟨k + 1, A8, n8, k8, by omega, by go_num, rfl, HB13.out.trans (HB7.out.mono HS13.out), ?_⟩
                        have := HO7.out
                        rw [HNE.out HKE.out.1 HKE.out.2] at this
                        exact this.base (Nat.le_trans HS13.out h3X)
                      case measure => (simp [intOf]; omega)))
        · have hkm : kk = m.length := by omega
          have hk3 : (m.length : Int) ≤ (c6 : Int) := by omega
          rcases own_addr HO.out with ⟨rfl, hm0⟩ | ⟨g9, rfl⟩
          · obtain rfl : kk = 0 := by rw [hkm, hm0]; rfl
            have HL := Lib.hid hm0
            have HKK : Hid (kF m (T, P) = 0) := kF_stop (Nat.zero_le _) HALL.out (fun h => absurd h (by omega))
            have HN : Hid (¬ (0 < m.length ∧ m.getD 0 (0, 0) = (T, P))) := fun h => absurd h.1 hkl2
            have hself : decide ((0 : Int) < (m.length : Int)) = false := by simp; exact hm0
            clear hm0 hkm
            go_wp2
            refine wp_region_ext (by kernel_rfl) (by kernel_rfl) ?_
            repeat (first | go_big_quiet_skip | (go_big_quiet_want; go_big_quiet_op; go_big_quiet_on))
            refine wpQuiet_nil ?_
            rintro _ ⟨x, rfl⟩
            obtain ⟨W5, hW5⟩ : ∃ W, W = x.w := ⟨_, rfl⟩
            have HB5 : Hid (Below W3.heap.size W3 W5) := by rw [hW5]; exact HB4.out.trans (x.h.mono HB4.out.size)
            rw [← hW5]
            clear hW5
            have z0 := Below.cell_some HB5.out Z0.out
            have z1 := Below.cell_some HB5.out Z1.out
            go_wp2
            go_quiet (fail)
            go_wp2
            have HKE : Hid (kF m (T, P) = 0 ∧ ¬ (0 < m.length ∧ m.getD (0) (0, 0) = (T, P))) := ⟨HKK.out, HN.out⟩
            obtain ⟨X, hX⟩ : ∃ X, X = W5.drewN nq := ⟨_, rfl⟩
            have HBX : Hid (Below W3.heap.size W3 X) := by rw [hX]; exact ⟨HB5.out.os, HB5.out.tape, HB5.out.output, HB5.out.size, HB5.out.block⟩
            have HAX : Hid (SlAt pairS X none m) := HM3.out.below HBX.out
            have x0 : X.cell? ⟨W1.heap.size, 0, none⟩ = some (.int .i64 T) := Below.cell_some HBX.out Z0.out
            have x1 : X.cell? ⟨W1.heap.size, 1, none⟩ = some (.int .i64 P) := Below.cell_some HBX.out Z1.out
            have hsX : W1.heap.size < X.heap.size := Nat.lt_of_lt_of_le HZ3.out HBX.out.size
            have h3X : W3.heap.size ≤ X.heap.size := HBX.out.size
            rw [← hX]
            clear hX
            have p0 : X.drew.cell? ⟨W1.heap.size, 0, none⟩ = some (.int .i64 T) := x0
            have p1 : X.drew.cell? ⟨W1.heap.size, 1, none⟩ = some (.int .i64 P) := x1
            have D0 : (X.alloc (Obj.cells #[] 32)).drew.cell? ⟨W1.heap.size, 0, none⟩ = some (.int .i64 T) := alloc_some x0 _
            have D1 : (X.alloc (Obj.cells #[] 32)).drew.cell? ⟨W1.heap.size, 1, none⟩ = some (.int .i64 P) := alloc_some x1 _
            have F0 : (X.alloc (Obj.cells #[.int .i64 T, .int .i64 P] 32)).drew.cell? ⟨W1.heap.size, 0, none⟩ = some (.int .i64 T) := alloc_some x0 _
            have F1 : (X.alloc (Obj.cells #[.int .i64 T, .int .i64 P] 32)).drew.cell? ⟨W1.heap.size, 1, none⟩ = some (.int .i64 P) := alloc_some x1 _
            have G0 : ((X.alloc (Obj.cells #[] 32)).alloc (Obj.cells #[.int .i64 T, .int .i64 P] 32)).drew.cell? ⟨W1.heap.size, 0, none⟩ = some (.int .i64 T) := alloc_some (alloc_some x0 _) _
            have G1 : ((X.alloc (Obj.cells #[] 32)).alloc (Obj.cells #[.int .i64 T, .int .i64 P] 32)).drew.cell? ⟨W1.heap.size, 1, none⟩ = some (.int .i64 P) := alloc_some (alloc_some x1 _) _
            have J0 : ((X.alloc (Obj.cells #[.int .i64 T, .int .i64 P] 32)).alloc (Obj.cells #[] 32)).drew.cell? ⟨W1.heap.size, 0, none⟩ = some (.int .i64 T) := alloc_some (alloc_some x0 _) _
            have J1 : ((X.alloc (Obj.cells #[.int .i64 T, .int .i64 P] 32)).alloc (Obj.cells #[] 32)).drew.cell? ⟨W1.heap.size, 1, none⟩ = some (.int .i64 P) := alloc_some (alloc_some x1 _) _
            have BA1 : Hid (Below X.heap.size X (X.alloc (Obj.cells #[] 32)).drew) := (((Below.refl _ X).alloc (Nat.le_refl _) _).drew)
            have BA2 : Hid (Below X.heap.size X ((X.alloc (Obj.cells #[] 32)).alloc (Obj.cells #[.int .i64 T, .int .i64 P] 32)).drew) := ((((Below.refl _ X).alloc (Nat.le_refl _) _).alloc (by simp) _).drew)
            have BB : Hid (Below X.heap.size X ((X.alloc (Obj.cells #[.int .i64 T, .int .i64 P] 32)).alloc (Obj.cells #[] 32)).drew) := ((((Below.refl _ X).alloc (Nat.le_refl _) _).alloc (by simp) _).drew)
            have OA1 : Hid (SlOwn pairS (X.alloc (Obj.cells #[] 32)).drew X.heap.size 32 (.slice (some ⟨X.heap.size, 0, none⟩) 0 0) []) := own_empty pairS X _
            have OA2 : Hid (SlOwn pairS ((X.alloc (Obj.cells #[] 32)).alloc (Obj.cells #[.int .i64 T, .int .i64 P] 32)).drew X.heap.size 32 (.slice (some ⟨X.heap.size, 0, none⟩) 0 0) []) := (own_empty pairS X 32).below (((Below.refl _ _).alloc (Nat.le_refl _) _).drew)
            have OB2 : Hid (SlOwn pairS ((X.alloc (Obj.cells #[.int .i64 T, .int .i64 P] 32)).alloc (Obj.cells #[] 32)).drew (X.heap.size + 1) 32 (.slice (some ⟨X.heap.size + 1, 0, none⟩) 0 0) []) := own_empty_n pairS (X.alloc (Obj.cells #[.int .i64 T, .int .i64 P] 32)) _ (by simp)
            have LA1 : Hid (SlAt pairS (X.alloc (Obj.cells #[] 32)).drew none (m.take (0))) := (HAX.out.below BA1.out).take _
            have LA2 : Hid (SlAt pairS ((X.alloc (Obj.cells #[] 32)).alloc (Obj.cells #[.int .i64 T, .int .i64 P] 32)).drew none (m.take (0))) := (HAX.out.below BA2.out).take _
            have LB : Hid (SlAt pairS ((X.alloc (Obj.cells #[.int .i64 T, .int .i64 P] 32)).alloc (Obj.cells #[] 32)).drew none (m.take (0))) := (HAX.out.below BB.out).take _
            have NK : Hid (0 = (m.take (0)).length) := by show _ = _; simp only [List.length_take]; omega
            have LE1 : Hid (([] : List (Int × Int)).length + (m.take (0)).length ≤ 1048576) := by show _ ≤ _; simp only [List.length_take, List.length_nil]; omega
            have LE2 : Hid (([] ++ m.take (0)).length + [(T, P)].length ≤ 1048576) := by show _ ≤ _; simp only [List.length_append, List.length_take, List.length_nil, List.length_cons]; omega
            have EA2 : Hid (((X.alloc (Obj.cells #[] 32)).alloc (Obj.cells #[.int .i64 T, .int .i64 P] 32)).drew.heap[X.heap.size + 1]? = some (Obj.cells #[.int .i64 T, .int .i64 P] 32)) := heap_new (w := X.alloc (Obj.cells #[] 32)) (by simp)
            have EB : Hid (((X.alloc (Obj.cells #[.int .i64 T, .int .i64 P] 32)).alloc (Obj.cells #[] 32)).drew.heap[X.heap.size]? = some (Obj.cells #[.int .i64 T, .int .i64 P] 32)) := (((Below.refl (X.heap.size + 1) (X.alloc (Obj.cells #[.int .i64 T, .int .i64 P] 32))).alloc (by simp) (Obj.cells #[] 32)).block X.heap.size (by omega)).trans (heap_new (w := X) rfl)
            go_region_held3 (fun w' => w'.cell? ⟨W1.heap.size, 0, none⟩ = some (.int .i64 T) ∧ w'.cell? ⟨W1.heap.size, 1, none⟩ = some (.int .i64 P))
              (first | exact ⟨c0'', c1''⟩ | exact ⟨e0', e1'⟩ | exact ⟨c0', c1'⟩ | exact ⟨D0, D1⟩ | exact ⟨F0, F1⟩ | exact ⟨G0, G1⟩ | exact ⟨J0, J1⟩ | go_keep)
              (first
                | (refine step_append_slsv pairS _ rfl _ _ 35 rfl _ 32 i0 _ 16 Try.underlying35 hi hz0 hz1 hz2 rfl (by decide) _ ([] ++ m.take (0)) rfl HO5.out _ 1 1 [(T, P)] rfl rfl HS5.out LE2.out HZ5.out ?_; intro A7 n7 k7 w6 hn6 ho6 hb6 hg6; have HN6 := Lib.hid hn6; have HO6 : Hid (SlOwn pairS w6 X.heap.size 32 (.slice A7 n7 k7) ([] ++ m.take (0) ++ [(T, P)])) := ho6.base HZ5'.out; have HBQ := Lib.hid (HQ5.out.trans (hb6.mono HY5.out)); have c0'' := (hb6.cell (p := ⟨W1.heap.size, 0, none⟩) (Nat.lt_of_lt_of_le hsX HZ5'.out)).trans e0'; have c1'' := (hb6.cell (p := ⟨W1.heap.size, 1, none⟩) (Nat.lt_of_lt_of_le hsX HZ5'.out)).trans e1'; clear hn6 ho6 hb6 hg6)
                | (refine step_append_slsv pairS _ rfl _ _ 35 rfl X.heap.size 32 i0 _ 16 Try.underlying35 hi hz0 hz1 hz2 rfl (by decide) (.slice (some ⟨X.heap.size, 0, none⟩) 0 0) [] rfl OA1.out _ _ _ (m.take (0)) rfl NK.out LA1.out LE1.out (by simp) ?_; intro A5 n5 k5 w5 hn5 ho5 hb5 hg5; have c0' := (hb5.cell (p := ⟨W1.heap.size, 0, none⟩) hsX).trans D0; have c1' := (hb5.cell (p := ⟨W1.heap.size, 1, none⟩) hsX).trans D1; have e0' := alloc_some c0' (Obj.cells #[.int .i64 T, .int .i64 P] 32); have e1' := alloc_some c1' (Obj.cells #[.int .i64 T, .int .i64 P] 32); have HO5 := Lib.hid (ho5.below ((Below.refl _ _).alloc (Nat.le_refl _) (Obj.cells #[.int .i64 T, .int .i64 P] 32))); have HS5 := Lib.hid (slAt_one (a := T) (y := P) (heap_new (w := w5) (o := (Obj.cells #[.int .i64 T, .int .i64 P] 32)) rfl)); have HZ5 : Hid (X.heap.size ≤ (w5.alloc (Obj.cells #[.int .i64 T, .int .i64 P] 32)).heap.size) := Nat.le_trans (BA1.out.trans hb5).size ((Below.refl 0 w5).alloc (Nat.zero_le _) _).size; have HZ5' : Hid (X.heap.size ≤ X.heap.size) := Nat.le_refl _; have HQ5 := Lib.hid ((BA1.out.trans hb5).alloc (BA1.out.trans hb5).size (Obj.cells #[.int .i64 T, .int .i64 P] 32)); have HY5 : Hid (X.heap.size ≤ X.heap.size) := Nat.le_refl _; clear hn5 ho5 hb5 hg5)
                | (refine step_append_slsv pairS _ rfl _ _ 35 rfl X.heap.size 32 i0 _ 16 Try.underlying35 hi hz0 hz1 hz2 rfl (by decide) (.slice (some ⟨X.heap.size, 0, none⟩) 0 0) [] rfl OA2.out _ _ _ (m.take (0)) rfl NK.out LA2.out LE1.out (by simp; omega) ?_; intro A5 n5 k5 w5 hn5 ho5 hb5 hg5; have e0' := (hb5.cell (p := ⟨W1.heap.size, 0, none⟩) hsX).trans G0; have e1' := (hb5.cell (p := ⟨W1.heap.size, 1, none⟩) hsX).trans G1; have HO5 := Lib.hid ho5; have HS5 := Lib.hid (slAt_one (a := T) (y := P) ((hg5.block (X.heap.size + 1) (Array.getElem?_eq_some_iff.1 EA2.out).1 (by simp [Value.ownBlock])).trans EA2.out)); have HZ5 : Hid (X.heap.size ≤ w5.heap.size) := (BA2.out.trans hb5).size; have HZ5' : Hid (X.heap.size ≤ X.heap.size) := Nat.le_refl _; have HQ5 := Lib.hid (BA2.out.trans hb5); have HY5 : Hid (X.heap.size ≤ X.heap.size) := Nat.le_refl _; clear hn5 ho5 hb5 hg5)
                | (refine step_append_slsv pairS _ rfl _ _ 35 rfl (X.heap.size + 1) 32 i0 _ 16 Try.underlying35 hi hz0 hz1 hz2 rfl (by decide) (.slice (some ⟨X.heap.size + 1, 0, none⟩) 0 0) [] rfl OB2.out _ _ _ (m.take (0)) rfl NK.out LB.out LE1.out (by simp) ?_; intro A5 n5 k5 w5 hn5 ho5 hb5 hg5; have e0' := (hb5.cell (p := ⟨W1.heap.size, 0, none⟩) (Nat.lt_succ_of_lt hsX)).trans J0; have e1' := (hb5.cell (p := ⟨W1.heap.size, 1, none⟩) (Nat.lt_succ_of_lt hsX)).trans J1; have HO5 := Lib.hid ho5; have HS5 := Lib.hid (slAt_one (a := T) (y := P) ((hb5.block X.heap.size (Nat.lt_succ_self _)).trans EB.out)); have HZ5 : Hid (X.heap.size + 1 ≤ w5.heap.size) := Nat.le_trans (by simp) hb5.size; have HZ5' : Hid (X.heap.size ≤ X.heap.size + 1) := Nat.le_succ _; have HQ5 := Lib.hid (BB.out.trans (hb5.mono (Nat.le_succ _))); have HY5 : Hid (X.heap.size ≤ X.heap.size + 1) := Nat.le_succ _; clear hn5 ho5 hb5 hg5))
            all_goals (
              have HA6 : Hid (SlAt pairS w6 none m) := HAX.out.below HBQ.out
              have LE6 : Hid (([] ++ m.take (0) ++ [(T, P)]).length + (m.drop (0)).length ≤ 1048576) := by show _ ≤ _; simp only [List.length_append, List.length_take, List.length_drop, List.length_nil, List.length_cons]; omega
              have ND : Hid (m.length - (0) = (m.drop (0)).length) := by show _ = _; rw [List.length_drop]
              have HZ6 : Hid (X.heap.size ≤ w6.heap.size) := HBQ.out.size
              go_wp2_with (at_builtin; refine wpList_append_slsv pairS _ rfl _ _ 35 rfl X.heap.size 32 i0 _ 16 Try.underlying35 hi hz0 hz1 hz2 rfl (by decide) _ ([] ++ m.take (0) ++ [(T, P)]) rfl HO6.out _ _ _ (m.drop (0)) rfl ND.out (.inl (by rw [HL.out]; rfl)) LE6.out HZ6.out ?_; intro A8 n8 k8 w7 hn7 ho7 hb7; have HO7 := Lib.hid ho7; have HB7 := Lib.hid (HBX.out.trans ((HBQ.out.trans hb7).mono h3X)); clear hn7 ho7 hb7)
              all_goals (
                go_roundw
                case rel =>
                  refine ⟨k + 1, A8, n8, k8, by omega, by go_num, rfl, HB13.out.trans (HB7.out.mono HS13.out), ?_⟩
                  have := HO7.out
                  rw [HNE.out HKE.out.1 HKE.out.2] at this
                  exact this.base (Nat.le_trans HS13.out h3X)
                case measure => (simp [intOf]; omega)))
          · have hk1 : (kk : Int) ≤ (c6 : Int) := by omega
            have hk2 : (kk : Int) ≤ (m.length : Int) := by omega
            have HKK : Hid (kF m (T, P) = kk) := kF_stop hkk HALL.out (fun h => absurd h hkl2)
            have HN : Hid (¬ (kk < m.length ∧ m.getD kk (0, 0) = (T, P))) := fun h => absurd h.1 hkl2
            have hself : decide ((kk : Int) < (m.length : Int)) = false := by simp; omega
            clear hkm
            go_wp2
            refine wp_region_ext (by kernel_rfl) (by kernel_rfl) ?_
            repeat (first | go_big_quiet_skip | (go_big_quiet_want; go_big_quiet_op; go_big_quiet_on))
            refine wpQuiet_nil ?_
            rintro _ ⟨x, rfl⟩
            obtain ⟨W5, hW5⟩ : ∃ W, W = x.w := ⟨_, rfl⟩
            have HB5 : Hid (Below W3.heap.size W3 W5) := by rw [hW5]; exact HB4.out.trans (x.h.mono HB4.out.size)
            rw [← hW5]
            clear hW5
            have z0 := Below.cell_some HB5.out Z0.out
            have z1 := Below.cell_some HB5.out Z1.out
            go_wp2
            go_quiet (fail)
            go_wp2
            have HKE : Hid (kF m (T, P) = kk ∧ ¬ (kk < m.length ∧ m.getD (kk) (0, 0) = (T, P))) := ⟨HKK.out, HN.out⟩
            obtain ⟨X, hX⟩ : ∃ X, X = W5.drewN nq := ⟨_, rfl⟩
            have HBX : Hid (Below W3.heap.size W3 X) := by rw [hX]; exact ⟨HB5.out.os, HB5.out.tape, HB5.out.output, HB5.out.size, HB5.out.block⟩
            have HAX : Hid (SlAt pairS X (some ⟨g9, 0, none⟩) m) := HM3.out.below HBX.out
            have x0 : X.cell? ⟨W1.heap.size, 0, none⟩ = some (.int .i64 T) := Below.cell_some HBX.out Z0.out
            have x1 : X.cell? ⟨W1.heap.size, 1, none⟩ = some (.int .i64 P) := Below.cell_some HBX.out Z1.out
            have hsX : W1.heap.size < X.heap.size := Nat.lt_of_lt_of_le HZ3.out HBX.out.size
            have h3X : W3.heap.size ≤ X.heap.size := HBX.out.size
            rw [← hX]
            clear hX
            have p0 : X.drew.cell? ⟨W1.heap.size, 0, none⟩ = some (.int .i64 T) := x0
            have p1 : X.drew.cell? ⟨W1.heap.size, 1, none⟩ = some (.int .i64 P) := x1
            have D0 : (X.alloc (Obj.cells #[] 32)).drew.cell? ⟨W1.heap.size, 0, none⟩ = some (.int .i64 T) := alloc_some x0 _
            have D1 : (X.alloc (Obj.cells #[] 32)).drew.cell? ⟨W1.heap.size, 1, none⟩ = some (.int .i64 P) := alloc_some x1 _
            have F0 : (X.alloc (Obj.cells #[.int .i64 T, .int .i64 P] 32)).drew.cell? ⟨W1.heap.size, 0, none⟩ = some (.int .i64 T) := alloc_some x0 _
            have F1 : (X.alloc (Obj.cells #[.int .i64 T, .int .i64 P] 32)).drew.cell? ⟨W1.heap.size, 1, none⟩ = some (.int .i64 P) := alloc_some x1 _
            have G0 : ((X.alloc (Obj.cells #[] 32)).alloc (Obj.cells #[.int .i64 T, .int .i64 P] 32)).drew.cell? ⟨W1.heap.size, 0, none⟩ = some (.int .i64 T) := alloc_some (alloc_some x0 _) _
            have G1 : ((X.alloc (Obj.cells #[] 32)).alloc (Obj.cells #[.int .i64 T, .int .i64 P] 32)).drew.cell? ⟨W1.heap.size, 1, none⟩ = some (.int .i64 P) := alloc_some (alloc_some x1 _) _
            have J0 : ((X.alloc (Obj.cells #[.int .i64 T, .int .i64 P] 32)).alloc (Obj.cells #[] 32)).drew.cell? ⟨W1.heap.size, 0, none⟩ = some (.int .i64 T) := alloc_some (alloc_some x0 _) _
            have J1 : ((X.alloc (Obj.cells #[.int .i64 T, .int .i64 P] 32)).alloc (Obj.cells #[] 32)).drew.cell? ⟨W1.heap.size, 1, none⟩ = some (.int .i64 P) := alloc_some (alloc_some x1 _) _
            have BA1 : Hid (Below X.heap.size X (X.alloc (Obj.cells #[] 32)).drew) := (((Below.refl _ X).alloc (Nat.le_refl _) _).drew)
            have BA2 : Hid (Below X.heap.size X ((X.alloc (Obj.cells #[] 32)).alloc (Obj.cells #[.int .i64 T, .int .i64 P] 32)).drew) := ((((Below.refl _ X).alloc (Nat.le_refl _) _).alloc (by simp) _).drew)
            have BB : Hid (Below X.heap.size X ((X.alloc (Obj.cells #[.int .i64 T, .int .i64 P] 32)).alloc (Obj.cells #[] 32)).drew) := ((((Below.refl _ X).alloc (Nat.le_refl _) _).alloc (by simp) _).drew)
            have OA1 : Hid (SlOwn pairS (X.alloc (Obj.cells #[] 32)).drew X.heap.size 32 (.slice (some ⟨X.heap.size, 0, none⟩) 0 0) []) := own_empty pairS X _
            have OA2 : Hid (SlOwn pairS ((X.alloc (Obj.cells #[] 32)).alloc (Obj.cells #[.int .i64 T, .int .i64 P] 32)).drew X.heap.size 32 (.slice (some ⟨X.heap.size, 0, none⟩) 0 0) []) := (own_empty pairS X 32).below (((Below.refl _ _).alloc (Nat.le_refl _) _).drew)
            have OB2 : Hid (SlOwn pairS ((X.alloc (Obj.cells #[.int .i64 T, .int .i64 P] 32)).alloc (Obj.cells #[] 32)).drew (X.heap.size + 1) 32 (.slice (some ⟨X.heap.size + 1, 0, none⟩) 0 0) []) := own_empty_n pairS (X.alloc (Obj.cells #[.int .i64 T, .int .i64 P] 32)) _ (by simp)
            have LA1 : Hid (SlAt pairS (X.alloc (Obj.cells #[] 32)).drew (some ⟨g9, 0, none⟩) (m.take (kk))) := (HAX.out.below BA1.out).take _
            have LA2 : Hid (SlAt pairS ((X.alloc (Obj.cells #[] 32)).alloc (Obj.cells #[.int .i64 T, .int .i64 P] 32)).drew (some ⟨g9, 0, none⟩) (m.take (kk))) := (HAX.out.below BA2.out).take _
            have LB : Hid (SlAt pairS ((X.alloc (Obj.cells #[.int .i64 T, .int .i64 P] 32)).alloc (Obj.cells #[] 32)).drew (some ⟨g9, 0, none⟩) (m.take (kk))) := (HAX.out.below BB.out).take _
            have NK : Hid (kk = (m.take (kk)).length) := by show _ = _; simp only [List.length_take]; omega
            have LE1 : Hid (([] : List (Int × Int)).length + (m.take (kk)).length ≤ 1048576) := by show _ ≤ _; simp only [List.length_take, List.length_nil]; omega
            have LE2 : Hid (([] ++ m.take (kk)).length + [(T, P)].length ≤ 1048576) := by show _ ≤ _; simp only [List.length_append, List.length_take, List.length_nil, List.length_cons]; omega
            have EA2 : Hid (((X.alloc (Obj.cells #[] 32)).alloc (Obj.cells #[.int .i64 T, .int .i64 P] 32)).drew.heap[X.heap.size + 1]? = some (Obj.cells #[.int .i64 T, .int .i64 P] 32)) := heap_new (w := X.alloc (Obj.cells #[] 32)) (by simp)
            have EB : Hid (((X.alloc (Obj.cells #[.int .i64 T, .int .i64 P] 32)).alloc (Obj.cells #[] 32)).drew.heap[X.heap.size]? = some (Obj.cells #[.int .i64 T, .int .i64 P] 32)) := (((Below.refl (X.heap.size + 1) (X.alloc (Obj.cells #[.int .i64 T, .int .i64 P] 32))).alloc (by simp) (Obj.cells #[] 32)).block X.heap.size (by omega)).trans (heap_new (w := X) rfl)
            go_region_held3 (fun w' => w'.cell? ⟨W1.heap.size, 0, none⟩ = some (.int .i64 T) ∧ w'.cell? ⟨W1.heap.size, 1, none⟩ = some (.int .i64 P))
              (first | exact ⟨c0'', c1''⟩ | exact ⟨e0', e1'⟩ | exact ⟨c0', c1'⟩ | exact ⟨D0, D1⟩ | exact ⟨F0, F1⟩ | exact ⟨G0, G1⟩ | exact ⟨J0, J1⟩ | go_keep)
              (first
                | (refine step_append_slsv pairS _ rfl _ _ 35 rfl _ 32 i0 _ 16 Try.underlying35 hi hz0 hz1 hz2 rfl (by decide) _ ([] ++ m.take (kk)) rfl HO5.out _ 1 1 [(T, P)] rfl rfl HS5.out LE2.out HZ5.out ?_; intro A7 n7 k7 w6 hn6 ho6 hb6 hg6; have HN6 := Lib.hid hn6; have HO6 : Hid (SlOwn pairS w6 X.heap.size 32 (.slice A7 n7 k7) ([] ++ m.take (kk) ++ [(T, P)])) := ho6.base HZ5'.out; have HBQ := Lib.hid (HQ5.out.trans (hb6.mono HY5.out)); have c0'' := (hb6.cell (p := ⟨W1.heap.size, 0, none⟩) (Nat.lt_of_lt_of_le hsX HZ5'.out)).trans e0'; have c1'' := (hb6.cell (p := ⟨W1.heap.size, 1, none⟩) (Nat.lt_of_lt_of_le hsX HZ5'.out)).trans e1'; clear hn6 ho6 hb6 hg6)
                | (refine step_append_slsv pairS _ rfl _ _ 35 rfl X.heap.size 32 i0 _ 16 Try.underlying35 hi hz0 hz1 hz2 rfl (by decide) (.slice (some ⟨X.heap.size, 0, none⟩) 0 0) [] rfl OA1.out _ _ _ (m.take (kk)) rfl NK.out LA1.out LE1.out (by simp) ?_; intro A5 n5 k5 w5 hn5 ho5 hb5 hg5; have c0' := (hb5.cell (p := ⟨W1.heap.size, 0, none⟩) hsX).trans D0; have c1' := (hb5.cell (p := ⟨W1.heap.size, 1, none⟩) hsX).trans D1; have e0' := alloc_some c0' (Obj.cells #[.int .i64 T, .int .i64 P] 32); have e1' := alloc_some c1' (Obj.cells #[.int .i64 T, .int .i64 P] 32); have HO5 := Lib.hid (ho5.below ((Below.refl _ _).alloc (Nat.le_refl _) (Obj.cells #[.int .i64 T, .int .i64 P] 32))); have HS5 := Lib.hid (slAt_one (a := T) (y := P) (heap_new (w := w5) (o := (Obj.cells #[.int .i64 T, .int .i64 P] 32)) rfl)); have HZ5 : Hid (X.heap.size ≤ (w5.alloc (Obj.cells #[.int .i64 T, .int .i64 P] 32)).heap.size) := Nat.le_trans (BA1.out.trans hb5).size ((Below.refl 0 w5).alloc (Nat.zero_le _) _).size; have HZ5' : Hid (X.heap.size ≤ X.heap.size) := Nat.le_refl _; have HQ5 := Lib.hid ((BA1.out.trans hb5).alloc (BA1.out.trans hb5).size (Obj.cells #[.int .i64 T, .int .i64 P] 32)); have HY5 : Hid (X.heap.size ≤ X.heap.size) := Nat.le_refl _; clear hn5 ho5 hb5 hg5)
                | (refine step_append_slsv pairS _ rfl _ _ 35 rfl X.heap.size 32 i0 _ 16 Try.underlying35 hi hz0 hz1 hz2 rfl (by decide) (.slice (some ⟨X.heap.size, 0, none⟩) 0 0) [] rfl OA2.out _ _ _ (m.take (kk)) rfl NK.out LA2.out LE1.out (by simp; omega) ?_; intro A5 n5 k5 w5 hn5 ho5 hb5 hg5; have e0' := (hb5.cell (p := ⟨W1.heap.size, 0, none⟩) hsX).trans G0; have e1' := (hb5.cell (p := ⟨W1.heap.size, 1, none⟩) hsX).trans G1; have HO5 := Lib.hid ho5; have HS5 := Lib.hid (slAt_one (a := T) (y := P) ((hg5.block (X.heap.size + 1) (Array.getElem?_eq_some_iff.1 EA2.out).1 (by simp [Value.ownBlock])).trans EA2.out)); have HZ5 : Hid (X.heap.size ≤ w5.heap.size) := (BA2.out.trans hb5).size; have HZ5' : Hid (X.heap.size ≤ X.heap.size) := Nat.le_refl _; have HQ5 := Lib.hid (BA2.out.trans hb5); have HY5 : Hid (X.heap.size ≤ X.heap.size) := Nat.le_refl _; clear hn5 ho5 hb5 hg5)
                | (refine step_append_slsv pairS _ rfl _ _ 35 rfl (X.heap.size + 1) 32 i0 _ 16 Try.underlying35 hi hz0 hz1 hz2 rfl (by decide) (.slice (some ⟨X.heap.size + 1, 0, none⟩) 0 0) [] rfl OB2.out _ _ _ (m.take (kk)) rfl NK.out LB.out LE1.out (by simp) ?_; intro A5 n5 k5 w5 hn5 ho5 hb5 hg5; have e0' := (hb5.cell (p := ⟨W1.heap.size, 0, none⟩) (Nat.lt_succ_of_lt hsX)).trans J0; have e1' := (hb5.cell (p := ⟨W1.heap.size, 1, none⟩) (Nat.lt_succ_of_lt hsX)).trans J1; have HO5 := Lib.hid ho5; have HS5 := Lib.hid (slAt_one (a := T) (y := P) ((hb5.block X.heap.size (Nat.lt_succ_self _)).trans EB.out)); have HZ5 : Hid (X.heap.size + 1 ≤ w5.heap.size) := Nat.le_trans (by simp) hb5.size; have HZ5' : Hid (X.heap.size ≤ X.heap.size + 1) := Nat.le_succ _; have HQ5 := Lib.hid (BB.out.trans (hb5.mono (Nat.le_succ _))); have HY5 : Hid (X.heap.size ≤ X.heap.size + 1) := Nat.le_succ _; clear hn5 ho5 hb5 hg5))
            all_goals (
              have HA6 : Hid (SlAt pairS w6 (some ⟨g9, 0, none⟩) m) := HAX.out.below HBQ.out
              have LE6 : Hid (([] ++ m.take (kk) ++ [(T, P)]).length + (m.drop (kk)).length ≤ 1048576) := by show _ ≤ _; simp only [List.length_append, List.length_take, List.length_drop, List.length_nil, List.length_cons]; omega
              have ND : Hid (m.length - (kk) = (m.drop (kk)).length) := by show _ = _; rw [List.length_drop]
              have HZ6 : Hid (X.heap.size ≤ w6.heap.size) := HBQ.out.size
              have HD6 : Hid (SlAt pairS w6 (some ⟨g9, (kk) * 2, none⟩) (m.drop (kk))) := by have h9 := HA6.out.drop (kk); rw [Nat.zero_add] at h9; exact h9
              by_cases hck : c6 = kk
              · have HNIL : Hid (m.drop (kk) = []) := List.drop_eq_nil_of_le (by omega)
                go_wp2_with (at_builtin; refine wpList_append_slsv pairS _ rfl _ _ 35 rfl X.heap.size 32 i0 _ 16 Try.underlying35 hi hz0 hz1 hz2 rfl (by decide) _ ([] ++ m.take (kk) ++ [(T, P)]) rfl HO6.out _ _ _ (m.drop (kk)) rfl ND.out (.inl HNIL.out) LE6.out HZ6.out ?_; intro A8 n8 k8 w7 hn7 ho7 hb7; have HO7 := Lib.hid ho7; have HB7 := Lib.hid (HBX.out.trans ((HBQ.out.trans hb7).mono h3X)); clear hn7 ho7 hb7)
                all_goals (
                  go_roundw
                  case rel =>
                    refine ⟨k + 1, A8, n8, k8, by omega, by go_num, rfl, HB13.out.trans (HB7.out.mono HS13.out), ?_⟩
                    have := HO7.out
                    rw [HNE.out HKE.out.1 HKE.out.2] at this
                    exact this.base (Nat.le_trans HS13.out h3X)
                  case measure => (simp [intOf]; omega))
              · have hck2 : decide (c6 = kk) = false := by simpa using hck
                go_wp2_with (at_builtin; refine wpList_append_slsv pairS _ rfl _ _ 35 rfl X.heap.size 32 i0 _ 16 Try.underlying35 hi hz0 hz1 hz2 rfl (by decide) _ ([] ++ m.take (kk) ++ [(T, P)]) rfl HO6.out _ _ _ (m.drop (kk)) rfl ND.out HD6.out LE6.out HZ6.out ?_; intro A8 n8 k8 w7 hn7 ho7 hb7; have HO7 := Lib.hid ho7; have HB7 := Lib.hid (HBX.out.trans ((HBQ.out.trans hb7).mono h3X)); clear hn7 ho7 hb7)
                all_goals (
                  go_roundw
                  case rel =>
                    refine ⟨k + 1, A8, n8, k8, by omega, by go_num, rfl, HB13.out.trans (HB7.out.mono HS13.out), ?_⟩
                    have := HO7.out
                    rw [HNE.out HKE.out.1 HKE.out.2] at this
                    exact this.base (Nat.le_trans HS13.out h3X)
                  case measure => (simp [intOf]; omega)))
    · obtain rfl : k = s.length := by omega
      have hn6 := own_len HO.out
      go_wp2
      go_ret
      exact ⟨_, _, _, rfl, by rw [HML.out]; exact hn6, by rw [HML.out]; exact SlOwn.base HO.out hs1, HB1.out.trans (HB11.out.mono hs1)⟩
end Go.Proofs.Ytlepdphdflpoaaa
