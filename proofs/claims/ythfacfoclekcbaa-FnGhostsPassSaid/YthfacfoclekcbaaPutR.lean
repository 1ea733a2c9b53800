/- How the model puts an ant into a list of ants. -/
import Derived.Test.YthfacfoclekcbaaStepR
import Derived.Test.YthfacfoclekcbaaGhosts
import Derived.Test.YthfacfoclekcbaaSrt
import Derived.BigQuiet
namespace Go.Proofs.Ythfacfoclekcbaa
open Go.RowKit

theorem take_drop_put {l : List (Int × Int)} {x : Int × Int} {K : Nat} (h : K = putK l x l.length) : [] ++ l.take K ++ [x] ++ l.drop K = putA l x := by
  subst h; unfold putA; simp

set_option maxRecDepth 100000 in
set_option maxHeartbeats 1000000 in
theorem roPut_any (A : Option Addr) (c : Nat) (l : List (Int × Int)) (a y : Int) (w : World) (hn : (l.length : Int) ≤ 65536) (hcap : l.length ≤ c) (hA : AntsAt w A l) :
    Calls Try.prog 61 #[.slice A l.length c, .agg #[.int .i64 a, .int .i64 y]] w fun e w' => ∃ A' n' c', e = .returned (.slice A' n' c') ∧ n' = (putA l (a, y)).length ∧ AntsOwn w' w.heap.size 42 (.slice A' n' c') (putA l (a, y)) ∧ Below w.heap.size w w' := by
  obtain ⟨i0, hi, hz0, hz1, hz2⟩ := info_parts antI
  have HA := Lib.hid (hA.alloc (Obj.cells #[Value.int IntKind.i64 a, Value.int IntKind.i64 y] 42))
  clear hA
  go_enter Try.func61, Try.ntmps61
  go_wp2
  go_loopw [5] (fun i wr => ∃ k : Nat, k ≤ l.length ∧ i = .int .i64 k ∧ putK l (a, y) k = putK l (a, y) l.length ∧ Below (w.heap.size + 1) (w.alloc (Obj.cells #[Value.int IntKind.i64 a, Value.int IntKind.i64 y] 42)) wr) (fun i _ => (intOf i).toNat)
  case atStart => exact ⟨l.length, Nat.le_refl _, rfl, rfl, Below.refl _ _⟩
  case round =>
    obtain ⟨k, hk, rfl, hp, hb⟩ := hrel
    have hs : w.heap.size < wr.heap.size := by have := hb.size; simp at this; omega
    have c0 : wr.cell? ⟨w.heap.size, 0, none⟩ = some (.int .i64 a) := by rw [hb.cell (p := ⟨w.heap.size, 0, none⟩) (by simp)]; simp
    have c1 : wr.cell? ⟨w.heap.size, 1, none⟩ = some (.int .i64 y) := by rw [hb.cell (p := ⟨w.heap.size, 1, none⟩) (by simp)]; simp
    have HB := Lib.hid hb
    have HA := Lib.hid (AntsAt.below HA.out (hb.mono (by simp)))
    clear hb
    cases k with
    | zero =>
      have HP := Lib.hid hp
      clear hp
      have hd0 : decide ((0 : Int) < 0) = false := by decide
      go_wp2
      go_quiet (fail)
      go_wp2
      cases A with
      | none =>
        have HL : Hid (l = []) := by
          rcases HA.out with h | ⟨_, _, h, _⟩
          · exact h
          · cases h
        have HKE : Hid (0 = putK l (a, y) l.length) := HP.out
        obtain ⟨X, hX⟩ : ∃ X, X = wr.drewN nq := ⟨_, rfl⟩
        have HBX : Hid (Below (w.heap.size + 1) (w.alloc (Obj.cells #[Value.int IntKind.i64 a, Value.int IntKind.i64 y] 42)) X) := by rw [hX]; exact ⟨HB.out.os, HB.out.tape, HB.out.output, HB.out.size, HB.out.block⟩
        have HAX : Hid (SlAt pairS X none l) := by rw [hX]; exact antsAt_sl HA.out
        have x0 : X.cell? ⟨w.heap.size, 0, none⟩ = some (.int .i64 a) := by rw [hX]; exact c0
        have x1 : X.cell? ⟨w.heap.size, 1, none⟩ = some (.int .i64 y) := by rw [hX]; exact c1
        have hsX : w.heap.size < X.heap.size := by rw [hX]; exact hs
        rw [← hX]
        clear hX c0 c1 hs
        have p0 : X.drew.cell? ⟨w.heap.size, 0, none⟩ = some (.int .i64 a) := x0
        have p1 : X.drew.cell? ⟨w.heap.size, 1, none⟩ = some (.int .i64 y) := x1
        have D0 : (X.alloc (Obj.cells #[] 42)).drew.cell? ⟨w.heap.size, 0, none⟩ = some (.int .i64 a) := alloc_some x0 _
        have D1 : (X.alloc (Obj.cells #[] 42)).drew.cell? ⟨w.heap.size, 1, none⟩ = some (.int .i64 y) := alloc_some x1 _
        have F0 : (X.alloc (Obj.cells #[.int .i64 a, .int .i64 y] 42)).drew.cell? ⟨w.heap.size, 0, none⟩ = some (.int .i64 a) := alloc_some x0 _
        have F1 : (X.alloc (Obj.cells #[.int .i64 a, .int .i64 y] 42)).drew.cell? ⟨w.heap.size, 1, none⟩ = some (.int .i64 y) := alloc_some x1 _
        have G0 : ((X.alloc (Obj.cells #[] 42)).alloc (Obj.cells #[.int .i64 a, .int .i64 y] 42)).drew.cell? ⟨w.heap.size, 0, none⟩ = some (.int .i64 a) := alloc_some (alloc_some x0 _) _
        have G1 : ((X.alloc (Obj.cells #[] 42)).alloc (Obj.cells #[.int .i64 a, .int .i64 y] 42)).drew.cell? ⟨w.heap.size, 1, none⟩ = some (.int .i64 y) := alloc_some (alloc_some x1 _) _
        have J0 : ((X.alloc (Obj.cells #[.int .i64 a, .int .i64 y] 42)).alloc (Obj.cells #[] 42)).drew.cell? ⟨w.heap.size, 0, none⟩ = some (.int .i64 a) := alloc_some (alloc_some x0 _) _
        have J1 : ((X.alloc (Obj.cells #[.int .i64 a, .int .i64 y] 42)).alloc (Obj.cells #[] 42)).drew.cell? ⟨w.heap.size, 1, none⟩ = some (.int .i64 y) := alloc_some (alloc_some x1 _) _
        have BA1 : Hid (Below X.heap.size X (X.alloc (Obj.cells #[] 42)).drew) := (((Below.refl _ X).alloc (Nat.le_refl _) _).drew)
        have BA2 : Hid (Below X.heap.size X ((X.alloc (Obj.cells #[] 42)).alloc (Obj.cells #[.int .i64 a, .int .i64 y] 42)).drew) := ((((Below.refl _ X).alloc (Nat.le_refl _) _).alloc (by simp) _).drew)
        have BB : Hid (Below X.heap.size X ((X.alloc (Obj.cells #[.int .i64 a, .int .i64 y] 42)).alloc (Obj.cells #[] 42)).drew) := ((((Below.refl _ X).alloc (Nat.le_refl _) _).alloc (by simp) _).drew)
        have OA1 : Hid (SlOwn pairS (X.alloc (Obj.cells #[] 42)).drew X.heap.size 42 (.slice (some ⟨X.heap.size, 0, none⟩) 0 0) []) := own_empty pairS X _
        have OA2 : Hid (SlOwn pairS ((X.alloc (Obj.cells #[] 42)).alloc (Obj.cells #[.int .i64 a, .int .i64 y] 42)).drew X.heap.size 42 (.slice (some ⟨X.heap.size, 0, none⟩) 0 0) []) := (own_empty pairS X 42).below (((Below.refl _ _).alloc (Nat.le_refl _) _).drew)
        have OB : Hid (SlOwn pairS ((X.alloc (Obj.cells #[.int .i64 a, .int .i64 y] 42)).alloc (Obj.cells #[] 42)).drew (X.heap.size + 1) 42 (.slice (some ⟨X.heap.size + 1, 0, none⟩) 0 0) []) := own_empty_n pairS (X.alloc (Obj.cells #[.int .i64 a, .int .i64 y] 42)) _ (by simp)
        have LA1 : Hid (SlAt pairS (X.alloc (Obj.cells #[] 42)).drew none (l.take (0))) := (HAX.out.below BA1.out).take _
        have LA2 : Hid (SlAt pairS ((X.alloc (Obj.cells #[] 42)).alloc (Obj.cells #[.int .i64 a, .int .i64 y] 42)).drew none (l.take (0))) := (HAX.out.below BA2.out).take _
        have LB : Hid (SlAt pairS ((X.alloc (Obj.cells #[.int .i64 a, .int .i64 y] 42)).alloc (Obj.cells #[] 42)).drew none (l.take (0))) := (HAX.out.below BB.out).take _
        have NK : Hid (0 = (l.take (0)).length) := by show _ = _; simp only [List.length_take]; omega
        have LE1 : Hid (([] : List (Int × Int)).length + (l.take (0)).length ≤ 1048576) := by show _ ≤ _; simp only [List.length_take, List.length_nil]; omega
        have LE2 : Hid (([] ++ l.take (0)).length + [(a, y)].length ≤ 1048576) := by show _ ≤ _; simp only [List.length_append, List.length_take, List.length_nil, List.length_cons]; omega
        have EA2 : Hid (((X.alloc (Obj.cells #[] 42)).alloc (Obj.cells #[.int .i64 a, .int .i64 y] 42)).drew.heap[X.heap.size + 1]? = some (Obj.cells #[.int .i64 a, .int .i64 y] 42)) := heap_new (w := X.alloc (Obj.cells #[] 42)) (by simp)
        have EB : Hid (((X.alloc (Obj.cells #[.int .i64 a, .int .i64 y] 42)).alloc (Obj.cells #[] 42)).drew.heap[X.heap.size]? = some (Obj.cells #[.int .i64 a, .int .i64 y] 42)) := (((Below.refl (X.heap.size + 1) (X.alloc (Obj.cells #[.int .i64 a, .int .i64 y] 42))).alloc (by simp) (Obj.cells #[] 42)).block X.heap.size (by omega)).trans (heap_new (w := X) rfl)
        go_region_held3 (fun w' => w'.cell? ⟨w.heap.size, 0, none⟩ = some (.int .i64 a) ∧ w'.cell? ⟨w.heap.size, 1, none⟩ = some (.int .i64 y))
          (first | exact ⟨c0'', c1''⟩ | exact ⟨e0', e1'⟩ | exact ⟨c0', c1'⟩ | exact ⟨D0, D1⟩ | exact ⟨F0, F1⟩ | exact ⟨G0, G1⟩ | exact ⟨J0, J1⟩ | go_keep)
          (first
            | (refine step_append_slsv pairS _ rfl _ _ 24 rfl _ 42 i0 _ 16 Try.underlying24 hi hz0 hz1 hz2 rfl (by decide) _ ([] ++ l.take (0)) rfl HO5.out _ 1 1 [(a, y)] rfl rfl HS5.out LE2.out HZ5.out ?_; intro A6 n6 k6 w6 hn6 ho6 hb6 hg6; have HN6 := Lib.hid hn6; have HO6 : Hid (SlOwn pairS w6 (w.heap.size + 1) 42 (.slice A6 n6 k6) ([] ++ l.take (0) ++ [(a, y)])) := ho6.base HZ5'.out; have HB6 := Lib.hid (HB5.out.trans (hb6.mono HZ5'.out)); have HBQ := Lib.hid (HQ5.out.trans (hb6.mono HY5.out)); have c0'' := (hb6.cell (p := ⟨w.heap.size, 0, none⟩) HZ5'.out).trans e0'; have c1'' := (hb6.cell (p := ⟨w.heap.size, 1, none⟩) HZ5'.out).trans e1'; clear hn6 ho6 hb6 hg6)
            | (refine step_append_slsv pairS _ rfl _ _ 24 rfl X.heap.size 42 i0 _ 16 Try.underlying24 hi hz0 hz1 hz2 rfl (by decide) (.slice (some ⟨X.heap.size, 0, none⟩) 0 0) [] rfl OA1.out _ _ _ (l.take (0)) rfl NK.out LA1.out LE1.out (by simp) ?_; intro A5 n5 k5 w5 hn5 ho5 hb5 hg5; have c0' := (hb5.cell (p := ⟨w.heap.size, 0, none⟩) hsX).trans D0; have c1' := (hb5.cell (p := ⟨w.heap.size, 1, none⟩) hsX).trans D1; have e0' := alloc_some c0' (Obj.cells #[.int .i64 a, .int .i64 y] 42); have e1' := alloc_some c1' (Obj.cells #[.int .i64 a, .int .i64 y] 42); have HO5 := Lib.hid (ho5.below ((Below.refl _ _).alloc (Nat.le_refl _) (Obj.cells #[.int .i64 a, .int .i64 y] 42))); have HS5 := Lib.hid (slAt_one (heap_new (w := w5) (o := Obj.cells #[.int .i64 a, .int .i64 y] 42) rfl)); have HB5 := Lib.hid ((HBX.out.trans ((BA1.out.trans hb5).mono hsX)).alloc (Nat.le_trans hsX (BA1.out.trans hb5).size) (Obj.cells #[.int .i64 a, .int .i64 y] 42)); have HZ5 : Hid (X.heap.size ≤ (w5.alloc (Obj.cells #[.int .i64 a, .int .i64 y] 42)).heap.size) := Nat.le_trans (BA1.out.trans hb5).size ((Below.refl 0 w5).alloc (Nat.zero_le _) _).size; have HZ5' : Hid (w.heap.size + 1 ≤ X.heap.size) := hsX; have HQ5 := Lib.hid ((BA1.out.trans hb5).alloc (BA1.out.trans hb5).size (Obj.cells #[.int .i64 a, .int .i64 y] 42)); have HY5 : Hid (X.heap.size ≤ X.heap.size) := Nat.le_refl _; clear hn5 ho5 hb5 hg5)
            | (refine step_append_slsv pairS _ rfl _ _ 24 rfl X.heap.size 42 i0 _ 16 Try.underlying24 hi hz0 hz1 hz2 rfl (by decide) (.slice (some ⟨X.heap.size, 0, none⟩) 0 0) [] rfl OA2.out _ _ _ (l.take (0)) rfl NK.out LA2.out LE1.out (by simp; omega) ?_; intro A5 n5 k5 w5 hn5 ho5 hb5 hg5; have e0' := (hb5.cell (p := ⟨w.heap.size, 0, none⟩) hsX).trans G0; have e1' := (hb5.cell (p := ⟨w.heap.size, 1, none⟩) hsX).trans G1; have HO5 := Lib.hid ho5; have HS5 := Lib.hid (slAt_one ((hg5.block (X.heap.size + 1) (Array.getElem?_eq_some_iff.1 EA2.out).1 (by simp [Value.ownBlock])).trans EA2.out)); have HB5 := Lib.hid (HBX.out.trans ((BA2.out.trans hb5).mono hsX)); have HZ5 : Hid (X.heap.size ≤ w5.heap.size) := (BA2.out.trans hb5).size; have HZ5' : Hid (w.heap.size + 1 ≤ X.heap.size) := hsX; have HQ5 := Lib.hid (BA2.out.trans hb5); have HY5 : Hid (X.heap.size ≤ X.heap.size) := Nat.le_refl _; clear hn5 ho5 hb5 hg5)
            | (refine step_append_slsv pairS _ rfl _ _ 24 rfl (X.heap.size + 1) 42 i0 _ 16 Try.underlying24 hi hz0 hz1 hz2 rfl (by decide) (.slice (some ⟨X.heap.size + 1, 0, none⟩) 0 0) [] rfl OB.out _ _ _ (l.take (0)) rfl NK.out LB.out LE1.out (by simp) ?_; intro A5 n5 k5 w5 hn5 ho5 hb5 hg5; have e0' := (hb5.cell (p := ⟨w.heap.size, 0, none⟩) (Nat.lt_succ_of_lt hsX)).trans J0; have e1' := (hb5.cell (p := ⟨w.heap.size, 1, none⟩) (Nat.lt_succ_of_lt hsX)).trans J1; have HO5 := Lib.hid ho5; have HS5 := Lib.hid (slAt_one ((hb5.block X.heap.size (Nat.lt_succ_self _)).trans EB.out)); have HB5 := Lib.hid (HBX.out.trans ((BB.out.trans (hb5.mono (Nat.le_succ _))).mono hsX)); have HZ5 : Hid (X.heap.size + 1 ≤ w5.heap.size) := Nat.le_trans (by simp) hb5.size; have HZ5' : Hid (w.heap.size + 1 ≤ X.heap.size + 1) := Nat.le_succ_of_le hsX; have HQ5 := Lib.hid (BB.out.trans (hb5.mono (Nat.le_succ _))); have HY5 : Hid (X.heap.size ≤ X.heap.size + 1) := Nat.le_succ _; clear hn5 ho5 hb5 hg5))
        all_goals (
          have HA6 : Hid (SlAt pairS w6 none l) := HAX.out.below HBQ.out
          have LE6 : Hid (([] ++ l.take (0) ++ [(a, y)]).length + (l.drop (0)).length ≤ 1048576) := by show _ ≤ _; simp only [List.length_append, List.length_take, List.length_drop, List.length_nil, List.length_cons]; omega
          have ND : Hid (l.length - (0) = (l.drop (0)).length) := by show _ = _; rw [List.length_drop]
          have HZ6 : Hid (w.heap.size + 1 ≤ w6.heap.size) := Nat.le_trans hsX HBQ.out.size
          go_wp2_with (at_builtin; refine wpList_append_slsv pairS _ rfl _ _ 24 rfl (w.heap.size + 1) 42 i0 _ 16 Try.underlying24 hi hz0 hz1 hz2 rfl (by decide) _ ([] ++ l.take (0) ++ [(a, y)]) rfl HO6.out _ _ _ (l.drop (0)) rfl ND.out (.inl (by rw [HL.out]; rfl)) LE6.out HZ6.out ?_; intro A7 n7 k7 w7 hn7 ho7 hb7; have HN7 := Lib.hid hn7; have HO7 := Lib.hid ho7; have HB7 := Lib.hid (HB6.out.trans hb7); clear hn7 ho7 hb7)
          all_goals (
            go_ret
            refine ⟨A7, n7, k7, rfl, ?_, ?_, ?_⟩
            · rw [HN7.out, take_drop_put HKE.out]
            · have := HO7.out
              rw [take_drop_put HKE.out] at this
              exact this.base (Nat.le_succ _)
            · exact ((Below.refl _ _).alloc (Nat.le_refl _) _).trans (HB7.out.mono (Nat.le_succ _))))
      | some ad =>
        obtain ⟨b, off, sp⟩ := ad
        by_cases hl : l = []
        · have HL := Lib.hid hl
          clear hl
          have HKE : Hid (0 = putK l (a, y) l.length) := HP.out
          obtain ⟨X, hX⟩ : ∃ X, X = wr.drewN nq := ⟨_, rfl⟩
          have HBX : Hid (Below (w.heap.size + 1) (w.alloc (Obj.cells #[Value.int IntKind.i64 a, Value.int IntKind.i64 y] 42)) X) := by rw [hX]; exact ⟨HB.out.os, HB.out.tape, HB.out.output, HB.out.size, HB.out.block⟩
          have HAX : Hid (SlAt pairS X (some ⟨b, off, sp⟩) l) := by rw [hX]; exact antsAt_sl HA.out
          have x0 : X.cell? ⟨w.heap.size, 0, none⟩ = some (.int .i64 a) := by rw [hX]; exact c0
          have x1 : X.cell? ⟨w.heap.size, 1, none⟩ = some (.int .i64 y) := by rw [hX]; exact c1
          have hsX : w.heap.size < X.heap.size := by rw [hX]; exact hs
          rw [← hX]
          clear hX c0 c1 hs
          have p0 : X.drew.cell? ⟨w.heap.size, 0, none⟩ = some (.int .i64 a) := x0
          have p1 : X.drew.cell? ⟨w.heap.size, 1, none⟩ = some (.int .i64 y) := x1
          have D0 : (X.alloc (Obj.cells #[] 42)).drew.cell? ⟨w.heap.size, 0, none⟩ = some (.int .i64 a) := alloc_some x0 _
          have D1 : (X.alloc (Obj.cells #[] 42)).drew.cell? ⟨w.heap.size, 1, none⟩ = some (.int .i64 y) := alloc_some x1 _
          have F0 : (X.alloc (Obj.cells #[.int .i64 a, .int .i64 y] 42)).drew.cell? ⟨w.heap.size, 0, none⟩ = some (.int .i64 a) := alloc_some x0 _
          have F1 : (X.alloc (Obj.cells #[.int .i64 a, .int .i64 y] 42)).drew.cell? ⟨w.heap.size, 1, none⟩ = some (.int .i64 y) := alloc_some x1 _
          have G0 : ((X.alloc (Obj.cells #[] 42)).alloc (Obj.cells #[.int .i64 a, .int .i64 y] 42)).drew.cell? ⟨w.heap.size, 0, none⟩ = some (.int .i64 a) := alloc_some (alloc_some x0 _) _
          have G1 : ((X.alloc (Obj.cells #[] 42)).alloc (Obj.cells #[.int .i64 a, .int .i64 y] 42)).drew.cell? ⟨w.heap.size, 1, none⟩ = some (.int .i64 y) := alloc_some (alloc_some x1 _) _
          have J0 : ((X.alloc (Obj.cells #[.int .i64 a, .int .i64 y] 42)).alloc (Obj.cells #[] 42)).drew.cell? ⟨w.heap.size, 0, none⟩ = some (.int .i64 a) := alloc_some (alloc_some x0 _) _
          have J1 : ((X.alloc (Obj.cells #[.int .i64 a, .int .i64 y] 42)).alloc (Obj.cells #[] 42)).drew.cell? ⟨w.heap.size, 1, none⟩ = some (.int .i64 y) := alloc_some (alloc_some x1 _) _
          have BA1 : Hid (Below X.heap.size X (X.alloc (Obj.cells #[] 42)).drew) := (((Below.refl _ X).alloc (Nat.le_refl _) _).drew)
          have BA2 : Hid (Below X.heap.size X ((X.alloc (Obj.cells #[] 42)).alloc (Obj.cells #[.int .i64 a, .int .i64 y] 42)).drew) := ((((Below.refl _ X).alloc (Nat.le_refl _) _).alloc (by simp) _).drew)
          have BB : Hid (Below X.heap.size X ((X.alloc (Obj.cells #[.int .i64 a, .int .i64 y] 42)).alloc (Obj.cells #[] 42)).drew) := ((((Below.refl _ X).alloc (Nat.le_refl _) _).alloc (by simp) _).drew)
          have OA1 : Hid (SlOwn pairS (X.alloc (Obj.cells #[] 42)).drew X.heap.size 42 (.slice (some ⟨X.heap.size, 0, none⟩) 0 0) []) := own_empty pairS X _
          have OA2 : Hid (SlOwn pairS ((X.alloc (Obj.cells #[] 42)).alloc (Obj.cells #[.int .i64 a, .int .i64 y] 42)).drew X.heap.size 42 (.slice (some ⟨X.heap.size, 0, none⟩) 0 0) []) := (own_empty pairS X 42).below (((Below.refl _ _).alloc (Nat.le_refl _) _).drew)
          have OB : Hid (SlOwn pairS ((X.alloc (Obj.cells #[.int .i64 a, .int .i64 y] 42)).alloc (Obj.cells #[] 42)).drew (X.heap.size + 1) 42 (.slice (some ⟨X.heap.size + 1, 0, none⟩) 0 0) []) := own_empty_n pairS (X.alloc (Obj.cells #[.int .i64 a, .int .i64 y] 42)) _ (by simp)
          have LA1 : Hid (SlAt pairS (X.alloc (Obj.cells #[] 42)).drew (some ⟨b, off, sp⟩) (l.take (0))) := (HAX.out.below BA1.out).take _
          have LA2 : Hid (SlAt pairS ((X.alloc (Obj.cells #[] 42)).alloc (Obj.cells #[.int .i64 a, .int .i64 y] 42)).drew (some ⟨b, off, sp⟩) (l.take (0))) := (HAX.out.below BA2.out).take _
          have LB : Hid (SlAt pairS ((X.alloc (Obj.cells #[.int .i64 a, .int .i64 y] 42)).alloc (Obj.cells #[] 42)).drew (some ⟨b, off, sp⟩) (l.take (0))) := (HAX.out.below BB.out).take _
          have NK : Hid (0 = (l.take (0)).length) := by show _ = _; simp only [List.length_take]; omega
          have LE1 : Hid (([] : List (Int × Int)).length + (l.take (0)).length ≤ 1048576) := by show _ ≤ _; simp only [List.length_take, List.length_nil]; omega
          have LE2 : Hid (([] ++ l.take (0)).length + [(a, y)].length ≤ 1048576) := by show _ ≤ _; simp only [List.length_append, List.length_take, List.length_nil, List.length_cons]; omega
          have EA2 : Hid (((X.alloc (Obj.cells #[] 42)).alloc (Obj.cells #[.int .i64 a, .int .i64 y] 42)).drew.heap[X.heap.size + 1]? = some (Obj.cells #[.int .i64 a, .int .i64 y] 42)) := heap_new (w := X.alloc (Obj.cells #[] 42)) (by simp)
          have EB : Hid (((X.alloc (Obj.cells #[.int .i64 a, .int .i64 y] 42)).alloc (Obj.cells #[] 42)).drew.heap[X.heap.size]? = some (Obj.cells #[.int .i64 a, .int .i64 y] 42)) := (((Below.refl (X.heap.size + 1) (X.alloc (Obj.cells #[.int .i64 a, .int .i64 y] 42))).alloc (by simp) (Obj.cells #[] 42)).block X.heap.size (by omega)).trans (heap_new (w := X) rfl)
          go_region_held3 (fun w' => w'.cell? ⟨w.heap.size, 0, none⟩ = some (.int .i64 a) ∧ w'.cell? ⟨w.heap.size, 1, none⟩ = some (.int .i64 y))
            (first | exact ⟨c0'', c1''⟩ | exact ⟨e0', e1'⟩ | exact ⟨c0', c1'⟩ | exact ⟨D0, D1⟩ | exact ⟨F0, F1⟩ | exact ⟨G0, G1⟩ | exact ⟨J0, J1⟩ | go_keep)
            (first
              | (refine step_append_slsv pairS _ rfl _ _ 24 rfl _ 42 i0 _ 16 Try.underlying24 hi hz0 hz1 hz2 rfl (by decide) _ ([] ++ l.take (0)) rfl HO5.out _ 1 1 [(a, y)] rfl rfl HS5.out LE2.out HZ5.out ?_; intro A6 n6 k6 w6 hn6 ho6 hb6 hg6; have HN6 := Lib.hid hn6; have HO6 : Hid (SlOwn pairS w6 (w.heap.size + 1) 42 (.slice A6 n6 k6) ([] ++ l.take (0) ++ [(a, y)])) := ho6.base HZ5'.out; have HB6 := Lib.hid (HB5.out.trans (hb6.mono HZ5'.out)); have HBQ := Lib.hid (HQ5.out.trans (hb6.mono HY5.out)); have c0'' := (hb6.cell (p := ⟨w.heap.size, 0, none⟩) HZ5'.out).trans e0'; have c1'' := (hb6.cell (p := ⟨w.heap.size, 1, none⟩) HZ5'.out).trans e1'; clear hn6 ho6 hb6 hg6)
              | (refine step_append_slsv pairS _ rfl _ _ 24 rfl X.heap.size 42 i0 _ 16 Try.underlying24 hi hz0 hz1 hz2 rfl (by decide) (.slice (some ⟨X.heap.size, 0, none⟩) 0 0) [] rfl OA1.out _ _ _ (l.take (0)) rfl NK.out LA1.out LE1.out (by simp) ?_; intro A5 n5 k5 w5 hn5 ho5 hb5 hg5; have c0' := (hb5.cell (p := ⟨w.heap.size, 0, none⟩) hsX).trans D0; have c1' := (hb5.cell (p := ⟨w.heap.size, 1, none⟩) hsX).trans D1; have e0' := alloc_some c0' (Obj.cells #[.int .i64 a, .int .i64 y] 42); have e1' := alloc_some c1' (Obj.cells #[.int .i64 a, .int .i64 y] 42); have HO5 := Lib.hid (ho5.below ((Below.refl _ _).alloc (Nat.le_refl _) (Obj.cells #[.int .i64 a, .int .i64 y] 42))); have HS5 := Lib.hid (slAt_one (heap_new (w := w5) (o := Obj.cells #[.int .i64 a, .int .i64 y] 42) rfl)); have HB5 := Lib.hid ((HBX.out.trans ((BA1.out.trans hb5).mono hsX)).alloc (Nat.le_trans hsX (BA1.out.trans hb5).size) (Obj.cells #[.int .i64 a, .int .i64 y] 42)); have HZ5 : Hid (X.heap.size ≤ (w5.alloc (Obj.cells #[.int .i64 a, .int .i64 y] 42)).heap.size) := Nat.le_trans (BA1.out.trans hb5).size ((Below.refl 0 w5).alloc (Nat.zero_le _) _).size; have HZ5' : Hid (w.heap.size + 1 ≤ X.heap.size) := hsX; have HQ5 := Lib.hid ((BA1.out.trans hb5).alloc (BA1.out.trans hb5).size (Obj.cells #[.int .i64 a, .int .i64 y] 42)); have HY5 : Hid (X.heap.size ≤ X.heap.size) := Nat.le_refl _; clear hn5 ho5 hb5 hg5)
              | (refine step_append_slsv pairS _ rfl _ _ 24 rfl X.heap.size 42 i0 _ 16 Try.underlying24 hi hz0 hz1 hz2 rfl (by decide) (.slice (some ⟨X.heap.size, 0, none⟩) 0 0) [] rfl OA2.out _ _ _ (l.take (0)) rfl NK.out LA2.out LE1.out (by simp; omega) ?_; intro A5 n5 k5 w5 hn5 ho5 hb5 hg5; have e0' := (hb5.cell (p := ⟨w.heap.size, 0, none⟩) hsX).trans G0; have e1' := (hb5.cell (p := ⟨w.heap.size, 1, none⟩) hsX).trans G1; have HO5 := Lib.hid ho5; have HS5 := Lib.hid (slAt_one ((hg5.block (X.heap.size + 1) (Array.getElem?_eq_some_iff.1 EA2.out).1 (by simp [Value.ownBlock])).trans EA2.out)); have HB5 := Lib.hid (HBX.out.trans ((BA2.out.trans hb5).mono hsX)); have HZ5 : Hid (X.heap.size ≤ w5.heap.size) := (BA2.out.trans hb5).size; have HZ5' : Hid (w.heap.size + 1 ≤ X.heap.size) := hsX; have HQ5 := Lib.hid (BA2.out.trans hb5); have HY5 : Hid (X.heap.size ≤ X.heap.size) := Nat.le_refl _; clear hn5 ho5 hb5 hg5)
              | (refine step_append_slsv pairS _ rfl _ _ 24 rfl (X.heap.size + 1) 42 i0 _ 16 Try.underlying24 hi hz0 hz1 hz2 rfl (by decide) (.slice (some ⟨X.heap.size + 1, 0, none⟩) 0 0) [] rfl OB.out _ _ _ (l.take (0)) rfl NK.out LB.out LE1.out (by simp) ?_; intro A5 n5 k5 w5 hn5 ho5 hb5 hg5; have e0' := (hb5.cell (p := ⟨w.heap.size, 0, none⟩) (Nat.lt_succ_of_lt hsX)).trans J0; have e1' := (hb5.cell (p := ⟨w.heap.size, 1, none⟩) (Nat.lt_succ_of_lt hsX)).trans J1; have HO5 := Lib.hid ho5; have HS5 := Lib.hid (slAt_one ((hb5.block X.heap.size (Nat.lt_succ_self _)).trans EB.out)); have HB5 := Lib.hid (HBX.out.trans ((BB.out.trans (hb5.mono (Nat.le_succ _))).mono hsX)); have HZ5 : Hid (X.heap.size + 1 ≤ w5.heap.size) := Nat.le_trans (by simp) hb5.size; have HZ5' : Hid (w.heap.size + 1 ≤ X.heap.size + 1) := Nat.le_succ_of_le hsX; have HQ5 := Lib.hid (BB.out.trans (hb5.mono (Nat.le_succ _))); have HY5 : Hid (X.heap.size ≤ X.heap.size + 1) := Nat.le_succ _; clear hn5 ho5 hb5 hg5))
          all_goals (
            have HA6 : Hid (SlAt pairS w6 (some ⟨b, off, sp⟩) l) := HAX.out.below HBQ.out
            have LE6 : Hid (([] ++ l.take (0) ++ [(a, y)]).length + (l.drop (0)).length ≤ 1048576) := by show _ ≤ _; simp only [List.length_append, List.length_take, List.length_drop, List.length_nil, List.length_cons]; omega
            have ND : Hid (l.length - (0) = (l.drop (0)).length) := by show _ = _; rw [List.length_drop]
            have HZ6 : Hid (w.heap.size + 1 ≤ w6.heap.size) := Nat.le_trans hsX HBQ.out.size
            go_wp2_with (at_builtin; refine wpList_append_slsv pairS _ rfl _ _ 24 rfl (w.heap.size + 1) 42 i0 _ 16 Try.underlying24 hi hz0 hz1 hz2 rfl (by decide) _ ([] ++ l.take (0) ++ [(a, y)]) rfl HO6.out _ _ _ (l.drop (0)) rfl ND.out (.inl (by rw [HL.out]; rfl)) LE6.out HZ6.out ?_; intro A7 n7 k7 w7 hn7 ho7 hb7; have HN7 := Lib.hid hn7; have HO7 := Lib.hid ho7; have HB7 := Lib.hid (HB6.out.trans hb7); clear hn7 ho7 hb7)
            all_goals (
              go_ret
              refine ⟨A7, n7, k7, rfl, ?_, ?_, ?_⟩
              · rw [HN7.out, take_drop_put HKE.out]
              · have := HO7.out
                rw [take_drop_put HKE.out] at this
                exact this.base (Nat.le_succ _)
              · exact ((Below.refl _ _).alloc (Nat.le_refl _) _).trans (HB7.out.mono (Nat.le_succ _))))
        · obtain rfl : sp = none := by
            rcases HA.out with h | ⟨_, _, h, _⟩
            · exact absurd h hl
            · injection h with h; injection h
          clear hl
          have HKE : Hid (0 = putK l (a, y) l.length) := HP.out
          obtain ⟨X, hX⟩ : ∃ X, X = wr.drewN nq := ⟨_, rfl⟩
          have HBX : Hid (Below (w.heap.size + 1) (w.alloc (Obj.cells #[Value.int IntKind.i64 a, Value.int IntKind.i64 y] 42)) X) := by rw [hX]; exact ⟨HB.out.os, HB.out.tape, HB.out.output, HB.out.size, HB.out.block⟩
          have HAX : Hid (SlAt pairS X (some ⟨b, off, none⟩) l) := by rw [hX]; exact antsAt_sl HA.out
          have x0 : X.cell? ⟨w.heap.size, 0, none⟩ = some (.int .i64 a) := by rw [hX]; exact c0
          have x1 : X.cell? ⟨w.heap.size, 1, none⟩ = some (.int .i64 y) := by rw [hX]; exact c1
          have hsX : w.heap.size < X.heap.size := by rw [hX]; exact hs
          rw [← hX]
          clear hX c0 c1 hs
          have p0 : X.drew.cell? ⟨w.heap.size, 0, none⟩ = some (.int .i64 a) := x0
          have p1 : X.drew.cell? ⟨w.heap.size, 1, none⟩ = some (.int .i64 y) := x1
          have D0 : (X.alloc (Obj.cells #[] 42)).drew.cell? ⟨w.heap.size, 0, none⟩ = some (.int .i64 a) := alloc_some x0 _
          have D1 : (X.alloc (Obj.cells #[] 42)).drew.cell? ⟨w.heap.size, 1, none⟩ = some (.int .i64 y) := alloc_some x1 _
          have F0 : (X.alloc (Obj.cells #[.int .i64 a, .int .i64 y] 42)).drew.cell? ⟨w.heap.size, 0, none⟩ = some (.int .i64 a) := alloc_some x0 _
          have F1 : (X.alloc (Obj.cells #[.int .i64 a, .int .i64 y] 42)).drew.cell? ⟨w.heap.size, 1, none⟩ = some (.int .i64 y) := alloc_some x1 _
          have G0 : ((X.alloc (Obj.cells #[] 42)).alloc (Obj.cells #[.int .i64 a, .int .i64 y] 42)).drew.cell? ⟨w.heap.size, 0, none⟩ = some (.int .i64 a) := alloc_some (alloc_some x0 _) _
          have G1 : ((X.alloc (Obj.cells #[] 42)).alloc (Obj.cells #[.int .i64 a, .int .i64 y] 42)).drew.cell? ⟨w.heap.size, 1, none⟩ = some (.int .i64 y) := alloc_some (alloc_some x1 _) _
          have J0 : ((X.alloc (Obj.cells #[.int .i64 a, .int .i64 y] 42)).alloc (Obj.cells #[] 42)).drew.cell? ⟨w.heap.size, 0, none⟩ = some (.int .i64 a) := alloc_some (alloc_some x0 _) _
          have J1 : ((X.alloc (Obj.cells #[.int .i64 a, .int .i64 y] 42)).alloc (Obj.cells #[] 42)).drew.cell? ⟨w.heap.size, 1, none⟩ = some (.int .i64 y) := alloc_some (alloc_some x1 _) _
          have BA1 : Hid (Below X.heap.size X (X.alloc (Obj.cells #[] 42)).drew) := (((Below.refl _ X).alloc (Nat.le_refl _) _).drew)
          have BA2 : Hid (Below X.heap.size X ((X.alloc (Obj.cells #[] 42)).alloc (Obj.cells #[.int .i64 a, .int .i64 y] 42)).drew) := ((((Below.refl _ X).alloc (Nat.le_refl _) _).alloc (by simp) _).drew)
          have BB : Hid (Below X.heap.size X ((X.alloc (Obj.cells #[.int .i64 a, .int .i64 y] 42)).alloc (Obj.cells #[] 42)).drew) := ((((Below.refl _ X).alloc (Nat.le_refl _) _).alloc (by simp) _).drew)
          have OA1 : Hid (SlOwn pairS (X.alloc (Obj.cells #[] 42)).drew X.heap.size 42 (.slice (some ⟨X.heap.size, 0, none⟩) 0 0) []) := own_empty pairS X _
          have OA2 : Hid (SlOwn pairS ((X.alloc (Obj.cells #[] 42)).alloc (Obj.cells #[.int .i64 a, .int .i64 y] 42)).drew X.heap.size 42 (.slice (some ⟨X.heap.size, 0, none⟩) 0 0) []) := (own_empty pairS X 42).below (((Below.refl _ _).alloc (Nat.le_refl _) _).drew)
          have OB : Hid (SlOwn pairS ((X.alloc (Obj.cells #[.int .i64 a, .int .i64 y] 42)).alloc (Obj.cells #[] 42)).drew (X.heap.size + 1) 42 (.slice (some ⟨X.heap.size + 1, 0, none⟩) 0 0) []) := own_empty_n pairS (X.alloc (Obj.cells #[.int .i64 a, .int .i64 y] 42)) _ (by simp)
          have LA1 : Hid (SlAt pairS (X.alloc (Obj.cells #[] 42)).drew (some ⟨b, off, none⟩) (l.take (0))) := (HAX.out.below BA1.out).take _
          have LA2 : Hid (SlAt pairS ((X.alloc (Obj.cells #[] 42)).alloc (Obj.cells #[.int .i64 a, .int .i64 y] 42)).drew (some ⟨b, off, none⟩) (l.take (0))) := (HAX.out.below BA2.out).take _
          have LB : Hid (SlAt pairS ((X.alloc (Obj.cells #[.int .i64 a, .int .i64 y] 42)).alloc (Obj.cells #[] 42)).drew (some ⟨b, off, none⟩) (l.take (0))) := (HAX.out.below BB.out).take _
          have NK : Hid (0 = (l.take (0)).length) := by show _ = _; simp only [List.length_take]; omega
          have LE1 : Hid (([] : List (Int × Int)).length + (l.take (0)).length ≤ 1048576) := by show _ ≤ _; simp only [List.length_take, List.length_nil]; omega
          have LE2 : Hid (([] ++ l.take (0)).length + [(a, y)].length ≤ 1048576) := by show _ ≤ _; simp only [List.length_append, List.length_take, List.length_nil, List.length_cons]; omega
          have EA2 : Hid (((X.alloc (Obj.cells #[] 42)).alloc (Obj.cells #[.int .i64 a, .int .i64 y] 42)).drew.heap[X.heap.size + 1]? = some (Obj.cells #[.int .i64 a, .int .i64 y] 42)) := heap_new (w := X.alloc (Obj.cells #[] 42)) (by simp)
          have EB : Hid (((X.alloc (Obj.cells #[.int .i64 a, .int .i64 y] 42)).alloc (Obj.cells #[] 42)).drew.heap[X.heap.size]? = some (Obj.cells #[.int .i64 a, .int .i64 y] 42)) := (((Below.refl (X.heap.size + 1) (X.alloc (Obj.cells #[.int .i64 a, .int .i64 y] 42))).alloc (by simp) (Obj.cells #[] 42)).block X.heap.size (by omega)).trans (heap_new (w := X) rfl)
          go_region_held3 (fun w' => w'.cell? ⟨w.heap.size, 0, none⟩ = some (.int .i64 a) ∧ w'.cell? ⟨w.heap.size, 1, none⟩ = some (.int .i64 y))
            (first | exact ⟨c0'', c1''⟩ | exact ⟨e0', e1'⟩ | exact ⟨c0', c1'⟩ | exact ⟨D0, D1⟩ | exact ⟨F0, F1⟩ | exact ⟨G0, G1⟩ | exact ⟨J0, J1⟩ | go_keep)
            (first
              | (refine step_append_slsv pairS _ rfl _ _ 24 rfl _ 42 i0 _ 16 Try.underlying24 hi hz0 hz1 hz2 rfl (by decide) _ ([] ++ l.take (0)) rfl HO5.out _ 1 1 [(a, y)] rfl rfl HS5.out LE2.out HZ5.out ?_; intro A6 n6 k6 w6 hn6 ho6 hb6 hg6; have HN6 := Lib.hid hn6; have HO6 : Hid (SlOwn pairS w6 (w.heap.size + 1) 42 (.slice A6 n6 k6) ([] ++ l.take (0) ++ [(a, y)])) := ho6.base HZ5'.out; have HB6 := Lib.hid (HB5.out.trans (hb6.mono HZ5'.out)); have HBQ := Lib.hid (HQ5.out.trans (hb6.mono HY5.out)); have c0'' := (hb6.cell (p := ⟨w.heap.size, 0, none⟩) HZ5'.out).trans e0'; have c1'' := (hb6.cell (p := ⟨w.heap.size, 1, none⟩) HZ5'.out).trans e1'; clear hn6 ho6 hb6 hg6)
              | (refine step_append_slsv pairS _ rfl _ _ 24 rfl X.heap.size 42 i0 _ 16 Try.underlying24 hi hz0 hz1 hz2 rfl (by decide) (.slice (some ⟨X.heap.size, 0, none⟩) 0 0) [] rfl OA1.out _ _ _ (l.take (0)) rfl NK.out LA1.out LE1.out (by simp) ?_; intro A5 n5 k5 w5 hn5 ho5 hb5 hg5; have c0' := (hb5.cell (p := ⟨w.heap.size, 0, none⟩) hsX).trans D0; have c1' := (hb5.cell (p := ⟨w.heap.size, 1, none⟩) hsX).trans D1; have e0' := alloc_some c0' (Obj.cells #[.int .i64 a, .int .i64 y] 42); have e1' := alloc_some c1' (Obj.cells #[.int .i64 a, .int .i64 y] 42); have HO5 := Lib.hid (ho5.below ((Below.refl _ _).alloc (Nat.le_refl _) (Obj.cells #[.int .i64 a, .int .i64 y] 42))); have HS5 := Lib.hid (slAt_one (heap_new (w := w5) (o := Obj.cells #[.int .i64 a, .int .i64 y] 42) rfl)); have HB5 := Lib.hid ((HBX.out.trans ((BA1.out.trans hb5).mono hsX)).alloc (Nat.le_trans hsX (BA1.out.trans hb5).size) (Obj.cells #[.int .i64 a, .int .i64 y] 42)); have HZ5 : Hid (X.heap.size ≤ (w5.alloc (Obj.cells #[.int .i64 a, .int .i64 y] 42)).heap.size) := Nat.le_trans (BA1.out.trans hb5).size ((Below.refl 0 w5).alloc (Nat.zero_le _) _).size; have HZ5' : Hid (w.heap.size + 1 ≤ X.heap.size) := hsX; have HQ5 := Lib.hid ((BA1.out.trans hb5).alloc (BA1.out.trans hb5).size (Obj.cells #[.int .i64 a, .int .i64 y] 42)); have HY5 : Hid (X.heap.size ≤ X.heap.size) := Nat.le_refl _; clear hn5 ho5 hb5 hg5)
              | (refine step_append_slsv pairS _ rfl _ _ 24 rfl X.heap.size 42 i0 _ 16 Try.underlying24 hi hz0 hz1 hz2 rfl (by decide) (.slice (some ⟨X.heap.size, 0, none⟩) 0 0) [] rfl OA2.out _ _ _ (l.take (0)) rfl NK.out LA2.out LE1.out (by simp; omega) ?_; intro A5 n5 k5 w5 hn5 ho5 hb5 hg5; have e0' := (hb5.cell (p := ⟨w.heap.size, 0, none⟩) hsX).trans G0; have e1' := (hb5.cell (p := ⟨w.heap.size, 1, none⟩) hsX).trans G1; have HO5 := Lib.hid ho5; have HS5 := Lib.hid (slAt_one ((hg5.block (X.heap.size + 1) (Array.getElem?_eq_some_iff.1 EA2.out).1 (by simp [Value.ownBlock])).trans EA2.out)); have HB5 := Lib.hid (HBX.out.trans ((BA2.out.trans hb5).mono hsX)); have HZ5 : Hid (X.heap.size ≤ w5.heap.size) := (BA2.out.trans hb5).size; have HZ5' : Hid (w.heap.size + 1 ≤ X.heap.size) := hsX; have HQ5 := Lib.hid (BA2.out.trans hb5); have HY5 : Hid (X.heap.size ≤ X.heap.size) := Nat.le_refl _; clear hn5 ho5 hb5 hg5)
              | (refine step_append_slsv pairS _ rfl _ _ 24 rfl (X.heap.size + 1) 42 i0 _ 16 Try.underlying24 hi hz0 hz1 hz2 rfl (by decide) (.slice (some ⟨X.heap.size + 1, 0, none⟩) 0 0) [] rfl OB.out _ _ _ (l.take (0)) rfl NK.out LB.out LE1.out (by simp) ?_; intro A5 n5 k5 w5 hn5 ho5 hb5 hg5; have e0' := (hb5.cell (p := ⟨w.heap.size, 0, none⟩) (Nat.lt_succ_of_lt hsX)).trans J0; have e1' := (hb5.cell (p := ⟨w.heap.size, 1, none⟩) (Nat.lt_succ_of_lt hsX)).trans J1; have HO5 := Lib.hid ho5; have HS5 := Lib.hid (slAt_one ((hb5.block X.heap.size (Nat.lt_succ_self _)).trans EB.out)); have HB5 := Lib.hid (HBX.out.trans ((BB.out.trans (hb5.mono (Nat.le_succ _))).mono hsX)); have HZ5 : Hid (X.heap.size + 1 ≤ w5.heap.size) := Nat.le_trans (by simp) hb5.size; have HZ5' : Hid (w.heap.size + 1 ≤ X.heap.size + 1) := Nat.le_succ_of_le hsX; have HQ5 := Lib.hid (BB.out.trans (hb5.mono (Nat.le_succ _))); have HY5 : Hid (X.heap.size ≤ X.heap.size + 1) := Nat.le_succ _; clear hn5 ho5 hb5 hg5))
          all_goals (
            have HA6 : Hid (SlAt pairS w6 (some ⟨b, off, none⟩) l) := HAX.out.below HBQ.out
            have LE6 : Hid (([] ++ l.take (0) ++ [(a, y)]).length + (l.drop (0)).length ≤ 1048576) := by show _ ≤ _; simp only [List.length_append, List.length_take, List.length_drop, List.length_nil, List.length_cons]; omega
            have ND : Hid (l.length - (0) = (l.drop (0)).length) := by show _ = _; rw [List.length_drop]
            have HZ6 : Hid (w.heap.size + 1 ≤ w6.heap.size) := Nat.le_trans hsX HBQ.out.size
            go_wp2_with (at_builtin; refine wpList_append_slsv pairS _ rfl _ _ 24 rfl (w.heap.size + 1) 42 i0 _ 16 Try.underlying24 hi hz0 hz1 hz2 rfl (by decide) _ ([] ++ l.take (0) ++ [(a, y)]) rfl HO6.out _ _ _ (l.drop (0)) rfl ND.out HA6.out LE6.out HZ6.out ?_; intro A7 n7 k7 w7 hn7 ho7 hb7; have HN7 := Lib.hid hn7; have HO7 := Lib.hid ho7; have HB7 := Lib.hid (HB6.out.trans hb7); clear hn7 ho7 hb7)
            all_goals (
              go_ret
              refine ⟨A7, n7, k7, rfl, ?_, ?_, ?_⟩
              · rw [HN7.out, take_drop_put HKE.out]
              · have := HO7.out
                rw [take_drop_put HKE.out] at this
                exact this.base (Nat.le_succ _)
              · exact ((Below.refl _ _).alloc (Nat.le_refl _) _).trans (HB7.out.mono (Nat.le_succ _))))
    | succ j =>
      have hj : j < l.length := hk
      obtain ⟨b, off, rfl, l0, hc⟩ := (HA.out.at_ hj)
      obtain ⟨a0, a1⟩ := hc j hj
      clear hc
      have hw : IntKind.i64.wrap (((j + 1 : Nat) : Int) - 1) = (j : Int) := by rw [IntWalk.i64_in _ (by omega)]; omega
      have hw2 : IntKind.i64.wrap ((j : Int) + 1 - 1) = (j : Int) := by rw [IntWalk.i64_in _ (by omega)]; omega
      have hw3 : IntKind.i64.wrap (j : Int) = (j : Int) := IntWalk.i64_in _ (by omega)
      have hg0 : (0 : Int) < ((j + 1 : Nat) : Int) := by omega
      have hg1 : (0 : Int) < (j : Int) + 1 := by omega
      have hj0 : (0 : Int) ≤ (j : Int) := by omega
      have hj2 : (0 : Int) ≤ (j : Int) + 1 := by omega
      have hj3 : (j : Int) + 1 ≤ (c : Int) := by omega
      have hj4 : (j : Int) + 1 ≤ (l.length : Int) := by omega
      have hj5 : (l.length : Int) ≤ (c : Int) := by omega
      have hj1 : (j : Int) < (l.length : Int) := by omega
      have HPU : Hid (putK l (a, y) (j + 1) = if antLt (a, y) (l.getD j (0, 0)) then putK l (a, y) j else j + 1) := rfl
      generalize l.getD j (0, 0) = x at *
      obtain ⟨x1, x2⟩ := x
      simp only at a0 a1
      have HP := Lib.hid hp
      clear hp
      have done : (antLt (a, y) (x1, x2) = true → putK l (a, y) j = putK l (a, y) l.length) := fun h => by
        have h1 := HPU.out
        rw [h, if_pos rfl] at h1
        rw [← h1]; exact HP.out
      have stay : (antLt (a, y) (x1, x2) = false → j + 1 = putK l (a, y) l.length) := fun h => by
        have h1 := HPU.out
        rw [h, if_neg (by decide)] at h1
        rw [← h1]; exact HP.out
      have HD := Lib.hid done
      have HS := Lib.hid stay
      clear done stay
      by_cases h1 : a < x1
      · have d1 : decide (a < x1) = true := decide_eq_true h1
        go_wp2
        go_quiet (fail)
        go_wp2
        go_roundw
        case rel => exact ⟨j, by omega, by go_num, HD.out (by simp [antLt, *]), ⟨HB.out.os, HB.out.tape, HB.out.output, HB.out.size, HB.out.block⟩⟩
        case measure => simp [intOf]
      · have d1 : decide (a < x1) = false := decide_eq_false h1
        by_cases h2 : a = x1
        · have d2 : (a == x1) = true := by simp [h2]
          subst h2
          by_cases h3 : y < x2
          · have d3 : decide (y < x2) = true := decide_eq_true h3
            go_wp2
            go_quiet (fail)
            go_wp2
            go_roundw
            case rel => exact ⟨j, by omega, by go_num, HD.out (by simp [antLt, *]), ⟨HB.out.os, HB.out.tape, HB.out.output, HB.out.size, HB.out.block⟩⟩
            case measure => simp [intOf]
          · have d3 : decide (y < x2) = false := decide_eq_false h3
            go_wp2
            go_quiet (fail)
            go_wp2
            have HKE : Hid (j + 1 = putK l (a, y) l.length) := HS.out (by simp [antLt, *])
            obtain ⟨X, hX⟩ : ∃ X, X = wr.drewN nq := ⟨_, rfl⟩
            have HBX : Hid (Below (w.heap.size + 1) (w.alloc (Obj.cells #[Value.int IntKind.i64 a, Value.int IntKind.i64 y] 42)) X) := by rw [hX]; exact ⟨HB.out.os, HB.out.tape, HB.out.output, HB.out.size, HB.out.block⟩
            have HAX : Hid (SlAt pairS X (some ⟨b, off, none⟩) l) := by rw [hX]; exact antsAt_sl HA.out
            have x0 : X.cell? ⟨w.heap.size, 0, none⟩ = some (.int .i64 a) := by rw [hX]; exact c0
            have x1 : X.cell? ⟨w.heap.size, 1, none⟩ = some (.int .i64 y) := by rw [hX]; exact c1
            have hsX : w.heap.size < X.heap.size := by rw [hX]; exact hs
            rw [← hX]
            clear hX c0 c1 hs
            have p0 : X.drew.cell? ⟨w.heap.size, 0, none⟩ = some (.int .i64 a) := x0
            have p1 : X.drew.cell? ⟨w.heap.size, 1, none⟩ = some (.int .i64 y) := x1
            have D0 : (X.alloc (Obj.cells #[] 42)).drew.cell? ⟨w.heap.size, 0, none⟩ = some (.int .i64 a) := alloc_some x0 _
            have D1 : (X.alloc (Obj.cells #[] 42)).drew.cell? ⟨w.heap.size, 1, none⟩ = some (.int .i64 y) := alloc_some x1 _
            have F0 : (X.alloc (Obj.cells #[.int .i64 a, .int .i64 y] 42)).drew.cell? ⟨w.heap.size, 0, none⟩ = some (.int .i64 a) := alloc_some x0 _
            have F1 : (X.alloc (Obj.cells #[.int .i64 a, .int .i64 y] 42)).drew.cell? ⟨w.heap.size, 1, none⟩ = some (.int .i64 y) := alloc_some x1 _
            have G0 : ((X.alloc (Obj.cells #[] 42)).alloc (Obj.cells #[.int .i64 a, .int .i64 y] 42)).drew.cell? ⟨w.heap.size, 0, none⟩ = some (.int .i64 a) := alloc_some (alloc_some x0 _) _
            have G1 : ((X.alloc (Obj.cells #[] 42)).alloc (Obj.cells #[.int .i64 a, .int .i64 y] 42)).drew.cell? ⟨w.heap.size, 1, none⟩ = some (.int .i64 y) := alloc_some (alloc_some x1 _) _
            have J0 : ((X.alloc (Obj.cells #[.int .i64 a, .int .i64 y] 42)).alloc (Obj.cells #[] 42)).drew.cell? ⟨w.heap.size, 0, none⟩ = some (.int .i64 a) := alloc_some (alloc_some x0 _) _
            have J1 : ((X.alloc (Obj.cells #[.int .i64 a, .int .i64 y] 42)).alloc (Obj.cells #[] 42)).drew.cell? ⟨w.heap.size, 1, none⟩ = some (.int .i64 y) := alloc_some (alloc_some x1 _) _
            have BA1 : Hid (Below X.heap.size X (X.alloc (Obj.cells #[] 42)).drew) := (((Below.refl _ X).alloc (Nat.le_refl _) _).drew)
            have BA2 : Hid (Below X.heap.size X ((X.alloc (Obj.cells #[] 42)).alloc (Obj.cells #[.int .i64 a, .int .i64 y] 42)).drew) := ((((Below.refl _ X).alloc (Nat.le_refl _) _).alloc (by simp) _).drew)
            have BB : Hid (Below X.heap.size X ((X.alloc (Obj.cells #[.int .i64 a, .int .i64 y] 42)).alloc (Obj.cells #[] 42)).drew) := ((((Below.refl _ X).alloc (Nat.le_refl _) _).alloc (by simp) _).drew)
            have OA1 : Hid (SlOwn pairS (X.alloc (Obj.cells #[] 42)).drew X.heap.size 42 (.slice (some ⟨X.heap.size, 0, none⟩) 0 0) []) := own_empty pairS X _
            have OA2 : Hid (SlOwn pairS ((X.alloc (Obj.cells #[] 42)).alloc (Obj.cells #[.int .i64 a, .int .i64 y] 42)).drew X.heap.size 42 (.slice (some ⟨X.heap.size, 0, none⟩) 0 0) []) := (own_empty pairS X 42).below (((Below.refl _ _).alloc (Nat.le_refl _) _).drew)
            have OB : Hid (SlOwn pairS ((X.alloc (Obj.cells #[.int .i64 a, .int .i64 y] 42)).alloc (Obj.cells #[] 42)).drew (X.heap.size + 1) 42 (.slice (some ⟨X.heap.size + 1, 0, none⟩) 0 0) []) := own_empty_n pairS (X.alloc (Obj.cells #[.int .i64 a, .int .i64 y] 42)) _ (by simp)
            have LA1 : Hid (SlAt pairS (X.alloc (Obj.cells #[] 42)).drew (some ⟨b, off, none⟩) (l.take (j + 1))) := (HAX.out.below BA1.out).take _
            have LA2 : Hid (SlAt pairS ((X.alloc (Obj.cells #[] 42)).alloc (Obj.cells #[.int .i64 a, .int .i64 y] 42)).drew (some ⟨b, off, none⟩) (l.take (j + 1))) := (HAX.out.below BA2.out).take _
            have LB : Hid (SlAt pairS ((X.alloc (Obj.cells #[.int .i64 a, .int .i64 y] 42)).alloc (Obj.cells #[] 42)).drew (some ⟨b, off, none⟩) (l.take (j + 1))) := (HAX.out.below BB.out).take _
            have NK : Hid (j + 1 = (l.take (j + 1)).length) := by show _ = _; simp only [List.length_take]; omega
            have LE1 : Hid (([] : List (Int × Int)).length + (l.take (j + 1)).length ≤ 1048576) := by show _ ≤ _; simp only [List.length_take, List.length_nil]; omega
            have LE2 : Hid (([] ++ l.take (j + 1)).length + [(a, y)].length ≤ 1048576) := by show _ ≤ _; simp only [List.length_append, List.length_take, List.length_nil, List.length_cons]; omega
            have EA2 : Hid (((X.alloc (Obj.cells #[] 42)).alloc (Obj.cells #[.int .i64 a, .int .i64 y] 42)).drew.heap[X.heap.size + 1]? = some (Obj.cells #[.int .i64 a, .int .i64 y] 42)) := heap_new (w := X.alloc (Obj.cells #[] 42)) (by simp)
            have EB : Hid (((X.alloc (Obj.cells #[.int .i64 a, .int .i64 y] 42)).alloc (Obj.cells #[] 42)).drew.heap[X.heap.size]? = some (Obj.cells #[.int .i64 a, .int .i64 y] 42)) := (((Below.refl (X.heap.size + 1) (X.alloc (Obj.cells #[.int .i64 a, .int .i64 y] 42))).alloc (by simp) (Obj.cells #[] 42)).block X.heap.size (by omega)).trans (heap_new (w := X) rfl)
            go_region_held3 (fun w' => w'.cell? ⟨w.heap.size, 0, none⟩ = some (.int .i64 a) ∧ w'.cell? ⟨w.heap.size, 1, none⟩ = some (.int .i64 y))
              (first | exact ⟨c0'', c1''⟩ | exact ⟨e0', e1'⟩ | exact ⟨c0', c1'⟩ | exact ⟨D0, D1⟩ | exact ⟨F0, F1⟩ | exact ⟨G0, G1⟩ | exact ⟨J0, J1⟩ | go_keep)
              (first
                | (refine step_append_slsv pairS _ rfl _ _ 24 rfl _ 42 i0 _ 16 Try.underlying24 hi hz0 hz1 hz2 rfl (by decide) _ ([] ++ l.take (j + 1)) rfl HO5.out _ 1 1 [(a, y)] rfl rfl HS5.out LE2.out HZ5.out ?_; intro A6 n6 k6 w6 hn6 ho6 hb6 hg6; have HN6 := Lib.hid hn6; have HO6 : Hid (SlOwn pairS w6 (w.heap.size + 1) 42 (.slice A6 n6 k6) ([] ++ l.take (j + 1) ++ [(a, y)])) := ho6.base HZ5'.out; have HB6 := Lib.hid (HB5.out.trans (hb6.mono HZ5'.out)); have HBQ := Lib.hid (HQ5.out.trans (hb6.mono HY5.out)); have c0'' := (hb6.cell (p := ⟨w.heap.size, 0, none⟩) HZ5'.out).trans e0'; have c1'' := (hb6.cell (p := ⟨w.heap.size, 1, none⟩) HZ5'.out).trans e1'; clear hn6 ho6 hb6 hg6)
                | (refine step_append_slsv pairS _ rfl _ _ 24 rfl X.heap.size 42 i0 _ 16 Try.underlying24 hi hz0 hz1 hz2 rfl (by decide) (.slice (some ⟨X.heap.size, 0, none⟩) 0 0) [] rfl OA1.out _ _ _ (l.take (j + 1)) rfl NK.out LA1.out LE1.out (by simp) ?_; intro A5 n5 k5 w5 hn5 ho5 hb5 hg5; have c0' := (hb5.cell (p := ⟨w.heap.size, 0, none⟩) hsX).trans D0; have c1' := (hb5.cell (p := ⟨w.heap.size, 1, none⟩) hsX).trans D1; have e0' := alloc_some c0' (Obj.cells #[.int .i64 a, .int .i64 y] 42); have e1' := alloc_some c1' (Obj.cells #[.int .i64 a, .int .i64 y] 42); have HO5 := Lib.hid (ho5.below ((Below.refl _ _).alloc (Nat.le_refl _) (Obj.cells #[.int .i64 a, .int .i64 y] 42))); have HS5 := Lib.hid (slAt_one (heap_new (w := w5) (o := Obj.cells #[.int .i64 a, .int .i64 y] 42) rfl)); have HB5 := Lib.hid ((HBX.out.trans ((BA1.out.trans hb5).mono hsX)).alloc (Nat.le_trans hsX (BA1.out.trans hb5).size) (Obj.cells #[.int .i64 a, .int .i64 y] 42)); have HZ5 : Hid (X.heap.size ≤ (w5.alloc (Obj.cells #[.int .i64 a, .int .i64 y] 42)).heap.size) := Nat.le_trans (BA1.out.trans hb5).size ((Below.refl 0 w5).alloc (Nat.zero_le _) _).size; have HZ5' : Hid (w.heap.size + 1 ≤ X.heap.size) := hsX; have HQ5 := Lib.hid ((BA1.out.trans hb5).alloc (BA1.out.trans hb5).size (Obj.cells #[.int .i64 a, .int .i64 y] 42)); have HY5 : Hid (X.heap.size ≤ X.heap.size) := Nat.le_refl _; clear hn5 ho5 hb5 hg5)
                | (refine step_append_slsv pairS _ rfl _ _ 24 rfl X.heap.size 42 i0 _ 16 Try.underlying24 hi hz0 hz1 hz2 rfl (by decide) (.slice (some ⟨X.heap.size, 0, none⟩) 0 0) [] rfl OA2.out _ _ _ (l.take (j + 1)) rfl NK.out LA2.out LE1.out (by simp; omega) ?_; intro A5 n5 k5 w5 hn5 ho5 hb5 hg5; have e0' := (hb5.cell (p := ⟨w.heap.size, 0, none⟩) hsX).trans G0; have e1' := (hb5.cell (p := ⟨w.heap.size, 1, none⟩) hsX).trans G1; have HO5 := Lib.hid ho5; have HS5 := Lib.hid (slAt_one ((hg5.block (X.heap.size + 1) (Array.getElem?_eq_some_iff.1 EA2.out).1 (by simp [Value.ownBlock])).trans EA2.out)); have HB5 := Lib.hid (HBX.out.trans ((BA2.out.trans hb5).mono hsX)); have HZ5 : Hid (X.heap.size ≤ w5.heap.size) := (BA2.out.trans hb5).size; have HZ5' : Hid (w.heap.size + 1 ≤ X.heap.size) := hsX; have HQ5 := Lib.hid (BA2.out.trans hb5); have HY5 : Hid (X.heap.size ≤ X.heap.size) := Nat.le_refl _; clear hn5 ho5 hb5 hg5)
                | (refine step_append_slsv pairS _ rfl _ _ 24 rfl (X.heap.size + 1) 42 i0 _ 16 Try.underlying24 hi hz0 hz1 hz2 rfl (by decide) (.slice (some ⟨X.heap.size + 1, 0, none⟩) 0 0) [] rfl OB.out _ _ _ (l.take (j + 1)) rfl NK.out LB.out LE1.out (by simp) ?_; intro A5 n5 k5 w5 hn5 ho5 hb5 hg5; have e0' := (hb5.cell (p := ⟨w.heap.size, 0, none⟩) (Nat.lt_succ_of_lt hsX)).trans J0; have e1' := (hb5.cell (p := ⟨w.heap.size, 1, none⟩) (Nat.lt_succ_of_lt hsX)).trans J1; have HO5 := Lib.hid ho5; have HS5 := Lib.hid (slAt_one ((hb5.block X.heap.size (Nat.lt_succ_self _)).trans EB.out)); have HB5 := Lib.hid (HBX.out.trans ((BB.out.trans (hb5.mono (Nat.le_succ _))).mono hsX)); have HZ5 : Hid (X.heap.size + 1 ≤ w5.heap.size) := Nat.le_trans (by simp) hb5.size; have HZ5' : Hid (w.heap.size + 1 ≤ X.heap.size + 1) := Nat.le_succ_of_le hsX; have HQ5 := Lib.hid (BB.out.trans (hb5.mono (Nat.le_succ _))); have HY5 : Hid (X.heap.size ≤ X.heap.size + 1) := Nat.le_succ _; clear hn5 ho5 hb5 hg5))
            all_goals (
              have HA6 : Hid (SlAt pairS w6 (some ⟨b, off, none⟩) l) := HAX.out.below HBQ.out
              have LE6 : Hid (([] ++ l.take (j + 1) ++ [(a, y)]).length + (l.drop (j + 1)).length ≤ 1048576) := by show _ ≤ _; simp only [List.length_append, List.length_take, List.length_drop, List.length_nil, List.length_cons]; omega
              have ND : Hid (l.length - (j + 1) = (l.drop (j + 1)).length) := by show _ = _; rw [List.length_drop]
              have HZ6 : Hid (w.heap.size + 1 ≤ w6.heap.size) := Nat.le_trans hsX HBQ.out.size
              go_wp2_with (at_builtin; refine wpList_append_slsv pairS _ rfl _ _ 24 rfl (w.heap.size + 1) 42 i0 _ 16 Try.underlying24 hi hz0 hz1 hz2 rfl (by decide) _ ([] ++ l.take (j + 1) ++ [(a, y)]) rfl HO6.out _ _ _ (l.drop (j + 1)) rfl ND.out (HA6.out.dropIf j c hcap) LE6.out HZ6.out ?_; intro A7 n7 k7 w7 hn7 ho7 hb7; have HN7 := Lib.hid hn7; have HO7 := Lib.hid ho7; have HB7 := Lib.hid (HB6.out.trans hb7); clear hn7 ho7 hb7)
              all_goals (
                go_ret
                refine ⟨A7, n7, k7, rfl, ?_, ?_, ?_⟩
                · rw [HN7.out, take_drop_put HKE.out]
                · have := HO7.out
                  rw [take_drop_put HKE.out] at this
                  exact this.base (Nat.le_succ _)
                · exact ((Below.refl _ _).alloc (Nat.le_refl _) _).trans (HB7.out.mono (Nat.le_succ _))))
        · have d2 : (a == x1) = false := by simp [h2]
          go_wp2
          go_quiet (fail)
          go_wp2
          have HKE : Hid (j + 1 = putK l (a, y) l.length) := HS.out (by simp [antLt, *])
          obtain ⟨X, hX⟩ : ∃ X, X = wr.drewN nq := ⟨_, rfl⟩
          have HBX : Hid (Below (w.heap.size + 1) (w.alloc (Obj.cells #[Value.int IntKind.i64 a, Value.int IntKind.i64 y] 42)) X) := by rw [hX]; exact ⟨HB.out.os, HB.out.tape, HB.out.output, HB.out.size, HB.out.block⟩
          have HAX : Hid (SlAt pairS X (some ⟨b, off, none⟩) l) := by rw [hX]; exact antsAt_sl HA.out
          have x0 : X.cell? ⟨w.heap.size, 0, none⟩ = some (.int .i64 a) := by rw [hX]; exact c0
          have x1 : X.cell? ⟨w.heap.size, 1, none⟩ = some (.int .i64 y) := by rw [hX]; exact c1
          have hsX : w.heap.size < X.heap.size := by rw [hX]; exact hs
          rw [← hX]
          clear hX c0 c1 hs
          have p0 : X.drew.cell? ⟨w.heap.size, 0, none⟩ = some (.int .i64 a) := x0
          have p1 : X.drew.cell? ⟨w.heap.size, 1, none⟩ = some (.int .i64 y) := x1
          have D0 : (X.alloc (Obj.cells #[] 42)).drew.cell? ⟨w.heap.size, 0, none⟩ = some (.int .i64 a) := alloc_some x0 _
          have D1 : (X.alloc (Obj.cells #[] 42)).drew.cell? ⟨w.heap.size, 1, none⟩ = some (.int .i64 y) := alloc_some x1 _
          have F0 : (X.alloc (Obj.cells #[.int .i64 a, .int .i64 y] 42)).drew.cell? ⟨w.heap.size, 0, none⟩ = some (.int .i64 a) := alloc_some x0 _
          have F1 : (X.alloc (Obj.cells #[.int .i64 a, .int .i64 y] 42)).drew.cell? ⟨w.heap.size, 1, none⟩ = some (.int .i64 y) := alloc_some x1 _
          have G0 : ((X.alloc (Obj.cells #[] 42)).alloc (Obj.cells #[.int .i64 a, .int .i64 y] 42)).drew.cell? ⟨w.heap.size, 0, none⟩ = some (.int .i64 a) := alloc_some (alloc_some x0 _) _
          have G1 : ((X.alloc (Obj.cells #[] 42)).alloc (Obj.cells #[.int .i64 a, .int .i64 y] 42)).drew.cell? ⟨w.heap.size, 1, none⟩ = some (.int .i64 y) := alloc_some (alloc_some x1 _) _
          have J0 : ((X.alloc (Obj.cells #[.int .i64 a, .int .i64 y] 42)).alloc (Obj.cells #[] 42)).drew.cell? ⟨w.heap.size, 0, none⟩ = some (.int .i64 a) := alloc_some (alloc_some x0 _) _
          have J1 : ((X.alloc (Obj.cells #[.int .i64 a, .int .i64 y] 42)).alloc (Obj.cells #[] 42)).drew.cell? ⟨w.heap.size, 1, none⟩ = some (.int .i64 y) := alloc_some (alloc_some x1 _) _
          have BA1 : Hid (Below X.heap.size X (X.alloc (Obj.cells #[] 42)).drew) := (((Below.refl _ X).alloc (Nat.le_refl _) _).drew)
          have BA2 : Hid (Below X.heap.size X ((X.alloc (Obj.cells #[] 42)).alloc (Obj.cells #[.int .i64 a, .int .i64 y] 42)).drew) := ((((Below.refl _ X).alloc (Nat.le_refl _) _).alloc (by simp) _).drew)
          have BB : Hid (Below X.heap.size X ((X.alloc (Obj.cells #[.int .i64 a, .int .i64 y] 42)).alloc (Obj.cells #[] 42)).drew) := ((((Below.refl _ X).alloc (Nat.le_refl _) _).alloc (by simp) _).drew)
          have OA1 : Hid (SlOwn pairS (X.alloc (Obj.cells #[] 42)).drew X.heap.size 42 (.slice (some ⟨X.heap.size, 0, none⟩) 0 0) []) := own_empty pairS X _
          have OA2 : Hid (SlOwn pairS ((X.alloc (Obj.cells #[] 42)).alloc (Obj.cells #[.int .i64 a, .int .i64 y] 42)).drew X.heap.size 42 (.slice (some ⟨X.heap.size, 0, none⟩) 0 0) []) := (own_empty pairS X 42).below (((Below.refl _ _).alloc (Nat.le_refl _) _).drew)
          have OB : Hid (SlOwn pairS ((X.alloc (Obj.cells #[.int .i64 a, .int .i64 y] 42)).alloc (Obj.cells #[] 42)).drew (X.heap.size + 1) 42 (.slice (some ⟨X.heap.size + 1, 0, none⟩) 0 0) []) := own_empty_n pairS (X.alloc (Obj.cells #[.int .i64 a, .int .i64 y] 42)) _ (by simp)
          have LA1 : Hid (SlAt pairS (X.alloc (Obj.cells #[] 42)).drew (some ⟨b, off, none⟩) (l.take (j + 1))) := (HAX.out.below BA1.out).take _
          have LA2 : Hid (SlAt pairS ((X.alloc (Obj.cells #[] 42)).alloc (Obj.cells #[.int .i64 a, .int .i64 y] 42)).drew (some ⟨b, off, none⟩) (l.take (j + 1))) := (HAX.out.below BA2.out).take _
          have LB : Hid (SlAt pairS ((X.alloc (Obj.cells #[.int .i64 a, .int .i64 y] 42)).alloc (Obj.cells #[] 42)).drew (some ⟨b, off, none⟩) (l.take (j + 1))) := (HAX.out.below BB.out).take _
          have NK : Hid (j + 1 = (l.take (j + 1)).length) := by show _ = _; simp only [List.length_take]; omega
          have LE1 : Hid (([] : List (Int × Int)).length + (l.take (j + 1)).length ≤ 1048576) := by show _ ≤ _; simp only [List.length_take, List.length_nil]; omega
          have LE2 : Hid (([] ++ l.take (j + 1)).length + [(a, y)].length ≤ 1048576) := by show _ ≤ _; simp only [List.length_append, List.length_take, List.length_nil, List.length_cons]; omega
          have EA2 : Hid (((X.alloc (Obj.cells #[] 42)).alloc (Obj.cells #[.int .i64 a, .int .i64 y] 42)).drew.heap[X.heap.size + 1]? = some (Obj.cells #[.int .i64 a, .int .i64 y] 42)) := heap_new (w := X.alloc (Obj.cells #[] 42)) (by simp)
          have EB : Hid (((X.alloc (Obj.cells #[.int .i64 a, .int .i64 y] 42)).alloc (Obj.cells #[] 42)).drew.heap[X.heap.size]? = some (Obj.cells #[.int .i64 a, .int .i64 y] 42)) := (((Below.refl (X.heap.size + 1) (X.alloc (Obj.cells #[.int .i64 a, .int .i64 y] 42))).alloc (by simp) (Obj.cells #[] 42)).block X.heap.size (by omega)).trans (heap_new (w := X) rfl)
          go_region_held3 (fun w' => w'.cell? ⟨w.heap.size, 0, none⟩ = some (.int .i64 a) ∧ w'.cell? ⟨w.heap.size, 1, none⟩ = some (.int .i64 y))
            (first | exact ⟨c0'', c1''⟩ | exact ⟨e0', e1'⟩ | exact ⟨c0', c1'⟩ | exact ⟨D0, D1⟩ | exact ⟨F0, F1⟩ | exact ⟨G0, G1⟩ | exact ⟨J0, J1⟩ | go_keep)
            (first
              | (refine step_append_slsv pairS _ rfl _ _ 24 rfl _ 42 i0 _ 16 Try.underlying24 hi hz0 hz1 hz2 rfl (by decide) _ ([] ++ l.take (j + 1)) rfl HO5.out _ 1 1 [(a, y)] rfl rfl HS5.out LE2.out HZ5.out ?_; intro A6 n6 k6 w6 hn6 ho6 hb6 hg6; have HN6 := Lib.hid hn6; have HO6 : Hid (SlOwn pairS w6 (w.heap.size + 1) 42 (.slice A6 n6 k6) ([] ++ l.take (j + 1) ++ [(a, y)])) := ho6.base HZ5'.out; have HB6 := Lib.hid (HB5.out.trans (hb6.mono HZ5'.out)); have HBQ := Lib.hid (HQ5.out.trans (hb6.mono HY5.out)); have c0'' := (hb6.cell (p := ⟨w.heap.size, 0, none⟩) HZ5'.out).trans e0'; have c1'' := (hb6.cell (p := ⟨w.heap.size, 1, none⟩) HZ5'.out).trans e1'; clear hn6 ho6 hb6 hg6)
              | (refine step_append_slsv pairS _ rfl _ _ 24 rfl X.heap.size 42 i0 _ 16 Try.underlying24 hi hz0 hz1 hz2 rfl (by decide) (.slice (some ⟨X.heap.size, 0, none⟩) 0 0) [] rfl OA1.out _ _ _ (l.take (j + 1)) rfl NK.out LA1.out LE1.out (by simp) ?_; intro A5 n5 k5 w5 hn5 ho5 hb5 hg5; have c0' := (hb5.cell (p := ⟨w.heap.size, 0, none⟩) hsX).trans D0; have c1' := (hb5.cell (p := ⟨w.heap.size, 1, none⟩) hsX).trans D1; have e0' := alloc_some c0' (Obj.cells #[.int .i64 a, .int .i64 y] 42); have e1' := alloc_some c1' (Obj.cells #[.int .i64 a, .int .i64 y] 42); have HO5 := Lib.hid (ho5.below ((Below.refl _ _).alloc (Nat.le_refl _) (Obj.cells #[.int .i64 a, .int .i64 y] 42))); have HS5 := Lib.hid (slAt_one (heap_new (w := w5) (o := Obj.cells #[.int .i64 a, .int .i64 y] 42) rfl)); have HB5 := Lib.hid ((HBX.out.trans ((BA1.out.trans hb5).mono hsX)).alloc (Nat.le_trans hsX (BA1.out.trans hb5).size) (Obj.cells #[.int .i64 a, .int .i64 y] 42)); have HZ5 : Hid (X.heap.size ≤ (w5.alloc (Obj.cells #[.int .i64 a, .int .i64 y] 42)).heap.size) := Nat.le_trans (BA1.out.trans hb5).size ((Below.refl 0 w5).alloc (Nat.zero_le _) _).size; have HZ5' : Hid (w.heap.size + 1 ≤ X.heap.size) := hsX; have HQ5 := Lib.hid ((BA1.out.trans hb5).alloc (BA1.out.trans hb5).size (Obj.cells #[.int .i64 a, .int .i64 y] 42)); have HY5 : Hid (X.heap.size ≤ X.heap.size) := Nat.le_refl _; clear hn5 ho5 hb5 hg5)
              | (refine step_append_slsv pairS _ rfl _ _ 24 rfl X.heap.size 42 i0 _ 16 Try.underlying24 hi hz0 hz1 hz2 rfl (by decide) (.slice (some ⟨X.heap.size, 0, none⟩) 0 0) [] rfl OA2.out _ _ _ (l.take (j + 1)) rfl NK.out LA2.out LE1.out (by simp; omega) ?_; intro A5 n5 k5 w5 hn5 ho5 hb5 hg5; have e0' := (hb5.cell (p := ⟨w.heap.size, 0, none⟩) hsX).trans G0; have e1' := (hb5.cell (p := ⟨w.heap.size, 1, none⟩) hsX).trans G1; have HO5 := Lib.hid ho5; have HS5 := Lib.hid (slAt_one ((hg5.block (X.heap.size + 1) (Array.getElem?_eq_some_iff.1 EA2.out).1 (by simp [Value.ownBlock])).trans EA2.out)); have HB5 := Lib.hid (HBX.out.trans ((BA2.out.trans hb5).mono hsX)); have HZ5 : Hid (X.heap.size ≤ w5.heap.size) := (BA2.out.trans hb5).size; have HZ5' : Hid (w.heap.size + 1 ≤ X.heap.size) := hsX; have HQ5 := Lib.hid (BA2.out.trans hb5); have HY5 : Hid (X.heap.size ≤ X.heap.size) := Nat.le_refl _; clear hn5 ho5 hb5 hg5)
              | (refine step_append_slsv pairS _ rfl _ _ 24 rfl (X.heap.size + 1) 42 i0 _ 16 Try.underlying24 hi hz0 hz1 hz2 rfl (by decide) (.slice (some ⟨X.heap.size + 1, 0, none⟩) 0 0) [] rfl OB.out _ _ _ (l.take (j + 1)) rfl NK.out LB.out LE1.out (by simp) ?_; intro A5 n5 k5 w5 hn5 ho5 hb5 hg5; have e0' := (hb5.cell (p := ⟨w.heap.size, 0, none⟩) (Nat.lt_succ_of_lt hsX)).trans J0; have e1' := (hb5.cell (p := ⟨w.heap.size, 1, none⟩) (Nat.lt_succ_of_lt hsX)).trans J1; have HO5 := Lib.hid ho5; have HS5 := Lib.hid (slAt_one ((hb5.block X.heap.size (Nat.lt_succ_self _)).trans EB.out)); have HB5 := Lib.hid (HBX.out.trans ((BB.out.trans (hb5.mono (Nat.le_succ _))).mono hsX)); have HZ5 : Hid (X.heap.size + 1 ≤ w5.heap.size) := Nat.le_trans (by simp) hb5.size; have HZ5' : Hid (w.heap.size + 1 ≤ X.heap.size + 1) := Nat.le_succ_of_le hsX; have HQ5 := Lib.hid (BB.out.trans (hb5.mono (Nat.le_succ _))); have HY5 : Hid (X.heap.size ≤ X.heap.size + 1) := Nat.le_succ _; clear hn5 ho5 hb5 hg5))
          all_goals (
            have HA6 : Hid (SlAt pairS w6 (some ⟨b, off, none⟩) l) := HAX.out.below HBQ.out
            have LE6 : Hid (([] ++ l.take (j + 1) ++ [(a, y)]).length + (l.drop (j + 1)).length ≤ 1048576) := by show _ ≤ _; simp only [List.length_append, List.length_take, List.length_drop, List.length_nil, List.length_cons]; omega
            have ND : Hid (l.length - (j + 1) = (l.drop (j + 1)).length) := by show _ = _; rw [List.length_drop]
            have HZ6 : Hid (w.heap.size + 1 ≤ w6.heap.size) := Nat.le_trans hsX HBQ.out.size
            go_wp2_with (at_builtin; refine wpList_append_slsv pairS _ rfl _ _ 24 rfl (w.heap.size + 1) 42 i0 _ 16 Try.underlying24 hi hz0 hz1 hz2 rfl (by decide) _ ([] ++ l.take (j + 1) ++ [(a, y)]) rfl HO6.out _ _ _ (l.drop (j + 1)) rfl ND.out (HA6.out.dropIf j c hcap) LE6.out HZ6.out ?_; intro A7 n7 k7 w7 hn7 ho7 hb7; have HN7 := Lib.hid hn7; have HO7 := Lib.hid ho7; have HB7 := Lib.hid (HB6.out.trans hb7); clear hn7 ho7 hb7)
            all_goals (
              go_ret
              refine ⟨A7, n7, k7, rfl, ?_, ?_, ?_⟩
              · rw [HN7.out, take_drop_put HKE.out]
              · have := HO7.out
                rw [take_drop_put HKE.out] at this
                exact this.base (Nat.le_succ _)
              · exact ((Below.refl _ _).alloc (Nat.le_refl _) _).trans (HB7.out.mono (Nat.le_succ _))))
end Go.Proofs.Ythfacfoclekcbaa
