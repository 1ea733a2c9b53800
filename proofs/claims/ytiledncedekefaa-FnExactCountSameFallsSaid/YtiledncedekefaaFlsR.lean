/- RodOfFalls on both sides. -/
import Derived.Test.YtiledncedekefaaFls
import Derived.Test.YtiledncedekefaaCompare
import Derived.Test.YtiledncedekefaaRow
namespace Go.Proofs.Ytiledncedekefaa
open Go.RowKit

set_option maxHeartbeats 2000000 in
theorem specRodOfFalls_any (L : Int) (A : Option Addr) (c : Nat) (l : List Int) (B : Option Addr) (d : Nat) (m : List Int) (w : World) (hl : (l.length : Int) ≤ 1048576) (hm : (m.length : Int) ≤ 1048576) (hA : SlAt intS w A l) (hB : SlAt intS w B m) :
    Calls Try.prog 51 #[.int .i64 L, .slice A l.length c, .slice B m.length d] w fun e w' => ∃ A' n' c', e = .returned (.tuple #[.agg #[.int .i64 (rfL L l m), .slice A' n' c'], .bool (flB L l m)]) ∧ n' = (rfV L l m).length ∧ SlOwn pairS w' w.heap.size 64 (.slice A' n' c') (rfV L l m) ∧ Below w.heap.size w w' := by
  have HA := Lib.hid hA
  have HB := Lib.hid hB
  clear hA hB
  have h0b : Below w.heap.size w (w.alloc (Obj.cells #[Value.int IntKind.i64 0, Value.slice none 0 0] 28)) := (Below.refl _ _).alloc (Nat.le_refl _) _
  have H0B := Lib.hid h0b
  clear h0b
  cases hg : flB L l m with
  | false =>
    have HV := Lib.hid (flB_false hg)
    have HG := Lib.hid (fun w h h' => stFalls_at L A B c d l m false hg w hl hm h h')
    clear hg
    go_enter Try.func51, Try.ntmps51
    go_wp2_with fail
    refine (HG.out _ (HA.out.below H0B.out) (HB.out.below H0B.out)).mono ?_
    rintro e w1 ⟨rfl, hb1⟩
    have z0 : w1.cell? ⟨w.heap.size, 0, none⟩ = some (.int .i64 0) := by rw [hb1.cell (p := ⟨w.heap.size, 0, none⟩) (by simp)]; simp
    have z1 : w1.cell? ⟨w.heap.size, 1, none⟩ = some (.slice none 0 0) := by rw [hb1.cell (p := ⟨w.heap.size, 1, none⟩) (by simp)]; simp
    have g0 : w1.frozen? ⟨w.heap.size, 0, none⟩ = false := by rw [hb1.frozen (p := ⟨w.heap.size, 0, none⟩) (by simp)]; simp
    have g1 : w1.frozen? ⟨w.heap.size, 1, none⟩ = false := by rw [hb1.frozen (p := ⟨w.heap.size, 1, none⟩) (by simp)]; simp
    have HB1 : Hid (Below w.heap.size w w1) := H0B.out.trans (hb1.mono (by simp))
    clear hb1
    go_wp2
    refine bodyPost_ret (v := .tuple #[.agg #[.int .i64 0, .slice none 0 0], .bool false]) (by simp [results, Try.results51, go_sem, z0, z1]) rfl ⟨none, 0, 0, ret_rodb HV.out.2.symm rfl, by rw [HV.out.1]; rfl, by rw [HV.out.1]; exact SlOwn.nil _ _ _ _, ?_⟩
    exact (HB1.out.setCell (Nat.le_refl _) _).setCell (Nat.le_refl _) _
  | true =>
    have HV1 : Hid (rfV L l m = srtA (rawF L l m)) := by show _ = _; unfold rfV; rw [hg]; rfl
    have HV2 : Hid (rfL L l m = L) := by show _ = _; unfold rfL; rw [hg]; rfl
    have HG := Lib.hid (fun w h h' => stFalls_at L A B c d l m true hg w hl hm h h')
    have HS := Lib.hid (fun w h h' => stOf_any L A B c d l m w hg h h')
    clear hg
    go_enter Try.func51, Try.ntmps51
    go_wp2_with fail
    refine (HG.out _ (HA.out.below H0B.out) (HB.out.below H0B.out)).mono ?_
    rintro e w1 ⟨rfl, hb1⟩
    have z0 : w1.cell? ⟨w.heap.size, 0, none⟩ = some (.int .i64 0) := by rw [hb1.cell (p := ⟨w.heap.size, 0, none⟩) (by simp)]; simp
    have z1 : w1.cell? ⟨w.heap.size, 1, none⟩ = some (.slice none 0 0) := by rw [hb1.cell (p := ⟨w.heap.size, 1, none⟩) (by simp)]; simp
    have g0 : w1.frozen? ⟨w.heap.size, 0, none⟩ = false := by rw [hb1.frozen (p := ⟨w.heap.size, 0, none⟩) (by simp)]; simp
    have g1 : w1.frozen? ⟨w.heap.size, 1, none⟩ = false := by rw [hb1.frozen (p := ⟨w.heap.size, 1, none⟩) (by simp)]; simp
    have HB1 : Hid (Below w.heap.size w w1) := H0B.out.trans (hb1.mono (by simp))
    have hs1 : w.heap.size + 1 ≤ w1.heap.size := by have := hb1.size; simpa using this
    clear hb1
    go_wp2_with fail
    refine (HS.out _ (HA.out.below HB1.out) (HB.out.below HB1.out)).mono ?_
    rintro e w3 ⟨A3, n3, k3, rfl, hn3, ho3, hb3⟩
    have z0 := Below.cell_some hb3 z0
    have z1 := Below.cell_some hb3 z1
    have g0 := (hb3.frozen (p := ⟨w.heap.size, 0, none⟩) (by simp only; omega)).trans g0
    have g1 := (hb3.frozen (p := ⟨w.heap.size, 1, none⟩) (by simp only; omega)).trans g1
    have HB3 := Lib.hid (HB1.out.trans (hb3.mono HB1.out.size))
    have HO3 := Lib.hid ho3
    have HN3 := Lib.hid hn3
    clear hb3 ho3 hn3
    go_wp2
    refine bodyPost_ret (v := .tuple #[.agg #[.int .i64 L, .slice A3 n3 k3], .bool true]) (by simp [results, Try.results51, go_sem, z0, z1]) rfl ⟨A3, n3, k3, ret_rodb HV2.out.symm rfl, by rw [HV1.out, HN3.out, srtA_len, rawF_len], ?_, (HB3.out.setCell (Nat.le_refl _) _).setCell (Nat.le_refl _) _⟩
    rw [HV1.out]
    exact ownsRow_base (ownsRow_setCell_below (ownsRow_setCell_below HO3.out (by simp only; omega) _) (by simp only; omega) _) (by omega)

set_option maxHeartbeats 2000000 in
theorem implRodOfFalls_out (L : Int) (A : Option Addr) (c : Nat) (l : List Int) (B : Option Addr) (d : Nat) (m : List Int) (w : World) (hl : (l.length : Int) ≤ 1048576) (hm : (m.length : Int) ≤ 1048576) (hg : flB L l m = false) (hA : SlAt intS w A l) (hB : SlAt intS w B m) :
    Calls Try.prog 52 #[.int .i64 L, .slice A l.length c, .slice B m.length d] w fun e w' => e = .returned (.tuple #[.agg #[.int .i64 0, .slice none 0 0], .bool false]) ∧ Below w.heap.size w w' := by
  have HA := Lib.hid hA
  have HB := Lib.hid hB
  clear hA hB
  have h0b : Below w.heap.size w (w.alloc (Obj.cells #[Value.int IntKind.i64 0, Value.slice none 0 0] 28)) := (Below.refl _ _).alloc (Nat.le_refl _) _
  have H0B := Lib.hid h0b
  clear h0b
  have HIN : Hid (∀ w1, Below (w.alloc (Obj.cells #[Value.int IntKind.i64 0, Value.slice none 0 0] 28)).heap.size (w.alloc (Obj.cells #[Value.int IntKind.i64 0, Value.slice none 0 0] 28)) w1 → w1.cell? ⟨w.heap.size, 0, none⟩ = some (.int .i64 0) ∧ w1.cell? ⟨w.heap.size, 1, none⟩ = some (.slice none 0 0) ∧ w1.frozen? ⟨w.heap.size, 0, none⟩ = false ∧ w1.frozen? ⟨w.heap.size, 1, none⟩ = false) := fun w1 hb1 => by
    refine ⟨?_, ?_, ?_, ?_⟩
    · rw [hb1.cell (p := ⟨w.heap.size, 0, none⟩) (by simp)]; simp
    · rw [hb1.cell (p := ⟨w.heap.size, 1, none⟩) (by simp)]; simp
    · rw [hb1.frozen (p := ⟨w.heap.size, 0, none⟩) (by simp)]; simp
    · rw [hb1.frozen (p := ⟨w.heap.size, 1, none⟩) (by simp)]; simp
  cases hh : hdr L 0 with
  | false =>
    have HL := Lib.hid (fun w => isLength_at L false hh w)
    clear hg hh
    go_enter Try.func52, Try.ntmps52
    go_wp2_with (go_at_call 61; refine (HL.out _).mono ?_; rintro e w1 ⟨rfl, hb1⟩; obtain ⟨z0, z1, g0, g1⟩ := HIN.out w1 hb1)
    refine bodyPost_ret (v := .tuple #[.agg #[.int .i64 0, .slice none 0 0], .bool false]) (by simp [results, Try.results52, go_sem, z0, z1]) rfl ⟨rfl, ?_⟩
    exact ((H0B.out.trans (hb1.mono (by simp))).setCell (Nat.le_refl _) _).setCell (Nat.le_refl _) _
  | true =>
    have HL := Lib.hid (fun w => isLength_at L true hh w)
    cases hr1 : rowB L l with
    | false =>
      have HR1 := Lib.hid (fun w h => areOnRod_at L A c l false hr1 w (by omega) h)
      clear hg hh hr1
      go_enter Try.func52, Try.ntmps52
      go_wp2_with fail
      refine (HL.out _).mono ?_
      rintro e w1 ⟨rfl, hb1⟩
      obtain ⟨z0, z1, g0, g1⟩ := HIN.out w1 hb1
      have HB1 : Hid (Below w.heap.size w w1) := H0B.out.trans (hb1.mono (by simp))
      clear hb1
      go_wp2_with (go_at_call 62; refine (HR1.out _ (HA.out.below HB1.out)).mono ?_; rintro e w2 ⟨rfl, rfl⟩)
      refine bodyPost_ret (v := .tuple #[.agg #[.int .i64 0, .slice none 0 0], .bool false]) (by simp [results, Try.results52, go_sem, z0, z1]) rfl ⟨rfl, ?_⟩
      exact (HB1.out.setCell (Nat.le_refl _) _).setCell (Nat.le_refl _) _
    | true =>
      have HR1 := Lib.hid (fun w h => areOnRod_at L A c l true hr1 w (by omega) h)
      cases hr2 : rowB L m with
      | false =>
        have HR2 := Lib.hid (fun w h => areOnRod_at L B d m false hr2 w (by omega) h)
        clear hg hh hr1 hr2
        go_enter Try.func52, Try.ntmps52
        go_wp2_with fail
        refine (HL.out _).mono ?_
        rintro e w1 ⟨rfl, hb1⟩
        obtain ⟨z0, z1, g0, g1⟩ := HIN.out w1 hb1
        have HB1 : Hid (Below w.heap.size w w1) := H0B.out.trans (hb1.mono (by simp))
        clear hb1
        go_wp2_with fail
        refine (HR1.out _ (HA.out.below HB1.out)).mono ?_
        rintro e w2 ⟨rfl, rfl⟩
        go_wp2_with (go_at_call 62; refine (HR2.out _ (HB.out.below HB1.out)).mono ?_; rintro e w2 ⟨rfl, rfl⟩)
        refine bodyPost_ret (v := .tuple #[.agg #[.int .i64 0, .slice none 0 0], .bool false]) (by simp [results, Try.results52, go_sem, z0, z1]) rfl ⟨rfl, ?_⟩
        exact (HB1.out.setCell (Nat.le_refl _) _).setCell (Nat.le_refl _) _
      | true =>
        have HR2 := Lib.hid (fun w h => areOnRod_at L B d m true hr2 w (by omega) h)
        have hsum : (16 : Int) < (l.length : Int) + (m.length : Int) := by
          by_cases h : l.length + m.length ≤ 16
          · have := (flB_iff L l m).2 ⟨by have := (hdr_iff L 0).1 hh; omega, h, hr1, hr2⟩
            rw [hg] at this; cases this
          · omega
        clear hg hh hr1 hr2
        go_enter Try.func52, Try.ntmps52
        go_wp2_with fail
        refine (HL.out _).mono ?_
        rintro e w1 ⟨rfl, hb1⟩
        obtain ⟨z0, z1, g0, g1⟩ := HIN.out w1 hb1
        have HB1 : Hid (Below w.heap.size w w1) := H0B.out.trans (hb1.mono (by simp))
        clear hb1
        go_wp2_with fail
        refine (HR1.out _ (HA.out.below HB1.out)).mono ?_
        rintro e w2 ⟨rfl, rfl⟩
        go_wp2_with (go_at_call 62; refine (HR2.out _ (HB.out.below HB1.out)).mono ?_; rintro e w2 ⟨rfl, rfl⟩)
        refine bodyPost_ret (v := .tuple #[.agg #[.int .i64 0, .slice none 0 0], .bool false]) (by simp [results, Try.results52, go_sem, z0, z1]) rfl ⟨rfl, ?_⟩
        exact (HB1.out.setCell (Nat.le_refl _) _).setCell (Nat.le_refl _) _

set_option maxRecDepth 100000 in
set_option maxHeartbeats 4000000 in
theorem implRodOfFalls_in (L : Int) (A : Option Addr) (c : Nat) (l : List Int) (B : Option Addr) (d : Nat) (m : List Int) (w : World) (hg : flB L l m = true) (hA : SlAt intS w A l) (hB : SlAt intS w B m) :
    Calls Try.prog 52 #[.int .i64 L, .slice A l.length c, .slice B m.length d] w fun e w' => ∃ A' n' c', e = .returned (.tuple #[.agg #[.int .i64 L, .slice A' n' c'], .bool true]) ∧ n' = l.length + m.length ∧ SlOwn pairS w' w.heap.size 64 (.slice A' n' c') (srtA (rawF L l m)) ∧ Below w.heap.size w w' := by
  obtain ⟨⟨hL1, hL2, hL3⟩, hlen, hrl, hrm⟩ := (flB_iff L l m).1 hg
  obtain ⟨i0, hi, hz0, hz1, hz2⟩ := info_parts antI
  have HA := Lib.hid hA
  have HB := Lib.hid hB
  have HRM := Lib.hid hrm
  clear hA hB
  have HL := Lib.hid (fun w => isLength_at L true ((hdr_iff L 0).2 (by omega)) w)
  have HR1 := Lib.hid (fun w h => areOnRod_at L A c l true hrl w (by omega) h)
  have HR2 := Lib.hid (fun w h => areOnRod_at L B d m true hrm w (by omega) h)
  have hsum : ¬ (16 : Int) < (l.length : Int) + (m.length : Int) := by omega
  clear hg hrl hrm hL3
  go_enter Try.func52, Try.ntmps52
  go_wp2_with fail
  refine (HL.out _).mono ?_
  rintro e w1 ⟨rfl, hb1⟩
  have z0 : w1.cell? ⟨w.heap.size, 0, none⟩ = some (.int .i64 0) := by rw [hb1.cell (p := ⟨w.heap.size, 0, none⟩) (by simp)]; simp
  have z1 : w1.cell? ⟨w.heap.size, 1, none⟩ = some (.slice none 0 0) := by rw [hb1.cell (p := ⟨w.heap.size, 1, none⟩) (by simp)]; simp
  have g0 : w1.frozen? ⟨w.heap.size, 0, none⟩ = false := by rw [hb1.frozen (p := ⟨w.heap.size, 0, none⟩) (by simp)]; simp
  have g1 : w1.frozen? ⟨w.heap.size, 1, none⟩ = false := by rw [hb1.frozen (p := ⟨w.heap.size, 1, none⟩) (by simp)]; simp
  have HB1 : Hid (Below w.heap.size w w1) := ((Below.refl _ w).alloc (Nat.le_refl _) _).trans (hb1.mono (by simp))
  have hs1 : w.heap.size + 1 ≤ w1.heap.size := by have := hb1.size; simpa using this
  clear hb1
  go_wp2_with fail
  refine (HR1.out _ (HA.out.below HB1.out)).mono ?_
  rintro e w2 ⟨rfl, rfl⟩
  go_wp2_with fail
  refine (HR2.out _ (HB.out.below HB1.out)).mono ?_
  rintro e w2 ⟨rfl, rfl⟩
  go_wp2
  go_loopw [8, 39] (fun v i wr => ∃ (k : Nat) (A5 : Option Addr) (n5 c5 : Nat), k ≤ l.length ∧ i = .int .i64 k ∧ v = .slice A5 n5 c5 ∧ Below w1.heap.size w1 wr ∧ SlOwn pairS wr w1.heap.size 64 (.slice A5 n5 c5) ((rawF L l m).take k))
    (fun _ i _ => l.length - (intOf i).toNat)
  case atStart => exact ⟨0, none, 0, 0, Nat.zero_le _, rfl, rfl, Below.refl _ _, SlOwn.nil _ _ _ _⟩
  case round =>
    obtain ⟨k, A5, n5, c5, hk, rfl, rfl, hbr, hown⟩ := hrel
    have HBr := Lib.hid hbr
    have HOr := Lib.hid hown
    have hsr := hbr.size
    clear hbr hown
    by_cases hlt : k < l.length
    · obtain ⟨b0, off, rfl, l0, hc⟩ := (HA.out.below (HB1.out.trans (HBr.out.mono (by omega)))).int_at hlt
      have hx := List.getElem?_eq_getElem hlt
      have a0 := hc k _ hx
      have hsn := rawF_left L l m k _ hx
      have HTL : Hid (((rawF L l m).take k).length ≤ 16) := by show _ ≤ _; rw [List.length_take, rawF_len]; omega
      clear hc hx
      generalize l[k] = x at *
      have HSN := Lib.hid hsn
      have hkl : (k : Int) < (l.length : Int) := by omega
      clear hsn
      generalize (rawF L l m).take k = q at *
      go_wp2_with (at_builtin; go_must (refine wpList_append_slsv pairS _ rfl _ _ 26 rfl w1.heap.size 64 i0 _ 16 Try.underlying26 hi hz0 hz1 hz2 rfl (by decide) _ q rfl (SlOwn.below HOr.out ((Below.refl _ wr).alloc (Nat.le_refl _) _)) (some ⟨wr.heap.size, 0, none⟩) 1 1 [(x, -1)] rfl rfl (slAt_pair1 (heap_new (by simp))) (by have := HTL.out; simp only [List.length_cons, List.length_nil]; omega) (by simp; omega) ?_); intro A6 n6 k6 w6 hn6 hown6 hb6; have HO6 := Lib.hid hown6; have HB6 := Lib.hid hb6; clear hn6 hown6 hb6)
      go_roundw
      case rel => exact ⟨k + 1, A6, n6, k6, by omega, by go_num, rfl, HBr.out.trans (((Below.refl _ wr).alloc hsr _).trans HB6.out), by rw [HSN.out]; exact HO6.out⟩
      case measure => simp [intOf]; omega
    · obtain rfl : k = l.length := by omega
      have hkl : ¬ (l.length : Int) < (l.length : Int) := by omega
      go_wp2
      go_loopw [8, 51] (fun v i wr => ∃ (k : Nat) (A5 : Option Addr) (n5 c5 : Nat), k ≤ m.length ∧ i = .int .i64 k ∧ v = .slice A5 n5 c5 ∧ Below w1.heap.size w1 wr ∧ SlOwn pairS wr w1.heap.size 64 (.slice A5 n5 c5) ((rawF L l m).take (l.length + k)))
        (fun _ i _ => m.length - (intOf i).toNat)
      case atStart => exact ⟨0, A5, n5, c5, Nat.zero_le _, rfl, rfl, HBr.out, HOr.out⟩
      case round =>
        obtain ⟨k, A6, n6, c6, hk, rfl, rfl, hbr, hown⟩ := hrel
        have HBr := Lib.hid hbr
        have HOr := Lib.hid hown
        have hsr := hbr.size
        have z0 := Below.cell_some hbr z0
        have z1 := Below.cell_some hbr z1
        have g0 := (hbr.frozen (p := ⟨w.heap.size, 0, none⟩) (by simp only; omega)).trans g0
        have g1 := (hbr.frozen (p := ⟨w.heap.size, 1, none⟩) (by simp only; omega)).trans g1
        clear hbr hown
        by_cases hlt : k < m.length
        · obtain ⟨b0, off, rfl, l0, hc⟩ := (HB.out.below (HB1.out.trans (HBr.out.mono (by omega)))).int_at hlt
          have hx := List.getElem?_eq_getElem hlt
          have a0 := hc k _ hx
          have hbx := rowB_at HRM.out hx
          have hsn := rawF_right L l m k _ hx
          have HTL : Hid (((rawF L l m).take (l.length + k)).length ≤ 16) := by show _ ≤ _; rw [List.length_take, rawF_len]; omega
          clear hc hx
          generalize m[k] = x at *
          have HSN := Lib.hid hsn
          have hkl : (k : Int) < (m.length : Int) := by omega
          have hw : IntKind.i64.wrap (L - x) = L - x := IntWalk.i64_in _ (by omega)
          clear hsn
          generalize (rawF L l m).take (l.length + k) = q at *
          go_wp2_with (at_builtin; go_must (refine wpList_append_slsv pairS _ rfl _ _ 26 rfl w1.heap.size 64 i0 _ 16 Try.underlying26 hi hz0 hz1 hz2 rfl (by decide) _ q rfl (SlOwn.below HOr.out ((Below.refl _ wr).alloc (Nat.le_refl _) _)) (some ⟨wr.heap.size, 0, none⟩) 1 1 [(L - x, 1)] rfl rfl (slAt_pair1 (heap_new (by simp))) (by have := HTL.out; simp only [List.length_cons, List.length_nil]; omega) (by simp; omega) ?_); intro A7 n7 k7 w6 hn6 hown6 hb6; have HO6 := Lib.hid hown6; have HB6 := Lib.hid hb6; clear hn6 hown6 hb6)
          go_roundw
          case rel => exact ⟨k + 1, A7, n7, k7, by omega, by go_num, rfl, HBr.out.trans (((Below.refl _ wr).alloc hsr _).trans HB6.out), by rw [← Nat.add_assoc, HSN.out]; exact HO6.out⟩
          case measure => simp [intOf]; omega
        · obtain rfl : k = m.length := by omega
          have hkl : ¬ (m.length : Int) < (m.length : Int) := by omega
          have HE : Hid ((rawF L l m).take (l.length + m.length) = rawF L l m) := by show _ = _; rw [← rawF_len L l m, List.take_length]
          rw [HE.out] at HOr
          have HN : Hid (n6 = l.length + m.length) := (own_lenR HOr.out).trans (rawF_len L l m)
          have HSO := Lib.hid (sort_any (by rw [rawF_len]; omega) HOr.out)
          go_wp2_with fail
          refine HSO.out.mono ?_
          rintro e w7 ⟨rfl, ho7, hb7⟩
          have hb7' : Below wr.heap.size wr w7 ∨ True := .inr trivial
          have z0 := (hb7.cell (p := ⟨w.heap.size, 0, none⟩) (by simp only; omega)).trans z0
          have z1 := (hb7.cell (p := ⟨w.heap.size, 1, none⟩) (by simp only; omega)).trans z1
          have g0 := (hb7.frozen (p := ⟨w.heap.size, 0, none⟩) (by simp only; omega)).trans g0
          have g1 := (hb7.frozen (p := ⟨w.heap.size, 1, none⟩) (by simp only; omega)).trans g1
          have HB7 := Lib.hid (HB1.out.trans ((HBr.out.trans hb7).mono HB1.out.size))
          have HO7 := Lib.hid ho7
          clear hb7 hb7' ho7
          go_wp2
          refine bodyPost_ret (v := .tuple #[.agg #[.int .i64 L, .slice A6 n6 c6], .bool true]) (by simp [results, Try.results52, go_sem, z0, z1]) rfl ⟨A6, n6, c6, rfl, HN.out, ?_, (HB7.out.setCell (Nat.le_refl _) _).setCell (Nat.le_refl _) _⟩
          exact ownsRow_base (ownsRow_setCell_below (ownsRow_setCell_below HO7.out (by simp only; omega) _) (by simp only; omega) _) (by omega)
theorem implRodOfFalls_any (L : Int) (A : Option Addr) (c : Nat) (l : List Int) (B : Option Addr) (d : Nat) (m : List Int) (w : World) (hl : (l.length : Int) ≤ 1048576) (hm : (m.length : Int) ≤ 1048576) (hA : SlAt intS w A l) (hB : SlAt intS w B m) :
    Calls Try.prog 52 #[.int .i64 L, .slice A l.length c, .slice B m.length d] w fun e w' => ∃ A' n' c', e = .returned (.tuple #[.agg #[.int .i64 (rfL L l m), .slice A' n' c'], .bool (flB L l m)]) ∧ n' = (rfV L l m).length ∧ SlOwn pairS w' w.heap.size 64 (.slice A' n' c') (rfV L l m) ∧ Below w.heap.size w w' := by
  cases hg : flB L l m with
  | false =>
    have HV := flB_false hg
    refine (implRodOfFalls_out L A c l B d m w hl hm hg hA hB).mono ?_
    rintro e w' ⟨rfl, hb⟩
    exact ⟨none, 0, 0, by rw [HV.2], by rw [HV.1]; rfl, by rw [HV.1]; exact SlOwn.nil _ _ _ _, hb⟩
  | true =>
    have HV1 : rfV L l m = srtA (rawF L l m) := by unfold rfV; rw [hg]; rfl
    have HV2 : rfL L l m = L := by unfold rfL; rw [hg]; rfl
    rw [HV1, HV2, srtA_len, rawF_len]
    exact implRodOfFalls_in L A c l B d m w hg hA hB
end Go.Proofs.Ytiledncedekefaa
