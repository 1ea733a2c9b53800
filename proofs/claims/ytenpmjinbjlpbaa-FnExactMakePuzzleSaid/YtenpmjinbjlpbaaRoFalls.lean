/- The model's falls: roEnd, roFalls. -/
import Derived.Test.YtenpmjinbjlpbaaFallAs
namespace Go.Proofs.Ytenpmjinbjlpbaa
open Go.RowKit

theorem roEnd_any (a y L : Int) (hg : GoodGhost (a, y, L)) (w : World) :
    Calls Try.prog 60 #[.int .i64 L, .agg #[.int .i64 a, .int .i64 y]] w fun e w' => e = .returned (.int .i64 (ft (a, y, L))) ∧ Below w.heap.size w w' := by
  obtain ⟨h1, h2, h3, h4, h5⟩ := hg
  simp only at h1 h2 h3 h4 h5
  rcases h5 with rfl | rfl
  · go_enter Try.func60, Try.ntmps60
    go_wp2
    go_ret
    exact ⟨ret_int rfl, (Below.refl _ w).alloc (Nat.le_refl _) _⟩
  · go_enter Try.func60, Try.ntmps60
    go_wp2
    go_ret
    exact ⟨ret_int rfl, (Below.refl _ w).alloc (Nat.le_refl _) _⟩

set_option maxRecDepth 100000 in
set_option maxHeartbeats 2000000 in
theorem roFalls_good (L : Int) (A : Option Addr) (c : Nat) (l : List (Int × Int)) (w : World) (hg : goodB L l = true) (hA : AntsAt w A l) :
    Calls Try.prog 42 #[.agg #[.int .i64 L, .slice A l.length c]] w fun e w' => ∃ A' n c', e = .returned (.slice A' n c') ∧ n = (fallsOf L l).length ∧ SlOwn intS w' w.heap.size 3 (.slice A' n c') (fallsOf L l) ∧ Below w.heap.size w w' := by
  obtain ⟨i0, hi, hz0, hz1, hz2⟩ := info_parts intInfo
  have hn := good_len hg
  have HLL : Hid (2 ≤ L ∧ L ≤ 1000) := ⟨(good_hdr hg).1, (good_hdr hg).2.1⟩
  have HGG := Lib.hid hg
  clear hg
  obtain ⟨W, hW⟩ : ∃ W, W = (w.alloc (Obj.cells #[Value.int IntKind.i64 L, Value.slice A l.length c] 47)).alloc (Obj.cells #[Value.int IntKind.i64 (-1), Value.int IntKind.i64 1] 3) := ⟨_, rfl⟩
  have hWs : W.heap.size = w.heap.size + 2 := by rw [hW]; simp
  have C0 : Hid (W.cell? ⟨w.heap.size, 0, none⟩ = some (.int .i64 L)) := by show _ = _; rw [hW]; simp [go_sem]
  have C1 : Hid (W.cell? ⟨w.heap.size, 1, none⟩ = some (.slice A l.length c)) := by show _ = _; rw [hW]; simp [go_sem]
  have W0 : Hid (W.cell? ⟨w.heap.size + 1, 0, none⟩ = some (.int .i64 (-1))) := by show _ = _; rw [hW]; simp [go_sem]
  have W1 : Hid (W.cell? ⟨w.heap.size + 1, 1, none⟩ = some (.int .i64 1)) := by show _ = _; rw [hW]; simp [go_sem]
  have HBW : Hid (Below w.heap.size w W) := by show Below _ _ _; rw [hW]; exact ((Below.refl _ _).alloc (Nat.le_refl _) _).alloc (by simp) _
  have HA := Lib.hid (hA.below HBW.out)
  clear hA
  go_enter Try.func42, Try.ntmps42
  go_wp2
  rw [← hW]
  have HPL : Hid (([] : List Int).length ≤ 16) := by show _ ≤ _; simp
  have HPL0 := HPL
  have HBS : Hid (Below (w.heap.size + 2) W W) := Below.refl _ _
  have HOS : Hid (SlOwn intS W (w.heap.size + 2) 3 (.slice none 0 0) (([] : List Int) ++ (way (-1) (gsOf L (l.take 0))).map ft)) := by
    show SlOwn _ _ _ _ _ _
    simpa [gsOf_nil, way] using SlOwn.nil intS W (w.heap.size + 2) 3
  have c0 := C0.out
  have c1 := C1.out
  have w0 := W0.out
  have w1 := W1.out
  have hs1 : w.heap.size < W.heap.size := by omega
  have hs2 : w.heap.size + 1 < W.heap.size := by omega
  have HWE := Lib.hid hW
  have hWs' := Lib.hid hWs
  clear hW
  refine wp_loop_rounds 3 ?_
  rw [rounds_succ]
  go_wp2
  go_loopw [3, 17] (fun v i wr => ∃ k : Nat, k ≤ l.length ∧ i = .int .i64 k ∧ Below (w.heap.size + 2) W wr ∧ SlOwn intS wr (w.heap.size + 2) 3 v (([] : List Int) ++ (way (-1) (gsOf L (l.take k))).map ft))
    (fun _ i _ => l.length - (intOf i).toNat)
  case atStart => exact ⟨0, Nat.zero_le _, rfl, HBS.out, HOS.out⟩
  case round =>
    obtain ⟨k, hk, rfl, hb, hown⟩ := hrel
    have HB := Lib.hid hb
    have hs := hb.size
    have hs1 : w.heap.size < wr.heap.size := by omega
    have hs2 : w.heap.size + 1 < wr.heap.size := by omega
    have c0 : wr.cell? ⟨w.heap.size, 0, none⟩ = some (.int .i64 L) := (hb.cell (p := ⟨w.heap.size, 0, none⟩) (by simp)).trans C0.out
    have c1 : wr.cell? ⟨w.heap.size, 1, none⟩ = some (.slice A l.length c) := (hb.cell (p := ⟨w.heap.size, 1, none⟩) (by simp)).trans C1.out
    have w0 : wr.cell? ⟨w.heap.size + 1, 0, none⟩ = some (.int .i64 (-1)) := (hb.cell (p := ⟨w.heap.size + 1, 0, none⟩) (by simp)).trans W0.out
    have w1 : wr.cell? ⟨w.heap.size + 1, 1, none⟩ = some (.int .i64 1) := (hb.cell (p := ⟨w.heap.size + 1, 1, none⟩) (by simp)).trans W1.out
    have HAr := Lib.hid (HA.out.below (hb.mono (by omega)))
    clear hb
    obtain ⟨A3, k3, rfl, hat, hin⟩ := hown.form
    have hlen : (([] : List Int) ++ (way (-1) (gsOf L (l.take k))).map ft).length ≤ 100 := by
      have h1 := way_len (-1) (gsOf L (l.take k))
      rw [gsOf_len] at h1
      have h2 : (l.take k).length ≤ k := List.length_take_le _ _
      have h3 := HPL.out
      simp only [List.length_append, List.length_map, List.length_nil] at *
      omega
    obtain ⟨N, hN⟩ : ∃ N, N = (([] : List Int) ++ (way (-1) (gsOf L (l.take k))).map ft).length := ⟨_, rfl⟩
    rw [← hN] at hown hlen
    rw [← hN]
    have HN := Lib.hid hN
    have HOW := Lib.hid hown
    clear hown hat hin hN
    by_cases hlt : k < l.length
    · obtain ⟨b, off, rfl, l0, hc⟩ := HAr.out.at_ hlt
      obtain ⟨a0, a1⟩ := hc k hlt
      have hx : l[k]? = some (l.getD k (0, 0)) := by rw [List.getD_eq_getElem?_getD, List.getElem?_eq_getElem hlt]; rfl
      have HT := Lib.hid (gsOf_take L l k _ hx)
      have hgd := good_ant HGG.out hx
      clear hc hx
      generalize l.getD k (0, 0) = x at *
      obtain ⟨x1, x2⟩ := x
      simp only at a0 a1 hgd
      have HGD := Lib.hid hgd
      clear hgd
      cases hy : (x2 == -1) with
      | false =>
        have HW : Hid (way (-1) (gsOf L (l.take (k + 1))) = way (-1) (gsOf L (l.take k))) := by
          show _ = _
          rw [HT.out]; exact way_snoc_no _ _ _ hy
        go_wp2
        go_roundw
        case rel =>
          refine ⟨k + 1, by omega, by go_num, HB.out.trans ((Below.refl _ _).alloc (by omega) _), ?_⟩
          rw [HW.out]
          exact HOW.out.below ((Below.refl _ _).alloc (Nat.le_refl _) _)
        case measure => simp [intOf]; omega
      | true =>
        have HW : Hid (way (-1) (gsOf L (l.take (k + 1))) = way (-1) (gsOf L (l.take k)) ++ [(x1, x2, L)]) := by
          show _ = _
          rw [HT.out]; exact way_snoc_yes _ _ _ hy
        have HE : Hid (∀ X, Calls Try.prog 60 #[.int .i64 L, .agg #[.int .i64 x1, .int .i64 x2]] X fun e w' => e = .returned (.int .i64 (ft (x1, x2, L))) ∧ Below X.heap.size X w') :=
          fun X => roEnd_any x1 x2 L ⟨HGD.out.1, HGD.out.2.1, HLL.out.1, HLL.out.2, HGD.out.2.2.2⟩ X
        go_wp2_with fail
        refine (HE.out _).mono ?_
        rintro e w3 ⟨rfl, hb3⟩
        have HB3 := Lib.hid (((Below.refl _ wr).alloc (Nat.le_refl _) _).trans (hb3.mono (by simp)))
        clear hb3
        go_wp2_with (at_builtin; refine wpList_append_sl intS _ rfl _ _ 22 rfl (w.heap.size + 2) 3 i0 _ 8 Try.underlying22 hi hz0 hz1 hz2 rfl (by decide) _ _ rfl ((HOW.out.below HB3.out).below ((Below.refl _ _).alloc (Nat.le_refl _) _)) w3.heap.size (ft (x1, x2, L)) #[.int .i64 (ft (x1, x2, L))] _ _ rfl (heap_new rfl) rfl (by have := HN.out; omega) (by have := HB3.out.size; simp; omega) ?_; intro A5 k5 w5 hown5 hb5 hg5)
        go_roundw
        case rel =>
          refine ⟨k + 1, by omega, by go_num, ?_, ?_⟩
          · exact HB.out.trans ((HB3.out.mono (by omega)).trans (((Below.refl _ _).alloc (by have := HB3.out.size; omega) _).trans hb5))
          · rw [HW.out, List.map_append, ← List.append_assoc]; simpa using hown5
        case measure => simp [intOf]; omega
    · obtain rfl : k = l.length := by omega
      rw [List.take_length] at HN HOW
      have HPL : Hid (((way (-1) (gsOf L l)).map ft).length ≤ 16) := by
        show _ ≤ _
        have h1 := way_len (-1) (gsOf L l)
        rw [gsOf_len] at h1
        rw [List.length_map]; omega
      have HBS := HB
      have HOS : Hid (SlOwn intS wr (w.heap.size + 2) 3 (.slice A3 N k3) ((way (-1) (gsOf L l)).map ft ++ (way 1 (gsOf L (l.take 0))).map ft)) := by
        show SlOwn _ _ _ _ _ _
        have := HOW.out
        simpa [gsOf_nil, way] using this
      have HWR := Lib.hid hs
      clear HN HPL0
      go_wp2
      rw [rounds_succ]
      go_wp2
      go_loopw [3, 17] (fun v i wr => ∃ k : Nat, k ≤ l.length ∧ i = .int .i64 k ∧ Below (w.heap.size + 2) W wr ∧ SlOwn intS wr (w.heap.size + 2) 3 v ((way (-1) (gsOf L l)).map ft ++ (way (1) (gsOf L (l.take k))).map ft))
        (fun _ i _ => l.length - (intOf i).toNat)
      case atStart => exact ⟨0, Nat.zero_le _, rfl, HBS.out, HOS.out⟩
      case round =>
        obtain ⟨k, hk, rfl, hb, hown⟩ := hrel
        have HB := Lib.hid hb
        have hs := hb.size
        have hs1 : w.heap.size < wr.heap.size := by omega
        have hs2 : w.heap.size + 1 < wr.heap.size := by omega
        have c0 : wr.cell? ⟨w.heap.size, 0, none⟩ = some (.int .i64 L) := (hb.cell (p := ⟨w.heap.size, 0, none⟩) (by simp)).trans C0.out
        have c1 : wr.cell? ⟨w.heap.size, 1, none⟩ = some (.slice A l.length c) := (hb.cell (p := ⟨w.heap.size, 1, none⟩) (by simp)).trans C1.out
        have w0 : wr.cell? ⟨w.heap.size + 1, 0, none⟩ = some (.int .i64 (-1)) := (hb.cell (p := ⟨w.heap.size + 1, 0, none⟩) (by simp)).trans W0.out
        have w1 : wr.cell? ⟨w.heap.size + 1, 1, none⟩ = some (.int .i64 1) := (hb.cell (p := ⟨w.heap.size + 1, 1, none⟩) (by simp)).trans W1.out
        have HAr := Lib.hid (HA.out.below (hb.mono (by omega)))
        clear hb
        obtain ⟨A3, k3, rfl, hat, hin⟩ := hown.form
        have hlen : ((way (-1) (gsOf L l)).map ft ++ (way (1) (gsOf L (l.take k))).map ft).length ≤ 100 := by
          have h1 := way_len (1) (gsOf L (l.take k))
          rw [gsOf_len] at h1
          have h2 : (l.take k).length ≤ k := List.length_take_le _ _
          have h3 := HPL.out
          simp only [List.length_append, List.length_map, List.length_nil] at *
          omega
        obtain ⟨N, hN⟩ : ∃ N, N = ((way (-1) (gsOf L l)).map ft ++ (way (1) (gsOf L (l.take k))).map ft).length := ⟨_, rfl⟩
        rw [← hN] at hown hlen
        rw [← hN]
        have HN := Lib.hid hN
        have HOW := Lib.hid hown
        clear hown hat hin hN
        by_cases hlt : k < l.length
        · obtain ⟨b, off, rfl, l0, hc⟩ := HAr.out.at_ hlt
          obtain ⟨a0, a1⟩ := hc k hlt
          have hx : l[k]? = some (l.getD k (0, 0)) := by rw [List.getD_eq_getElem?_getD, List.getElem?_eq_getElem hlt]; rfl
          have HT := Lib.hid (gsOf_take L l k _ hx)
          have hgd := good_ant HGG.out hx
          clear hc hx
          generalize l.getD k (0, 0) = x at *
          obtain ⟨x1, x2⟩ := x
          simp only at a0 a1 hgd
          have HGD := Lib.hid hgd
          clear hgd
          cases hy : (x2 == 1) with
          | false =>
            have HW : Hid (way (1) (gsOf L (l.take (k + 1))) = way (1) (gsOf L (l.take k))) := by
              show _ = _
              rw [HT.out]; exact way_snoc_no _ _ _ hy
            go_wp2
            go_roundw
            case rel =>
              refine ⟨k + 1, by omega, by go_num, HB.out.trans ((Below.refl _ _).alloc (by omega) _), ?_⟩
              rw [HW.out]
              exact HOW.out.below ((Below.refl _ _).alloc (Nat.le_refl _) _)
            case measure => simp [intOf]; omega
          | true =>
            have HW : Hid (way (1) (gsOf L (l.take (k + 1))) = way (1) (gsOf L (l.take k)) ++ [(x1, x2, L)]) := by
              show _ = _
              rw [HT.out]; exact way_snoc_yes _ _ _ hy
            have HE : Hid (∀ X, Calls Try.prog 60 #[.int .i64 L, .agg #[.int .i64 x1, .int .i64 x2]] X fun e w' => e = .returned (.int .i64 (ft (x1, x2, L))) ∧ Below X.heap.size X w') :=
              fun X => roEnd_any x1 x2 L ⟨HGD.out.1, HGD.out.2.1, HLL.out.1, HLL.out.2, HGD.out.2.2.2⟩ X
            go_wp2_with fail
            refine (HE.out _).mono ?_
            rintro e w3 ⟨rfl, hb3⟩
            have HB3 := Lib.hid (((Below.refl _ wr).alloc (Nat.le_refl _) _).trans (hb3.mono (by simp)))
            clear hb3
            go_wp2_with (at_builtin; refine wpList_append_sl intS _ rfl _ _ 22 rfl (w.heap.size + 2) 3 i0 _ 8 Try.underlying22 hi hz0 hz1 hz2 rfl (by decide) _ _ rfl ((HOW.out.below HB3.out).below ((Below.refl _ _).alloc (Nat.le_refl _) _)) w3.heap.size (ft (x1, x2, L)) #[.int .i64 (ft (x1, x2, L))] _ _ rfl (heap_new rfl) rfl (by have := HN.out; omega) (by have := HB3.out.size; simp; omega) ?_; intro A5 k5 w5 hown5 hb5 hg5)
            go_roundw
            case rel =>
              refine ⟨k + 1, by omega, by go_num, ?_, ?_⟩
              · exact HB.out.trans ((HB3.out.mono (by omega)).trans (((Below.refl _ _).alloc (by have := HB3.out.size; omega) _).trans hb5))
              · rw [HW.out, List.map_append, ← List.append_assoc]; simpa using hown5
            case measure => simp [intOf]; omega
        · obtain rfl : k = l.length := by omega
          rw [List.take_length] at HN HOW
          go_wp2
          rw [rounds_succ]
          go_wp2
          go_ret
          exact ⟨A3, N, k3, rfl, (by rw [HN.out]; simp [fallsOf, fallAs]), by have := HOW.out; simpa [fallsOf, fallAs] using this.base (B' := w.heap.size) (by omega), HBW.out.trans (HB.out.mono (by omega))⟩

end Go.Proofs.Ytenpmjinbjlpbaa
