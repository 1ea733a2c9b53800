/- spec.stRod: the rod of ways that are told by bits. -/
import Derived.Test.YtodcacifpjakdaaPlac
import Derived.Test.YtodcacifpjakdaaBits
import Derived.Test.YtodcacifpjakdaaStep
import Derived.Test.YtodcacifpjakdaaMark
namespace Go.Proofs.Ytodcacifpjakdaa
open Go.RowKit

/-- the ants at places that go those ways -/
def rdL (l : List Int) (ys : List Int) : List (Int × Int) := l.zip ys
theorem rdL_snoc (l ys : List Int) (k : Nat) (x y : Int) (hx : l[k]? = some x) (hy : ys[k]? = some y) : (rdL l ys).take (k + 1) = (rdL l ys).take k ++ [(x, y)] := by
  have h : (rdL l ys)[k]? = some (x, y) := by
    unfold rdL
    rw [List.getElem?_zip_eq_some]
    exact ⟨hx, hy⟩
  obtain ⟨hk, h2⟩ := List.getElem?_eq_some_iff.1 h
  rw [List.take_succ_eq_append_getElem hk, h2]
theorem slAt_pair1 {w : World} {g : Nat} {x y : Int} {e : TypeId} {m : Nat × Nat} (h : w.heap[g]? = some (.cells #[.int .i64 x, .int .i64 y] e m)) : SlAt pairS w (some ⟨g, 0, none⟩) [(x, y)] := by
  refine .inr ⟨g, 0, rfl, (Array.getElem?_eq_some_iff.1 h).1, fun k z hk j hj => ?_⟩
  cases k with
  | succ k => simp at hk
  | zero =>
    simp only [List.getElem?_cons_zero, Option.some.injEq] at hk
    subst hk
    simp only [Nat.zero_mul, Nat.zero_add]
    rw [cell_of_row w g j _ _ _ h, ← Array.getElem?_toList]
    rfl

theorem own_lenR {α : Type} {S : Shape α} {w : World} {B n c : Nat} {e : TypeId} {A : Option Addr} {l : List α} (h : SlOwn S w B e (.slice A n c) l) : n = l.length := by
  rcases h.2 with ⟨h', h0⟩ | ⟨g, cap, cur, hv, _⟩
  · simp only [Value.slice.injEq] at h'; omega
  · simp only [Value.slice.injEq] at hv; exact hv.2.1
theorem and1 (n : Nat) (h : n < 9223372036854775808) : bits BinOp.and IntKind.i64 (n : Int) 1 = ((n % 2 : Nat) : Int) := by
  unfold bits
  have h2 : (BitVec.ofInt 64 (n : Int) &&& BitVec.ofInt 64 1).toNat = n % 2 := by
    rw [BitVec.toNat_and, BitVec.toNat_ofInt, BitVec.toNat_ofInt]
    have e1 : ((n : Int) % ((2 ^ 64 : Nat) : Int)).toNat = n := by omega
    rw [e1]
    show n &&& 1 = n % 2
    exact Nat.and_one_is_mod n
  show IntKind.i64.wrap (((BitVec.ofInt 64 (n : Int) &&& BitVec.ofInt 64 1).toNat : Nat) : Int) = _
  rw [h2]
  exact IntWalk.i64_in _ (by omega)
theorem bit_at (k e : Nat) (h : (k : Int) ≤ 4096) : (bits BinOp.and IntKind.i64 ((k : Int) / 2 ^ e) 1 == 1) = decide (k / 2 ^ e % 2 = 1) := by
  have e1 : (k : Int) / 2 ^ e = ((k / 2 ^ e : Nat) : Int) := by
    rw [Int.natCast_ediv, Int.natCast_pow]; rfl
  have h2 : k / 2 ^ e ≤ k := Nat.div_le_self _ _
  rw [e1, and1 _ (by omega)]
  by_cases h3 : k / 2 ^ e % 2 = 1
  · rw [h3]; simp
  · have h4 : k / 2 ^ e % 2 = 0 := by omega
    rw [h4]; simp

set_option maxRecDepth 100000 in
set_option maxHeartbeats 2000000 in
theorem stRod_any (L : Int) (A : Option Addr) (c : Nat) (l : List Int) (bits : Nat) (w : World) (hn : l.length ≤ 12) (hbits : bits < 2 ^ l.length) (hA : SlAt intS w A l) :
    Calls Try.prog 28 #[.int .i64 L, .slice A l.length c, .int .i64 bits] w fun e w' => ∃ A' n' c', e = .returned (.agg #[.int .i64 L, .slice A' n' c']) ∧ n' = l.length ∧ SlOwn pairS w' w.heap.size 62 (.slice A' n' c') (rdL l (wyN l.length bits)) ∧ Below w.heap.size w w' := by
  obtain ⟨i0, hi, hz0, hz1, hz2⟩ := info_parts antI
  have HA := Lib.hid hA
  clear hA
  have hyl : (wyN l.length bits).length = l.length := wyN_len _ _
  have hrl : (rdL l (wyN l.length bits)).length = l.length := by unfold rdL; rw [List.length_zip, hyl]; omega
  have HYA := Lib.hid (fun i (h : i < l.length) => wyN_at l.length bits i h)
  have hb12 : (bits : Int) ≤ 4096 := by
    have : 2 ^ l.length ≤ 2 ^ 12 := Nat.pow_le_pow_right (by omega) hn
    omega
  have HRL := Lib.hid hrl
  have HYL := Lib.hid hyl
  clear hrl hyl hbits
  generalize hys : wyN l.length bits = ys at *
  clear hys
  go_enter Try.func28, Try.ntmps28
  go_wp2
  go_loopw [18] (fun i wr => ∃ (k : Nat) (A5 : Option Addr) (n5 c5 : Nat), k ≤ l.length ∧ i = .int .i64 k ∧ Below w.heap.size w wr ∧ w.heap.size + 1 < wr.heap.size ∧
      wr.cell? ⟨w.heap.size, 0, none⟩ = some (.int .i64 0) ∧ wr.cell? ⟨w.heap.size, 1, none⟩ = some (.slice none 0 0) ∧ wr.frozen? ⟨w.heap.size, 0, none⟩ = false ∧ wr.frozen? ⟨w.heap.size, 1, none⟩ = false ∧
      wr.cell? ⟨w.heap.size + 1, 0, none⟩ = some (.int .i64 L) ∧ wr.cell? ⟨w.heap.size + 1, 1, none⟩ = some (.slice A5 n5 c5) ∧ wr.frozen? ⟨w.heap.size + 1, 0, none⟩ = false ∧ wr.frozen? ⟨w.heap.size + 1, 1, none⟩ = false ∧
      SlOwn pairS wr (w.heap.size + 2) 62 (.slice A5 n5 c5) ((rdL l ys).take k))
    (fun i _ => l.length - (intOf i).toNat)
  case atStart => exact ⟨0, none, 0, 0, Nat.zero_le _, rfl, ((Below.refl _ _).alloc (Nat.le_refl _) _).alloc (by simp) _, by simp, by simp, by simp, by simp, by simp, by simp, by simp, by simp, by simp, SlOwn.nil _ _ _ _⟩
  case round =>
    obtain ⟨k, A5, n5, c5, hk, rfl, hb, hsz, z0, z1, y0, y1, r0, r1, g0, g1, hown⟩ := hrel
    have HB := Lib.hid hb
    have HO := Lib.hid hown
    clear hown
    by_cases hlt : k < l.length
    · obtain ⟨b, off, rfl, l0, hc⟩ := (HA.out.below hb).int_at hlt
      have a0 := hc k _ (List.getElem?_eq_getElem hlt)
      have hsn := rdL_snoc l ys k _ _ (List.getElem?_eq_getElem hlt) (List.getElem?_eq_getElem (show k < ys.length by rw [HYL.out]; exact hlt))
      have hya := HYA.out k hlt
      rw [List.getD_eq_getElem?_getD, List.getElem?_eq_getElem (show k < ys.length by rw [HYL.out]; exact hlt)] at hya
      simp only [Option.getD_some] at hya
      have HTL : Hid (((rdL l ys).take k).length ≤ 12) := by have := HRL.out; show _ ≤ _; rw [List.length_take]; omega
      clear hc
      generalize l[k] = x at *
      generalize ys[k]'(by rw [HYL.out]; exact hlt) = y at *
      have HSN := Lib.hid hsn
      have HYV := Lib.hid hya
      clear hsn hya hb
      generalize (rdL l ys).take k = m at *
      have q1 : 0 ≤ (l.length : Int) - 1 - k := by omega
      have q2 : (l.length : Int) - 1 - k ≤ 64 := by omega
      have HW : Hid (∀ (W : World) (v : Value), Below (w.heap.size + 2) wr W → ((W.setCell ⟨w.heap.size + 1, 1, none⟩ v).cell? ⟨w.heap.size, 0, none⟩ = some (.int .i64 0) ∧ (W.setCell ⟨w.heap.size + 1, 1, none⟩ v).cell? ⟨w.heap.size, 1, none⟩ = some (.slice none 0 0) ∧
          (W.setCell ⟨w.heap.size + 1, 1, none⟩ v).frozen? ⟨w.heap.size, 0, none⟩ = false ∧ (W.setCell ⟨w.heap.size + 1, 1, none⟩ v).frozen? ⟨w.heap.size, 1, none⟩ = false ∧ (W.setCell ⟨w.heap.size + 1, 1, none⟩ v).cell? ⟨w.heap.size + 1, 0, none⟩ = some (.int .i64 L) ∧ (W.setCell ⟨w.heap.size + 1, 1, none⟩ v).cell? ⟨w.heap.size + 1, 1, none⟩ = some v ∧
          (W.setCell ⟨w.heap.size + 1, 1, none⟩ v).frozen? ⟨w.heap.size + 1, 0, none⟩ = false ∧ (W.setCell ⟨w.heap.size + 1, 1, none⟩ v).frozen? ⟨w.heap.size + 1, 1, none⟩ = false)) := by
        show ∀ _ _ _, _
        intro W v hW
        have t0 := (hW.cell (p := ⟨w.heap.size, 0, none⟩) (by simp)).trans z0
        have t1 := (hW.cell (p := ⟨w.heap.size, 1, none⟩) (by simp)).trans z1
        have t2 := (hW.frozen (p := ⟨w.heap.size, 0, none⟩) (by simp)).trans y0
        have t3 := (hW.frozen (p := ⟨w.heap.size, 1, none⟩) (by simp)).trans y1
        have t4 := (hW.cell (p := ⟨w.heap.size + 1, 0, none⟩) (by simp)).trans r0
        have t5 := (hW.cell (p := ⟨w.heap.size + 1, 1, none⟩) (by simp)).trans r1
        have t6 := (hW.frozen (p := ⟨w.heap.size + 1, 0, none⟩) (by simp)).trans g0
        have t7 := (hW.frozen (p := ⟨w.heap.size + 1, 1, none⟩) (by simp)).trans g1
        exact ⟨(World.cell?_setCell_other _ _ _ _ (by simp)).trans t0, (World.cell?_setCell_other _ _ _ _ (by simp)).trans t1, by simpa using t2, by simpa using t3, (World.cell?_setCell_other _ _ _ _ (by simp)).trans t4, World.cell?_setCell_same _ _ _ t5, by simpa using t6, by simpa using t7⟩
      have HF : Hid (∀ W : World, Below (w.heap.size + 2) wr W → W.cell? ⟨w.heap.size + 1, 1, none⟩ = some (.slice A5 n5 c5) ∧ W.frozen? ⟨w.heap.size + 1, 1, none⟩ = false) := fun W hW =>
        ⟨(hW.cell (p := ⟨w.heap.size + 1, 1, none⟩) (by simp)).trans r1, (hW.frozen (p := ⟨w.heap.size + 1, 1, none⟩) (by simp)).trans g1⟩
      have hbt := bit_at bits (l.length - 1 - k) hb12
      by_cases hone : bits / 2 ^ (l.length - 1 - k) % 2 = 1
      · rw [decide_eq_true hone] at hbt
        have HY : Hid (y = 1) := by show _ = _; rw [HYV.out, if_pos hone]
        clear hone
        go_wp2_with (at_builtin; go_must (refine wpList_append_slsv pairS _ rfl _ _ 48 rfl (w.heap.size + 2) 62 i0 _ 16 Try.underlying48 hi hz0 hz1 hz2 rfl (by decide) _ m rfl (SlOwn.below HO.out ((Below.refl _ wr).alloc (Nat.le_refl _) _)) (some ⟨wr.heap.size, 0, none⟩) 1 1 [(x, 1)] rfl rfl (slAt_pair1 (heap_new (by simp))) (by have := HTL.out; simp only [List.length_cons, List.length_nil]; omega) (by simp; omega) ?_); intro A6 n6 k6 w6 hn6 hown6 hb6; have HO6 := Lib.hid hown6; have HB6 : Hid (Below (w.heap.size + 2) wr w6) := ((Below.refl _ wr).alloc (by omega) _).trans hb6; obtain ⟨p5, p6⟩ := HF.out w6 HB6.out; clear hn6 hown6 hb6)
        obtain ⟨t0, t1, t2, t3, t4, t5, t6, t7⟩ := HW.out w6 (.slice A6 n6 k6) HB6.out
        go_roundw
        case rel =>
          refine ⟨k + 1, A6, n6, k6, by omega, by go_num, (HB.out.trans (HB6.out.mono (by omega))).setCell (by simp) _, by have := HB6.out.size; simp; omega, t0, t1, t2, t3, t4, t5, t6, t7, ?_⟩
          rw [HSN.out, HY.out]
          exact ownsRow_setCell_below HO6.out (by simp) _
        case measure => simp [intOf]; omega
      · rw [decide_eq_false hone] at hbt
        have HY : Hid (y = -1) := by show _ = _; rw [HYV.out, if_neg hone]
        clear hone
        go_wp2_with (at_builtin; go_must (refine wpList_append_slsv pairS _ rfl _ _ 48 rfl (w.heap.size + 2) 62 i0 _ 16 Try.underlying48 hi hz0 hz1 hz2 rfl (by decide) _ m rfl (SlOwn.below HO.out ((Below.refl _ wr).alloc (Nat.le_refl _) _)) (some ⟨wr.heap.size, 0, none⟩) 1 1 [(x, -1)] rfl rfl (slAt_pair1 (heap_new (by simp))) (by have := HTL.out; simp only [List.length_cons, List.length_nil]; omega) (by simp; omega) ?_); intro A6 n6 k6 w6 hn6 hown6 hb6; have HO6 := Lib.hid hown6; have HB6 : Hid (Below (w.heap.size + 2) wr w6) := ((Below.refl _ wr).alloc (by omega) _).trans hb6; obtain ⟨p5, p6⟩ := HF.out w6 HB6.out; clear hn6 hown6 hb6)
        obtain ⟨t0, t1, t2, t3, t4, t5, t6, t7⟩ := HW.out w6 (.slice A6 n6 k6) HB6.out
        go_roundw
        case rel =>
          refine ⟨k + 1, A6, n6, k6, by omega, by go_num, (HB.out.trans (HB6.out.mono (by omega))).setCell (by simp) _, by have := HB6.out.size; simp; omega, t0, t1, t2, t3, t4, t5, t6, t7, ?_⟩
          rw [HSN.out, HY.out]
          exact ownsRow_setCell_below HO6.out (by simp) _
        case measure => simp [intOf]; omega
    · obtain rfl : k = l.length := by omega
      have HE : Hid ((rdL l ys).take l.length = rdL l ys) := by show _ = _; rw [← HRL.out, List.take_length]
      rw [HE.out] at HO
      have HN : Hid (n5 = l.length) := (own_lenR HO.out).trans HRL.out
      go_wp2
      exact bodyPost_ret (v := .agg #[.int .i64 L, .slice A5 n5 c5]) (by simp [results, Try.results28, go_sem, z0, z1]) rfl ⟨A5, n5, c5, rfl, HN.out, ownsRow_base (ownsRow_setCell_below (ownsRow_setCell_below HO.out (by simp) _) (by simp) _) (by omega), (HB.out.setCell (by simp) _).setCell (by simp) _⟩
end Go.Proofs.Ytodcacifpjakdaa
