/- Rods of ways on the model's side: pzRod. -/
import Derived.Test.YtiodlclaempihaaPuzC
import Derived.Test.YtiodlclaempihaaStep
import Derived.Test.YtiodlclaempihaaBits
namespace Go.Proofs.Ytiodlclaempihaa
open Go.RowKit

/-- the ants at places that go those ways -/
def rdP (l : List Int) (ys : List Int) : List (Int × Int) := l.zip ys
theorem rdP_snoc (l ys : List Int) (k : Nat) (x y : Int) (hx : l[k]? = some x) (hy : ys[k]? = some y) : (rdP l ys).take (k + 1) = (rdP l ys).take k ++ [(x, y)] := by
  have h : (rdP l ys)[k]? = some (x, y) := by
    unfold rdP
    rw [List.getElem?_zip_eq_some]
    exact ⟨hx, hy⟩
  obtain ⟨hk, h2⟩ := List.getElem?_eq_some_iff.1 h
  rw [List.take_succ_eq_append_getElem hk, h2]
theorem slAt_pairP {w : World} {g : Nat} {x y : Int} {e : TypeId} {m : Nat × Nat} (h : w.heap[g]? = some (.cells #[.int .i64 x, .int .i64 y] e m)) : SlAt pairS w (some ⟨g, 0, none⟩) [(x, y)] := by
  refine .inr ⟨g, 0, rfl, (Array.getElem?_eq_some_iff.1 h).1, fun k z hk j hj => ?_⟩
  cases k with
  | succ k => simp at hk
  | zero =>
    simp only [List.getElem?_cons_zero, Option.some.injEq] at hk
    subst hk
    simp only [Nat.zero_mul, Nat.zero_add]
    rw [cell_of_row w g j _ _ _ h, ← Array.getElem?_toList]
    rfl
theorem own_lenP {α : Type} {S : Shape α} {w : World} {B n c : Nat} {e : TypeId} {A : Option Addr} {l : List α} (h : SlOwn S w B e (.slice A n c) l) : n = l.length := by
  rcases h.2 with ⟨h', h0⟩ | ⟨g, cap, cur, hv, _⟩
  · simp only [Value.slice.injEq] at h'; omega
  · simp only [Value.slice.injEq] at hv; exact hv.2.1
/-- the ways that letters tell -/
def ysB (b : List UInt8) : List Int := b.map fun u => if u = 108 then -1 else 1
theorem ysB_len (b : List UInt8) : (ysB b).length = b.length := by simp [ysB]
theorem ysB_at (b : List UInt8) (k : Nat) (h : k < b.length) : (ysB b)[k]? = some (if (b.getD k 0).toNat = 108 then -1 else 1) := by
  unfold ysB
  rw [List.getElem?_map, List.getD_eq_getElem?_getD, List.getElem?_eq_getElem h]
  show some _ = some _
  congr 1
  show (if b[k] = 108 then (-1 : Int) else 1) = if (b[k]).toNat = 108 then -1 else 1
  by_cases hu : b[k] = 108
  · rw [if_pos hu, if_pos (by rw [hu]; rfl)]
  · rw [if_neg hu, if_neg (fun h2 => hu (UInt8.toNat_inj.mp (by rw [h2]; rfl)))]
theorem byte_at (s : ByteArray) : ∀ (n : Nat) (h : n < s.size), ((s[n]'h).toNat : Int) = ((s.data.toList.getD n 0).toNat : Int) := fun n h => by
  have h' : n < s.data.size := h
  rw [List.getD_eq_getElem?_getD, Array.getElem?_toList, Array.getElem?_eq_getElem h']
  rfl

set_option maxRecDepth 100000 in
set_option maxHeartbeats 2000000 in
theorem pzRod_any (L : Int) (A : Option Addr) (c : Nat) (l : List Int) (s : ByteArray) (w : World) (hn : l.length ≤ 12) (hs : s.size = l.length) (hA : SlAt intS w A l) :
    Calls Try.prog 50 #[.int .i64 L, .slice A l.length c, .string s] w fun e w' => ∃ A' n' c', e = .returned (.agg #[.int .i64 L, .slice A' n' c']) ∧ n' = l.length ∧ SlOwn pairS w' w.heap.size 88 (.slice A' n' c') (rdP l (ysB s.data.toList)) ∧ Below w.heap.size w w' := by
  obtain ⟨i0, hi, hz0, hz1, hz2⟩ := info_parts antI
  have HA := Lib.hid hA
  clear hA
  have hl0 : s.data.toList.length = s.size := Array.length_toList
  have hyl : (ysB s.data.toList).length = l.length := by rw [ysB_len, hl0, hs]
  have hrl : (rdP l (ysB s.data.toList)).length = l.length := by unfold rdP; rw [List.length_zip, hyl]; omega
  have HYA := Lib.hid (fun k (h : k < l.length) => ysB_at s.data.toList k (by rw [hl0, hs]; exact h))
  have HBT := Lib.hid (byte_at s)
  have HRL := Lib.hid hrl
  have HS := Lib.hid hs
  clear hrl hyl hl0
  generalize hys : ysB s.data.toList = ys at *
  clear hys
  go_enter Try.func50, Try.ntmps50
  go_wp2
  go_loopw [15] (fun i wr => ∃ (k : Nat) (A5 : Option Addr) (n5 c5 : Nat), k ≤ l.length ∧ i = .int .i64 k ∧ Below w.heap.size w wr ∧ w.heap.size + 1 < wr.heap.size ∧
      wr.cell? ⟨w.heap.size, 0, none⟩ = some (.int .i64 0) ∧ wr.cell? ⟨w.heap.size, 1, none⟩ = some (.slice none 0 0) ∧ wr.frozen? ⟨w.heap.size, 0, none⟩ = false ∧ wr.frozen? ⟨w.heap.size, 1, none⟩ = false ∧
      wr.cell? ⟨w.heap.size + 1, 0, none⟩ = some (.int .i64 L) ∧ wr.cell? ⟨w.heap.size + 1, 1, none⟩ = some (.slice A5 n5 c5) ∧ wr.frozen? ⟨w.heap.size + 1, 0, none⟩ = false ∧ wr.frozen? ⟨w.heap.size + 1, 1, none⟩ = false ∧
      SlOwn pairS wr (w.heap.size + 2) 88 (.slice A5 n5 c5) ((rdP l ys).take k))
    (fun i _ => l.length - (intOf i).toNat)
  case atStart => exact ⟨0, none, 0, 0, Nat.zero_le _, rfl, ((Below.refl _ _).alloc (Nat.le_refl _) _).alloc (by simp) _, by simp, by simp, by simp, by simp, by simp, by simp, by simp, by simp, by simp, SlOwn.nil _ _ _ _⟩
  case round =>
    obtain ⟨k, A5, n5, c5, hk, rfl, hb, hsz, z0, z1, y0, y1, r0, r1, g0, g1, hown⟩ := hrel
    have HB := Lib.hid hb
    have HO := Lib.hid hown
    clear hown
    by_cases hlt : k < l.length
    · obtain ⟨b, off, rfl, l0, hc⟩ := (HA.out.below hb).int_at hlt
      have a0 := hc k _ (List.getElem?_eq_getElem hlt)
      have hya := HYA.out k hlt
      have hsn := rdP_snoc l ys k _ _ (List.getElem?_eq_getElem hlt) hya
      have HTL : Hid (((rdP l ys).take k).length ≤ 12) := by have := HRL.out; show _ ≤ _; rw [List.length_take]; omega
      have hks : k < s.size := by omega
      have hbk := HBT.out k hks
      clear hc hya
      generalize l[k] = x at *
      have HSN := Lib.hid hsn
      clear hsn hb
      generalize (s.data.toList.getD k 0).toNat = u at *
      generalize (rdP l ys).take k = m at *
      have HW : Hid (∀ (W : World) (v : Value), Below (w.heap.size + 2) wr W → ((W.setCell ⟨w.heap.size + 1, 1, none⟩ v).cell? ⟨w.heap.size, 0, none⟩ = some (.int .i64 0) ∧ (W.setCell ⟨w.heap.size + 1, 1, none⟩ v).cell? ⟨w.heap.size, 1, none⟩ = some (.slice none 0 0) ∧
          (W.setCell ⟨w.heap.size + 1, 1, none⟩ v).frozen? ⟨w.heap.size, 0, none⟩ = false ∧ (W.setCell ⟨w.heap.size + 1, 1, none⟩ v).frozen? ⟨w.heap.size, 1, none⟩ = false ∧ (W.setCell ⟨w.heap.size + 1, 1, none⟩ v).cell? ⟨w.heap.size + 1, 0, none⟩ = some (.int .i64 L) ∧ (W.setCell ⟨w.heap.size + 1, 1, none⟩ v).cell? ⟨w.heap.size + 1, 1, none⟩ = some v ∧
          (W.setCell ⟨w.heap.size + 1, 1, none⟩ v).frozen? ⟨w.heap.size + 1, 0, none⟩ = false ∧ (W.setCell ⟨w.heap.size + 1, 1, none⟩ v).frozen? ⟨w.heap.size + 1, 1, none⟩ = false)) := by
        show ∀ _ _ _, _
        intro W v hW
        have t0 := (hW.cell (p := ⟨w.heap.size, 0, none⟩) (by simp)).trans z0
        have t1 := (hW.cell (p := ⟨w.heap.size, 1, none⟩) (by simp)).trans z1
        have t2 := (hW.frozen (p := ⟨w.heap.size, 0, none⟩) (by simp)).trans y0
        have t3 := (hW.frozen (p := ⟨w.heap.size, 1, none⟩) (by simp)).trans y1
        have t4 := (hW.cell (p := ⟨w.heap.size + 1, 0, none⟩) (by simp)).trans r0
        have t5 := (hW.cell (p := ⟨w.heap.size + 1, 1, none⟩) (by simp)).trans r1
        have t6 := (hW.frozen (p := ⟨w.heap.size + 1, 0, none⟩) (by simp)).trans g0
        have t7 := (hW.frozen (p := ⟨w.heap.size + 1, 1, none⟩) (by simp)).trans g1
        exact ⟨(World.cell?_setCell_other _ _ _ _ (by simp)).trans t0, (World.cell?_setCell_other _ _ _ _ (by simp)).trans t1, by simpa using t2, by simpa using t3, (World.cell?_setCell_other _ _ _ _ (by simp)).trans t4, World.cell?_setCell_same _ _ _ t5, by simpa using t6, by simpa using t7⟩
      have HF : Hid (∀ W : World, Below (w.heap.size + 2) wr W → W.cell? ⟨w.heap.size + 1, 1, none⟩ = some (.slice A5 n5 c5) ∧ W.frozen? ⟨w.heap.size + 1, 1, none⟩ = false) := fun W hW =>
        ⟨(hW.cell (p := ⟨w.heap.size + 1, 1, none⟩) (by simp)).trans r1, (hW.frozen (p := ⟨w.heap.size + 1, 1, none⟩) (by simp)).trans g1⟩
      by_cases hone : u = 108
      · have HY : Hid ((if u = 108 then (-1 : Int) else 1) = -1) := by show _ = _; rw [if_pos hone]
        have hu : (((s[k]'hks).toNat : Int) == 108) = true := by rw [hbk]; simp; omega
        clear hone hbk
        rw [HY.out] at HSN
        go_wp2_with (at_builtin; go_must (refine wpList_append_slsv pairS _ rfl _ _ 40 rfl (w.heap.size + 2) 88 i0 _ 16 Try.underlying40 hi hz0 hz1 hz2 rfl (by decide) _ m rfl (SlOwn.below HO.out ((Below.refl _ wr).alloc (Nat.le_refl _) _)) (some ⟨wr.heap.size, 0, none⟩) 1 1 [(x, -1)] rfl rfl (slAt_pairP (heap_new rfl)) (by have := HTL.out; simp only [List.length_cons, List.length_nil]; omega) (by simp; omega) ?_); intro A6 n6 k6 w6 hn6 hown6 hb6; have HO6 := Lib.hid hown6; have HB6 : Hid (Below (w.heap.size + 2) wr w6) := ((Below.refl _ wr).alloc (by omega) _).trans hb6; obtain ⟨p5, p6⟩ := HF.out w6 HB6.out; clear hn6 hown6 hb6)
        obtain ⟨t0, t1, t2, t3, t4, t5, t6, t7⟩ := HW.out w6 (.slice A6 n6 k6) HB6.out
        go_roundw
        case rel =>
          refine ⟨k + 1, A6, n6, k6, by omega, by go_num, (HB.out.trans (HB6.out.mono (by omega))).setCell (by simp) _, by have := HB6.out.size; simp; omega, t0, t1, t2, t3, t4, t5, t6, t7, ?_⟩
          rw [HSN.out]
          exact ownsRow_setCell_below HO6.out (by simp) _
        case measure => simp [intOf]; omega
      · have HY : Hid ((if u = 108 then (-1 : Int) else 1) = 1) := by show _ = _; rw [if_neg hone]
        have hu : (((s[k]'hks).toNat : Int) == 108) = false := by rw [hbk]; simp; omega
        clear hone hbk
        rw [HY.out] at HSN
        go_wp2_with (at_builtin; go_must (refine wpList_append_slsv pairS _ rfl _ _ 40 rfl (w.heap.size + 2) 88 i0 _ 16 Try.underlying40 hi hz0 hz1 hz2 rfl (by decide) _ m rfl (SlOwn.below HO.out ((Below.refl _ wr).alloc (Nat.le_refl _) _)) (some ⟨wr.heap.size, 0, none⟩) 1 1 [(x, 1)] rfl rfl (slAt_pairP (heap_new rfl)) (by have := HTL.out; simp only [List.length_cons, List.length_nil]; omega) (by simp; omega) ?_); intro A6 n6 k6 w6 hn6 hown6 hb6; have HO6 := Lib.hid hown6; have HB6 : Hid (Below (w.heap.size + 2) wr w6) := ((Below.refl _ wr).alloc (by omega) _).trans hb6; obtain ⟨p5, p6⟩ := HF.out w6 HB6.out; clear hn6 hown6 hb6)
        obtain ⟨t0, t1, t2, t3, t4, t5, t6, t7⟩ := HW.out w6 (.slice A6 n6 k6) HB6.out
        go_roundw
        case rel =>
          refine ⟨k + 1, A6, n6, k6, by omega, by go_num, (HB.out.trans (HB6.out.mono (by omega))).setCell (by simp) _, by have := HB6.out.size; simp; omega, t0, t1, t2, t3, t4, t5, t6, t7, ?_⟩
          rw [HSN.out]
          exact ownsRow_setCell_below HO6.out (by simp) _
        case measure => simp [intOf]; omega
    · obtain rfl : k = l.length := by omega
      have HE : Hid ((rdP l ys).take l.length = rdP l ys) := by show _ = _; rw [← HRL.out, List.take_length]
      rw [HE.out] at HO
      have HN : Hid (n5 = l.length) := (own_lenP HO.out).trans HRL.out
      go_wp2
      exact bodyPost_ret (v := .agg #[.int .i64 L, .slice A5 n5 c5]) (by simp [results, Try.results50, go_sem, z0, z1]) rfl ⟨A5, n5, c5, rfl, HN.out, ownsRow_base (ownsRow_setCell_below (ownsRow_setCell_below HO.out (by simp) _) (by simp) _) (by omega), (HB.out.setCell (by simp) _).setCell (by simp) _⟩
end Go.Proofs.Ytiodlclaempihaa
