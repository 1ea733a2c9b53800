/- BestWays: the program's. -/
import Derived.Test.YtiledncedekefaaLasts
import Derived.Test.YtiledncedekefaaBridgeB
import Derived.Test.YtiledncedekefaaWaysT
namespace Go.Proofs.Ytiledncedekefaa
open Go.RowKit

/-- the first of the least among the first k -/
def bst (f : Nat → Int) : Nat → Nat
  | 0 => 0
  | k + 1 => if f k < f (bst f k) then k else bst f k
theorem bst_succ (f : Nat → Int) (k : Nat) : bst f (k + 1) = if f k < f (bst f k) then k else bst f k := rfl
theorem bst_one (f : Nat → Int) : bst f 1 = 0 := by rw [bst_succ]; show (if f 0 < f 0 then 0 else 0) = 0; split <;> rfl
theorem minOf_snoc (z : Int) (zs : List Int) (x : Int) : Lib.minOf (z :: zs ++ [x]) = min (Lib.minOf (z :: zs)) x := by
  unfold Lib.minOf
  rw [List.foldl_append]
  rfl
theorem bst_all (f : Nat → Int) (k : Nat) : bst f (k + 1) < k + 1 ∧ (∀ j, j < k + 1 → f (bst f (k + 1)) ≤ f j) ∧ (∀ j, j < bst f (k + 1) → f (bst f (k + 1)) < f j) ∧ Lib.minOf ((List.range (k + 1)).map f) = f (bst f (k + 1)) := by
  induction k with
  | zero =>
    rw [bst_one]
    refine ⟨by omega, fun j hj => ?_, fun j hj => by omega, ?_⟩
    · obtain rfl : j = 0 := by omega
      exact Int.le_refl _
    · show min (f 0) (f 0) = f 0
      omega
  | succ k ih =>
    obtain ⟨h1, h2, h3, h4⟩ := ih
    have hm : Lib.minOf ((List.range (k + 1 + 1)).map f) = min (Lib.minOf ((List.range (k + 1)).map f)) (f (k + 1)) := by
      rw [List.range_succ (n := k + 1), List.map_append]
      cases hc : (List.range (k + 1)).map f with
      | nil => have := congrArg List.length hc; simp at this
      | cons z zs => exact minOf_snoc z zs _
    rw [hm, h4, bst_succ f (k + 1)]
    by_cases h : f (k + 1) < f (bst f (k + 1))
    · rw [if_pos h]
      refine ⟨by omega, fun j hj => ?_, fun j hj => ?_, by omega⟩
      · by_cases hj2 : j < k + 1
        · have := h2 j hj2; omega
        · obtain rfl : j = k + 1 := by omega
          exact Int.le_refl _
      · have := h2 j hj; omega
    · rw [if_neg h]
      refine ⟨by omega, fun j hj => ?_, h3, by omega⟩
      by_cases hj2 : j < k + 1
      · exact h2 j hj2
      · obtain rfl : j = k + 1 := by omega
        omega
theorem bst_idx (f : Nat → Int) (T : Nat) (hT : 1 ≤ T) : Lib.idxOf ((List.range T).map f) (Lib.minOf ((List.range T).map f)) = (bst f T : Int) ∧ bst f T < T := by
  obtain ⟨k, rfl⟩ : ∃ k, T = k + 1 := ⟨T - 1, by omega⟩
  obtain ⟨h1, h2, h3, h4⟩ := bst_all f k
  refine ⟨?_, h1⟩
  have at_ : ∀ j, j < k + 1 → ((List.range (k + 1)).map f).getD j 0 = f j := fun j hj => by
    rw [List.getD_eq_getElem?_getD, List.getElem?_map, List.getElem?_range hj]; rfl
  have := Lib.idxFrom_hit (Lib.minOf ((List.range (k + 1)).map f)) ((List.range (k + 1)).map f) (bst f (k + 1)) 0 (by simpa using h1) (by rw [at_ _ h1, h4]) (fun j hj => by
    rw [at_ j (by omega), h4]
    have := h3 j hj
    omega)
  rw [Nat.zero_add] at this
  exact this

theorem wT_gen (l : List (Int × Int)) (s : ByteArray) : l.foldl (fun s p => s ++ oneW p.2) s = ⟨s.data ++ (l.map fun p => if p.2 < 0 then (108 : UInt8) else 114).toArray⟩ := by
  induction l generalizing s with
  | nil => simp
  | cons p l ih =>
    rw [List.foldl_cons, ih, List.map_cons, ByteArray.data_append]
    congr 1
    rw [Array.append_assoc]
    congr 1
    apply Array.toList_inj.1
    unfold oneW
    split <;> simp
theorem wT_tx {l ys : List Int} (h : ys.length = l.length) (hm : ∀ y ∈ ys, y = -1 ∨ y = 1) : wT (rdL l ys) = txB ys := by
  unfold wT txB
  rw [wT_gen]
  congr 1
  rw [Array.empty_append]
  congr 1
  unfold rdL txU
  have e : (l.zip ys).map (fun p => if p.2 < 0 then (108 : UInt8) else 114) = ((l.zip ys).map Prod.snd).map fun y => if y < 0 then (108 : UInt8) else 114 := by rw [List.map_map]; rfl
  rw [e, List.map_snd_zip (by omega)]
  apply List.map_congr_left
  intro y hy
  rcases hm y hy with rfl | rfl <;> rfl

theorem convTx (W : World) (g n : Nat) (ys : List Int) (hl : ys.length = n) (h2 : n ≤ 12) (hW : W.heap[g]? = some (.cells (chV (letL ys)).toArray 108 (0, 0))) : (convert 111 9 (.slice (some ⟨g, 0, none⟩) n 12)).run Try.prog W = .ok (.string (txB ys)) W := by
  have h := run_convert_bytes_back (P := Try.prog) W 111 9 5 ⟨g, 0, none⟩ 12 (txU ys) Try.underlying111 Try.underlying5 Try.underlying9 (fun j hj => by
    have hj' : j < n := by rw [txU_len, hl] at hj; exact hj
    have hj2 : j < (letL ys).length := by rw [letL_len, hl]; exact hj'
    rw [add_plainJ, cell_of_row W g (0 + j) _ _ _ hW, ← Array.getElem?_toList, chV_pad _ (by rw [letL_len, hl]; exact h2), txU_at]
    show (List.map _ _)[0 + j]? = _
    rw [Nat.zero_add, List.getElem?_map]
    unfold padL
    rw [List.getElem?_append_left hj2, List.getElem?_eq_getElem hj2]
    rfl)
  rw [txU_len, hl] at h
  exact h

/-- what BestWays returns -/
def bwV (L : Int) (l : List Int) : ByteArray := if plB L l then txB (wyN l.length (bst (lfk L l) (2 ^ l.length))) else ⟨#[]⟩

set_option maxRecDepth 100000 in
set_option maxHeartbeats 4000000 in
theorem implBest_any (L : Int) (A : Option Addr) (c : Nat) (l : List Int) (w : World) (hn : (l.length : Int) ≤ 9223372036854775807) (hA : SlAt intS w A l) :
    Calls Try.prog 59 #[.int .i64 L, .slice A l.length c] w fun e w' => e = .returned (.tuple #[.string (bwV L l), .bool (plB L l)]) ∧ Below w.heap.size w w' := by
  have HR := Lib.hid (lastFallsAll_any L A c l w hn hA)
  cases hp : plB L l with
  | false =>
    have HV : Hid (bwV L l = ⟨#[]⟩) := by show _ = _; unfold bwV; rw [hp]; rfl
    rw [hp] at HR
    clear hA hp
    go_enter Try.func59, Try.ntmps59
    go_wp2_with fail
    refine HR.out.mono ?_
    rintro e w1 ⟨A1, n1, c1, rfl, hn1, ho, hb⟩
    clear hn1 ho
    go_wp2
    go_ret2
    exact ⟨ret_strb HV.out.symm rfl, hb⟩
  | true =>
    obtain ⟨hh1, ⟨hl1, hl2⟩, hrow⟩ := (plB_iff L l).1 hp
    obtain ⟨b, hb0⟩ : ∃ b, b = bst (lfk L l) (2 ^ l.length) := ⟨_, rfl⟩
    have HV : Hid (bwV L l = txB (wyN l.length b)) := by show _ = _; unfold bwV; rw [hp, hb0]; rfl
    have hpow : 1 ≤ 2 ^ l.length := Nat.one_le_two_pow
    have hp12 : 2 ^ l.length ≤ 4096 := by
      have : 2 ^ l.length ≤ 2 ^ 12 := Nat.pow_le_pow_right (by omega) hl2
      omega
    have hix := bst_idx (lfk L l) (2 ^ l.length) hpow
    rw [← hb0] at hix
    obtain ⟨hix1, hix2⟩ := hix
    have hna : nAll L l = 2 ^ l.length := by unfold nAll; rw [hp]; rfl
    rw [hp, hna] at HR
    have HAW := Lib.hid (fun w => allWays_any l.length w hl1 hl2)
    have HIX : Hid (Lib.idxOf (lfT L l (2 ^ l.length)) (Lib.minOf (lfT L l (2 ^ l.length))) = (b : Int)) := hix1
    clear hA hp hh1 hrow hb0 hna hix1
    have hfl := lfT_len L l (2 ^ l.length)
    have HXX : Hid (∃ X, X = (List.range (2 ^ l.length)).map (fun k => letL (wyN l.length k)) ∧ X.length = 2 ^ l.length ∧ ∀ k (hk : k < X.length), X[k] = letL (wyN l.length k)) := ⟨_, rfl, by simp, fun k hk => by simp⟩
    obtain ⟨X, hX, hXL, hXA⟩ := HXX.out
    rw [← hX] at HAW
    clear HXX hX
    generalize 2 ^ l.length = T at *
    have HXA := Lib.hid hXA
    have HXL := Lib.hid hXL
    have HFL := Lib.hid hfl
    clear hXA hXL hfl
    go_enter Try.func59, Try.ntmps59
    go_wp2_with fail
    refine HR.out.mono ?_
    rintro e w1 ⟨A1, n1, c1, rfl, rfl, ho, hb⟩
    generalize lfT L l n1 = F at *
    have HO := Lib.hid ho
    have HB := Lib.hid hb
    have hs1 := hb.size
    clear ho hb
    go_wp2_with fail
    refine (HAW.out w1).mono ?_
    rintro e w2 ⟨A2, c2, rfl, ho2, hb2⟩
    have HO2 := Lib.hid ho2
    have HF2 := Lib.hid (HO.out.sl.below hb2)
    have HB2 := Lib.hid (HB.out.trans (hb2.mono hs1))
    have hs2 := hb2.size
    clear ho2 hb2
    have HMI : Hid (Calls Try.prog 79 #[.slice A1 n1 c1] w2 fun e' w' => e' = .returned (.int .i64 (Lib.minOf F)) ∧ w' = w2) := by
      have h := minI_any (c := c1) (by rw [HFL.out]; omega) (by rw [HFL.out]; omega) HF2.out
      rw [HFL.out] at h; exact h
    have HII : Hid (Calls Try.prog 103 #[.slice A1 n1 c1, .int .i64 (Lib.minOf F)] w2 fun e' w' => e' = .returned (.int .i64 b) ∧ w' = w2) := by
      have h := indexI_any (c := c1) (Lib.minOf F) (by rw [HFL.out]; omega) (by rw [HFL.out]; omega) HF2.out
      rw [HFL.out, HIX.out] at h; exact h
    generalize Lib.minOf F = mv at *
    go_wp2_with fail
    refine HMI.out.mono ?_
    rintro e w3 ⟨rfl, rfl⟩
    go_wp2_with fail
    refine HII.out.mono ?_
    rintro e w4 ⟨rfl, rfl⟩
    obtain ⟨b2, off2, rfl, hlt2, hrg⟩ := ch_range HO2.out.sl (k := b) (by rw [HXL.out]; exact hix2)
    rw [HXA.out] at hrg
    have HROW := Lib.hid (fun (W : World) h => convTx W w4.heap.size l.length (wyN l.length b) (wyN_len _ _) hl2 h)
    obtain ⟨M, hM⟩ : ∃ M, M = chV (letL (wyN l.length b)) := ⟨_, rfl⟩
    rw [← hM] at hrg HROW
    have HRG := Lib.hid hrg
    have HM := Lib.hid hM
    clear hrg hM
    have hbt : (b : Int) < (n1 : Int) := by omega
    have HSZM : Hid ((Try.prog.info? 108).map (·.size) = some M.length) := by show _ = _; rw [HM.out, chV_len]; exact chSiz
    have HSZA : Hid ((Try.prog.info? 108).map (·.size) = some M.toArray.size) := by show _ = _; rw [HM.out]; exact chSizV _
    have HALLM : Hid (M.toArray.all (·.oneCell') = true) := by show _ = _; rw [HM.out]; exact chAllV _
    have HME : Hid ((List.replicate 12 (Value.int .u8 0)).toArray.size = M.toArray.size) := by show _ = _; rw [HM.out, List.size_toArray, List.size_toArray, chV_len, List.length_replicate]
    have HZ : Hid ((w4.alloc (Obj.cells (List.replicate 12 (Value.int .u8 0)).toArray 108)).heap[w4.heap.size]? = some (.cells (List.replicate 12 (Value.int .u8 0)).toArray 108 (0, 0))) := heap_new rfl
    have HW6 : Hid ((((w4.alloc (Obj.cells (List.replicate 12 (Value.int .u8 0)).toArray 108)).setRow w4.heap.size M.toArray).heap[w4.heap.size]? = some (.cells M.toArray 108 (0, 0)))) := setRow_heap _ _ _ _ _ _ HZ.out
    have HB6 : Hid (Below w4.heap.size w4 ((w4.alloc (Obj.cells (List.replicate 12 (Value.int .u8 0)).toArray 108)).setRow w4.heap.size M.toArray)) := below_setRow ((Below.refl _ _).alloc (Nat.le_refl _) _) (Nat.le_refl _) (by simp) _
    go_upto_region 5 with (first
      | (refine wpList_load_mid rfl 108 _ rfl b2 (off2 + b * 12) rfl M _ HRG.out chUnd rfl HSZM.out ?_)
      | (refine wpList_store_row rfl 108 _ _ rfl w4.heap.size rfl 108 (List.replicate 12 (Value.int .u8 0)).toArray M.toArray rfl HZ.out HSZA.out HME.out HALLM.out ?_))
    obtain ⟨W6, hW6⟩ : ∃ W, W = (w4.alloc (Obj.cells (List.replicate 12 (Value.int .u8 0)).toArray 108)).setRow w4.heap.size M.toArray := ⟨_, rfl⟩
    rw [← hW6] at HW6 HB6
    have hgen : ∀ V, V = (w4.alloc (Obj.cells (List.replicate 12 (Value.int .u8 0)).toArray 108)).setRow w4.heap.size M.toArray → V = W6 := fun V h => h.trans hW6.symm
    generalize hQ : World.setRow _ w4.heap.size M.toArray = V
    obtain rfl : V = W6 := hgen V hQ.symm
    clear hgen hQ hW6 HZ
    have hcv := HROW.out V HW6.out
    have slk := fun w' => chSl_h w' w4.heap.size l.length hl2
    simp only [Act.put]
    go_wp2
    go_ret2
    exact ⟨ret_strb HV.out.symm rfl, HB2.out.trans (HB6.out.mono HB2.out.size)⟩

theorem speRL (L : Int) (l : List Int) (k : Nat) (hp : plB L l = true) (W : World) (A : Option Addr) (c B : Nat) (h : SlOwn pairS W B 64 (.slice A l.length c) (rdL l (wyN l.length k))) :
    Calls Try.prog 101 #[.agg #[.int .i64 L, .slice A l.length c]] W fun e w' => e = .returned (.int .i64 (lfk L l k)) ∧ Below W.heap.size W w' := by
  have h2 := roLast_good L A c (rdL l (wyN l.length k)) W (goodB_rd hp (wyN_len l.length k) (wyN_mem _ _)) (slAt_ants h.sl)
  rw [rdL_len l _ (wyN_len _ _)] at h2
  exact h2
theorem speST (L : Int) (l : List Int) (k : Nat) (hp : plB L l = true) (W : World) (A : Option Addr) (c B : Nat) (h : SlOwn pairS W B 64 (.slice A l.length c) (rdL l (wyN l.length k))) :
    Calls Try.prog 70 #[.agg #[.int .i64 L, .slice A l.length c]] W fun e w' => e = .returned (.string (txB (wyN l.length k))) ∧ Below W.heap.size W w' := by
  have hln : ((rdL l (wyN l.length k)).length : Int) ≤ 16 := by
    rw [rdL_len l _ (wyN_len _ _)]
    have := ((plB_iff L l).1 hp).2.1.2
    omega
  have h2 := stWays_any L A c (rdL l (wyN l.length k)) W hln (slAt_ants h.sl)
  rw [rdL_len l _ (wyN_len _ _), wT_tx (wyN_len _ _) (wyN_mem _ _)] at h2
  exact h2
end Go.Proofs.Ytiledncedekefaa
