/- How often each ant falls last: the program's countsOfLast. -/
import Derived.Test.YtiledncedekefaaStLast
import Derived.Test.YtiledncedekefaaLastAnts
import Derived.Test.YtiledncedekefaaMark
namespace Go.Proofs.Ytiledncedekefaa
open Go.RowKit

/-- counts of those in a list, one more each -/
def bump (C V : List Int) : List Int := V.foldl (fun C a => C.set a.toNat (C.getD a.toNat 0 + 1)) C
theorem bump_snoc (C V : List Int) (a : Int) : bump C (V ++ [a]) = (bump C V).set a.toNat ((bump C V).getD a.toNat 0 + 1) := by unfold bump; rw [List.foldl_append]; rfl
theorem bump_len (V C : List Int) : (bump C V).length = C.length := by
  unfold bump
  induction V generalizing C with
  | nil => rfl
  | cons a V ih => rw [List.foldl_cons, ih, List.length_set]
theorem bump_bd (V C : List Int) (K : Int) (h : ∀ i, 0 ≤ C.getD i 0 ∧ C.getD i 0 ≤ K) : ∀ i, 0 ≤ (bump C V).getD i 0 ∧ (bump C V).getD i 0 ≤ K + V.length := by
  unfold bump
  induction V generalizing C K with
  | nil => intro i; have := h i; simpa using this
  | cons a V ih =>
    intro i
    rw [List.foldl_cons]
    have := ih (C.set a.toNat (C.getD a.toNat 0 + 1)) (K + 1) (fun j => by
      have h1 := h j
      have h2 := h a.toNat
      rw [List.getD_eq_getElem?_getD, List.getElem?_set]
      split
      · split
        · simp only [Option.getD_some]; omega
        · simp only [Option.getD_none]; omega
      · rw [← List.getD_eq_getElem?_getD]; omega) i
    rw [List.length_cons]
    omega
theorem idxs_succ (m : List Int) (x : Int) (k : Nat) : idxs m x (k + 1) = idxs m x k ++ if m.getD k 0 = x then [(k : Int)] else [] := by
  unfold idxs
  rw [List.range_succ, List.filter_append, List.map_append]
  congr 1
  by_cases h : m.getD k 0 = x
  · rw [if_pos h, List.filter_cons, show (m.getD k 0 == x) = true from beq_iff_eq.2 h]; rfl
  · rw [if_neg h, List.filter_cons, show (m.getD k 0 == x) = false from beq_eq_false_iff_ne.2 h]; rfl
theorem bump_idxs (m C : List Int) (x : Int) : ∀ n, n ≤ C.length → ∀ i, (bump C (idxs m x n)).getD i 0 = C.getD i 0 + if i < n ∧ m.getD i 0 = x then 1 else 0 := by
  intro n
  induction n with
  | zero => intro _ i; rw [idxs_zero, if_neg (by omega)]; show C.getD i 0 = _; omega
  | succ n ih =>
    intro hn i
    have h1 := ih (by omega) i
    rw [idxs_succ]
    by_cases hx : m.getD n 0 = x
    · rw [if_pos hx, bump_snoc, Int.toNat_natCast]
      by_cases hi : i = n
      · subst hi
        rw [List.getD_eq_getElem?_getD, List.getElem?_set_self (by rw [bump_len]; omega), Option.getD_some, h1, if_neg (by omega), if_pos ⟨by omega, hx⟩]
        omega
      · rw [List.getD_eq_getElem?_getD, List.getElem?_set_ne (by omega), ← List.getD_eq_getElem?_getD, h1]
        congr 1
        by_cases h2 : i < n ∧ m.getD i 0 = x
        · rw [if_pos h2, if_pos ⟨by omega, h2.2⟩]
        · rw [if_neg h2, if_neg (fun h3 => h2 ⟨by omega, h3.2⟩)]
    · rw [if_neg hx, List.append_nil, h1]
      congr 1
      by_cases h2 : i < n ∧ m.getD i 0 = x
      · rw [if_pos h2, if_pos ⟨by omega, h2.2⟩]
      · rw [if_neg h2, if_neg (fun h3 => h2 ⟨by
          by_cases h4 : i = n
          · subst h4; exact absurd h3.2 hx
          · omega, h3.2⟩)]
theorem idxs_mem (m : List Int) (x : Int) (n : Nat) : ∀ a ∈ idxs m x n, ∃ i : Nat, a = (i : Int) ∧ i < n := by
  intro a ha
  unfold idxs at ha
  obtain ⟨i, hi, rfl⟩ := List.mem_map.1 ha
  exact ⟨i, rfl, List.mem_range.1 (List.mem_filter.1 hi).1⟩

/-- the counts behind k ways -/
def cnL (L : Int) (l : List Int) (k : Nat) : List Int := (List.range l.length).map fun a => (laN L l a k : Int)
theorem cnL_len (L : Int) (l : List Int) (k : Nat) : (cnL L l k).length = l.length := by simp [cnL]
theorem cnL_at (L : Int) (l : List Int) (k a : Nat) (ha : a < l.length) : (cnL L l k).getD a 0 = (laN L l a k : Int) := by
  unfold cnL
  rw [List.getD_eq_getElem?_getD, List.getElem?_map, List.getElem?_range ha]; rfl
theorem cnL_zero (L : Int) (l : List Int) : cnL L l 0 = List.replicate l.length 0 := by
  apply List.ext_getElem
  · rw [cnL_len, List.length_replicate]
  · intro i h1 h2
    simp only [cnL, List.getElem_map, List.getElem_replicate]
    rfl
theorem cnL_bd (L : Int) (l : List Int) (k : Nat) : ∀ i, 0 ≤ (cnL L l k).getD i 0 ∧ (cnL L l k).getD i 0 ≤ (k : Int) := by
  intro i
  by_cases h : i < l.length
  · rw [cnL_at _ _ _ _ h]
    have := laN_le L l i k
    omega
  · rw [List.getD_eq_getElem?_getD, List.getElem?_eq_none (by rw [cnL_len]; omega)]
    simp
/-- the ants that fall last by the k-th ways -/
def lvk (L : Int) (l : List Int) (k : Nat) : List Int := idxs (fallsOf L (rdL l (wyN l.length k))) (lfk L l k) l.length
theorem cnL_succ (L : Int) (l : List Int) (k : Nat) : cnL L l (k + 1) = bump (cnL L l k) (lvk L l k) := by
  apply List.ext_getElem
  · rw [bump_len, cnL_len, cnL_len]
  · intro i h1 h2
    have hi : i < l.length := by rw [cnL_len] at h1; exact h1
    have e : ∀ (X : List Int) (h : i < X.length), X[i] = X.getD i 0 := fun X h => by rw [List.getD_eq_getElem?_getD, List.getElem?_eq_getElem h]; rfl
    rw [e _ h1, e _ h2, cnL_at _ _ _ _ hi]
    unfold lvk
    rw [bump_idxs _ _ _ _ (by rw [cnL_len]; exact Nat.le_refl _), cnL_at _ _ _ _ hi, laN_succ]
    by_cases h : (fallsOf L (rdL l (wyN l.length k))).getD i 0 = lfk L l k
    · rw [if_pos h, if_pos ⟨hi, h⟩]; rfl
    · rw [if_neg h, if_neg (fun h2 => h h2.2)]; rfl
theorem lvk_len (L : Int) (l : List Int) (k : Nat) : (lvk L l k).length ≤ l.length := idxs_len _ _ _
theorem madeIntsC (n : Nat) : (madeCells #[.int .i64 0] (n * 1)).toList = intS.row (List.replicate n 0) := by
  induction n with
  | zero => simp [madeCells, Shape.row]
  | succ n ih =>
    rw [List.replicate_succ', Shape.row_append, ← ih]
    apply List.ext_getElem?
    intro j
    simp only [madeCells, Nat.mul_one, Array.toList_map, Array.toList_range, List.getElem?_map]
    rcases Nat.lt_trichotomy j n with h | h | h
    · rw [List.getElem?_append_left (by simpa using h)]
      simp [h, show j < n + 1 by omega]
    · subst h
      rw [List.getElem?_append_right (by simp)]
      simp [Shape.row, intS, Nat.mod_one]
    · rw [List.getElem?_append_right (by simp; omega)]
      simp [Shape.row, intS, show ¬ j < n + 1 by omega]
      omega
theorem impLA (L : Int) (l : List Int) (k : Nat) (hp : plB L l = true) (W : World) (A : Option Addr) (c : Nat) (h : SlOwn pairS W 0 64 (.slice A l.length c) (rdL l (wyN l.length k))) :
    Calls Try.prog 111 #[.agg #[.int .i64 L, .slice A l.length c]] W fun e w' => ∃ A' n c', e = .returned (.tuple #[.slice A' n c', .bool true]) ∧ n = (lvk L l k).length ∧ SlOwn intS w' W.heap.size 3 (.slice A' n c') (lvk L l k) ∧ Below W.heap.size W w' := by
  have hg := goodB_rd hp (wyN_len l.length k) (wyN_mem _ _)
  have hl : (fallsOf L (rdL l (wyN l.length k))).length = l.length := by rw [fallsOf_len hg, rdL_len l _ (wyN_len _ _)]
  have h2 := implLastAnts_any L A c (rdL l (wyN l.length k)) W (slAt_ants h.sl)
  rw [rdL_len l _ (wyN_len _ _)] at h2
  have e : laV L (rdL l (wyN l.length k)) = lvk L l k := by
    unfold laV lvk lfV ftV
    rw [hg]
    show idxs (fallsOf L _) _ (fallsOf L _).length = _
    rw [hl]
    rfl
  rw [e, hg] at h2
  exact h2

set_option maxRecDepth 100000 in
set_option maxHeartbeats 4000000 in
theorem countsLast_none (L : Int) (A : Option Addr) (c : Nat) (l : List Int) (w : World) (hn : (l.length : Int) ≤ 9223372036854775807) (hA : SlAt intS w A l) (hp : plB L l = false) :
    Calls Try.prog 82 #[.int .i64 L, .slice A l.length c] w fun e w' => e = .returned (.tuple #[.slice none 0 0, .int .i64 0, .bool false]) ∧ Below w.heap.size w w' := by
  have HG := Lib.hid (rodsOfAll_none L A c l w hn hA hp)
  clear hA hp
  go_enter Try.func82, Try.ntmps82
  go_wp2_with fail
  refine HG.out.mono ?_
  rintro e w1 ⟨rfl, hb⟩
  go_wp2
  exact bodyPost_ret (v := .tuple #[.slice none 0 0, .int .i64 0, .bool false]) (results_tmp3 Try.results82 _ _ _) rfl ⟨rfl, hb⟩

set_option maxRecDepth 100000 in
set_option maxHeartbeats 4000000 in
theorem countsLast_any (L : Int) (A : Option Addr) (c : Nat) (l : List Int) (w : World) (hA : SlAt intS w A l) (hp : plB L l = true) :
    Calls Try.prog 82 #[.int .i64 L, .slice A l.length c] w fun e w' => ∃ A' c', e = .returned (.tuple #[.slice A' l.length c', .int .i64 ((2 ^ l.length : Nat) : Int), .bool true]) ∧ SlOwn intS w' w.heap.size 3 (.slice A' l.length c') (cnL L l (2 ^ l.length)) ∧ Below w.heap.size w w' := by
  obtain ⟨i0, hi, hz0, hz1, hz2⟩ := info_parts intInfo
  obtain ⟨hh1, ⟨hl1, hl2⟩, hrow⟩ := (plB_iff L l).1 hp
  have HR := Lib.hid (rodsOfAll_any L A c l w hA hp)
  have HCM := Lib.hid (fun k => impLA L l k hp)
  have hT : 2 ^ l.length ≤ 4096 := by
    have : 2 ^ l.length ≤ 2 ^ 12 := Nat.pow_le_pow_right (by omega) hl2
    omega
  have HC0 := Lib.hid (cnL_zero L l)
  clear hA hp hh1 hrow
  generalize 2 ^ l.length = T at *
  go_enter Try.func82, Try.ntmps82
  go_wp2_with fail
  refine HR.out.mono ?_
  rintro e w1 ⟨A1, c1, R, rfl, hl, ho, hr, hb⟩
  have HL := Lib.hid hl
  have HO := Lib.hid ho
  have HRO := Lib.hid hr
  have HB := Lib.hid hb
  have hs01 := hb.size
  clear hl ho hr hb HR
  go_wp2_with (at_make; refine wpList_make_full _ rfl _ _ _ rfl w1.heap.size 3 i0 _ 1 Try.underlying22 hi hz0 hz1 .i64 .i64 _ _ l.length rfl rfl rfl rfl (by rw [hz2]; omega) (by unfold maxLen; omega) (Nat.le_refl _) ?_; intro w2 hown hg)
  have HB2 := Lib.hid ((Below.refl w1.heap.size w1).grown hg (Nat.le_refl _) (by simp))
  clear hg
  have HO2 : Hid (SlOwn intS w2 w1.heap.size 3 (.slice (some ⟨w1.heap.size, 0, none⟩) l.length l.length) (cnL L l 0)) := by
    have e := madeIntsC l.length
    show World.ownsRow _ _ _ _ _ _ _
    rw [HC0.out, List.length_replicate, ← e]
    exact hown
  clear hown HC0 hi hz0 hz1 hz2
  obtain ⟨g, hg⟩ : ∃ g, g = w1.heap.size := ⟨_, rfl⟩
  rw [← hg] at HO2 ⊢
  have HG0 := Lib.hid hg
  clear hg
  go_loopw [29] (fun i wr => ∃ k : Nat, k ≤ T ∧ i = .int .i64 k ∧ Below w1.heap.size w1 wr ∧ SlOwn intS wr g 3 (.slice (some ⟨g, 0, none⟩) l.length l.length) (cnL L l k))
    (fun i _ => T - (intOf i).toNat)
  case atStart => exact ⟨0, Nat.zero_le _, rfl, HB2.out, HO2.out⟩
  case round =>
    obtain ⟨k, hk, rfl, hbr, hown⟩ := hrel
    have HBr := Lib.hid hbr
    have HOr := Lib.hid hown
    have hsr := hbr.size
    clear hown
    by_cases hlt : k < T
    · have hki : (k : Int) < (T : Int) := by omega
      have hRk : k < R.length := by rw [HL.out]; exact hlt
      obtain ⟨b1, off1, hA1, hlt1, hc⟩ := HO.out.sl.at_ hRk
      subst hA1
      obtain ⟨e1, e2, e3⟩ := HRO.out k R[k] (List.getElem?_eq_getElem hRk)
      have c0 := hc k _ (List.getElem?_eq_getElem hRk) 0 (by decide)
      have c1' := hc k _ (List.getElem?_eq_getElem hRk) 1 (by decide)
      generalize R[k] = p at *
      obtain ⟨p1, p2, p3, p4⟩ := p
      simp only at e1 e2 e3
      subst e1 e2
      have c0 : w1.cell? ⟨b1, off1 + k * 2, none⟩ = some (.int .i64 p1) := c0
      have c1' : w1.cell? ⟨b1, off1 + k * 2 + 1, none⟩ = some (.slice p2 l.length p4) := c1'
      have c0 := Below.cell_some hbr c0
      have c1' := Below.cell_some hbr c1'
      have HE3 := Lib.hid (e3.below hbr)
      have HCK := Lib.hid (fun W c h => HCM.out k W p2 c h)
      have HS := Lib.hid (cnL_succ p1 l k)
      have HCB := Lib.hid (cnL_bd p1 l k)
      have HCL := Lib.hid (cnL_len p1 l k)
      have HVM : Hid (∀ a ∈ lvk p1 l k, ∃ i : Nat, a = (i : Int) ∧ i < l.length) := idxs_mem _ _ _
      have hvl := lvk_len p1 l k
      clear hbr hc e3
      generalize lvk p1 l k = V at *
      generalize cnL p1 l k = C at *
      go_wp2_with fail
      refine (HCK.out _ p4 (HE3.out.below ((Below.refl _ _).alloc (Nat.le_refl _) _))).mono ?_
      rintro e w3 ⟨A5, n5, c5, rfl, hn5, ho5, hb3⟩
      have HN5 := Lib.hid hn5
      have HV5 := Lib.hid (own_base ho5 (show g + 1 ≤ _ by have := HG0.out; rw [World.size_alloc]; omega))
      have HB3 : Hid (Below wr.heap.size wr w3) := ((Below.refl _ wr).alloc (Nat.le_refl _) _).trans (hb3.mono (by simp))
      have HO3 := Lib.hid (HOr.out.below HB3.out)
      have hs3 := HB3.out.size
      clear ho5 hb3 hn5
      have HB13 : Hid (Below g w1 w3) := by show Below _ _ _; rw [HG0.out]; exact HBr.out.trans (HB3.out.mono hsr)
      have hTk : (k : Int) ≤ 4096 := by omega
      have hvl16 : V.length ≤ 12 := by omega
      have HZ0 : Hid (bump C (V.take 0) = C) := rfl
      go_wp2_with fail
      go_loopw [40] (fun i wx => ∃ j : Nat, j ≤ V.length ∧ i = .int .i64 j ∧ Below g w1 wx ∧ SlOwn intS wx (g + 1) 3 (.slice A5 n5 c5) V ∧ SlOwn intS wx g 3 (.slice (some ⟨g, 0, none⟩) l.length l.length) (bump C (V.take j)))
        (fun i _ => V.length - (intOf i).toNat)
      case atStart => exact ⟨0, Nat.zero_le _, rfl, HB13.out, HV5.out, by rw [HZ0.out]; exact HO3.out⟩
      case round =>
        obtain ⟨j, hj, rfl, hbx, hvx, hox⟩ := hrel
        have HBX := Lib.hid hbx
        have HVX := Lib.hid hvx
        have HOX := Lib.hid hox
        clear hbx hvx hox
        have hn5 : n5 = V.length := HN5.out
        subst hn5
        by_cases hjl : j < V.length
        · have hjn : (j : Int) < (V.length : Int) := by omega
          obtain ⟨bv, offv, rfl, _, hcv⟩ := HVX.out.sl.int_at hjl
          have a0 := hcv j _ (List.getElem?_eq_getElem hjl)
          obtain ⟨i, hai, hil⟩ := HVM.out V[j] (List.getElem_mem hjl)
          have HTK : Hid (bump C (V.take (j + 1)) = (bump C (V.take j)).set i ((bump C (V.take j)).getD i 0 + 1)) := by
            show _ = _
            rw [List.take_succ_eq_append_getElem hjl, bump_snoc, hai, Int.toNat_natCast]
          rw [hai] at a0
          have hlen : (bump C (V.take j)).length = l.length := by rw [bump_len, HCL.out]
          have hbd := bump_bd (V.take j) C k HCB.out i
          have htl : (V.take j).length ≤ 12 := by rw [List.length_take]; omega
          have hib : i < (bump C (V.take j)).length := by rw [hlen]; exact hil
          obtain ⟨bc, offc, hbc, _, hcc⟩ := HOX.out.sl.int_at hib
          simp only [Option.some.injEq, Addr.mk.injEq, and_true] at hbc
          obtain ⟨rfl, rfl⟩ := hbc
          have a1 := hcc i _ (List.getElem?_eq_getElem hib)
          have hy : (bump C (V.take j))[i] = (bump C (V.take j)).getD i 0 := by rw [List.getD_eq_getElem?_getD, List.getElem?_eq_getElem hib]; rfl
          rw [hy, Nat.zero_add] at a1
          obtain ⟨v0, c0', g0, hrow, hgrow⟩ := HOX.out.int_store (j := i) hib ((bump C (V.take j)).getD i 0 + 1)
          have HROW := Lib.hid hrow
          have HGROW := Lib.hid hgrow
          clear hcv hai hcc hy c0' v0 hrow hgrow hib hlen
          generalize (bump C (V.take j)).getD i 0 = y at *
          have hil2 : (i : Int) < (l.length : Int) := by omega
          go_wp2_with fail
          go_roundw
          case rel => exact ⟨j + 1, by omega, by go_num, HBX.out.grown (row := some g) HGROW.out (by have h1 := HBX.out.size; have h2 := HG0.out; omega) (fun b hb => by injection hb with hb; omega), ownsRow_setCell_below HVX.out (by show g < g + 1; omega) _, by rw [HTK.out]; exact HROW.out⟩
          case measure => simp [intOf]; omega
        · obtain rfl : j = V.length := by omega
          have HTL : Hid (V.take V.length = V) := List.take_length
          go_wp2_with fail
          go_roundw
          case rel => exact ⟨k + 1, by omega, by go_num, by rw [← HG0.out]; exact HBX.out, by rw [HS.out, ← HTL.out]; exact HOX.out⟩
          case measure => simp [intOf]; omega
    · obtain rfl : k = T := by omega
      go_wp2
      exact bodyPost_ret (v := .tuple #[.slice (some ⟨g, 0, none⟩) l.length l.length, .int .i64 (k : Int), .bool true]) (results_tmp3 Try.results82 _ _ _) rfl ⟨some ⟨g, 0, none⟩, l.length, rfl, own_base HOr.out (by rw [HG0.out]; exact hs01), HB.out.trans (HBr.out.mono hs01)⟩

/-- what CountLastAnt returns -/
def caB (L : Int) (l : List Int) (a : Int) : Bool := plB L l && (decide (0 ≤ a) && decide (a ≤ (l.length : Int) - 1))
def caV (L : Int) (l : List Int) (a : Int) : Int := if caB L l a then (laN L l a.toNat (2 ^ l.length) : Int) else 0

set_option maxRecDepth 100000 in
set_option maxHeartbeats 4000000 in
theorem implCountLastAnt_any (L : Int) (A : Option Addr) (c : Nat) (l : List Int) (a : Int) (w : World) (hn : (l.length : Int) ≤ 9223372036854775807) (hA : SlAt intS w A l) :
    Calls Try.prog 42 #[.int .i64 L, .slice A l.length c, .int .i64 a] w fun e w' => e = .returned (.tuple #[.int .i64 (caV L l a), .bool (caB L l a)]) ∧ Below w.heap.size w w' := by
  by_cases ha : 0 ≤ a ∧ a ≤ (l.length : Int) - 1
  · cases hp : plB L l with
    | false =>
      have HG := Lib.hid (countsLast_none L A c l w hn hA hp)
      have HV : Hid (caV L l a = 0 ∧ caB L l a = false) := by show _ ∧ _; unfold caV caB; rw [hp]; exact ⟨rfl, rfl⟩
      clear hA hp
      obtain ⟨ha0, ha1⟩ := ha
      go_enter Try.func42, Try.ntmps42
      go_wp2_with fail
      refine HG.out.mono ?_
      rintro e w1 ⟨rfl, hb⟩
      go_wp2
      go_ret2
      exact ⟨ret_ib HV.out.1.symm HV.out.2.symm, hb⟩
    | true =>
      have HG := Lib.hid (countsLast_any L A c l w hA hp)
      have HB : Hid (caB L l a = true) := by show _ = _; unfold caB; rw [hp, decide_eq_true ha.1, decide_eq_true ha.2]; rfl
      have HV : Hid (caV L l a = (laN L l a.toNat (2 ^ l.length) : Int)) := by show _ = _; unfold caV; rw [HB.out]; rfl
      obtain ⟨i, rfl⟩ : ∃ i : Nat, a = (i : Int) := ⟨a.toNat, by omega⟩
      rw [Int.toNat_natCast] at HV
      have hil : i < l.length := by omega
      have hil2 : (i : Int) < (l.length : Int) := by omega
      have HAT := Lib.hid (cnL_at L l (2 ^ l.length) i hil)
      have HLE := Lib.hid (cnL_len L l (2 ^ l.length))
      clear hA hp ha
      generalize cnL L l (2 ^ l.length) = C at *
      generalize laN L l i (2 ^ l.length) = v at *
      go_enter Try.func42, Try.ntmps42
      go_wp2_with fail
      refine HG.out.mono ?_
      rintro e w1 ⟨A1, c1, rfl, ho, hb⟩
      obtain ⟨b1, off1, rfl, _, hc⟩ := ho.sl.int_at (k := i) (by rw [HLE.out]; exact hil)
      have a0 := hc i _ (List.getElem?_eq_getElem (by rw [HLE.out]; exact hil))
      have e0 : C[i]'(by rw [HLE.out]; exact hil) = (v : Int) := by rw [← HAT.out, List.getD_eq_getElem?_getD, List.getElem?_eq_getElem (by rw [HLE.out]; exact hil)]; rfl
      rw [e0] at a0
      have HBB := Lib.hid hb
      clear hc e0 ho hb
      go_wp2
      go_ret2
      exact ⟨ret_ib HV.out.symm HB.out.symm, HBB.out⟩
  · have HV : Hid (caV L l a = 0 ∧ caB L l a = false) := by
      have e : caB L l a = false := by
        unfold caB
        by_cases h0 : 0 ≤ a
        · rw [decide_eq_true h0, decide_eq_false (fun h => ha ⟨h0, h⟩)]; simp
        · rw [decide_eq_false h0]; simp
      show _ ∧ _
      unfold caV
      rw [e]
      exact ⟨rfl, rfl⟩
    by_cases h0 : a < 0
    · clear ha
      go_enter Try.func42, Try.ntmps42
      go_wp2
      go_ret2
      exact ⟨ret_ib HV.out.1.symm HV.out.2.symm, Below.refl _ _⟩
    · have h1 : (l.length : Int) ≤ a := by omega
      clear ha
      go_enter Try.func42, Try.ntmps42
      go_wp2
      go_ret2
      exact ⟨ret_ib HV.out.1.symm HV.out.2.symm, Below.refl _ _⟩

set_option maxRecDepth 100000 in
set_option maxHeartbeats 4000000 in
theorem specCountLastAnt_any (L : Int) (A : Option Addr) (c : Nat) (l : List Int) (a : Int) (w : World) (hn : (l.length : Int) ≤ 9223372036854775807) (hA : SlAt intS w A l) :
    Calls Try.prog 41 #[.int .i64 L, .slice A l.length c, .int .i64 a] w fun e w' => e = .returned (.tuple #[.int .i64 (caV L l a), .bool (caB L l a)]) ∧ Below w.heap.size w w' := by
  cases hp : plB L l with
  | false =>
    have HG := Lib.hid (stGood_at L A c l false hp w hn hA)
    have HV : Hid (caV L l a = 0 ∧ caB L l a = false) := by show _ ∧ _; unfold caV caB; rw [hp]; exact ⟨rfl, rfl⟩
    clear hA hp
    go_enter Try.func41, Try.ntmps41
    go_wp2_with fail
    refine HG.out.mono ?_
    rintro e w1 ⟨rfl, rfl⟩
    go_wp2
    go_ret2
    exact ⟨ret_ib HV.out.1.symm HV.out.2.symm, Below.refl _ _⟩
  | true =>
    have HG := Lib.hid (stGood_at L A c l true hp w hn hA)
    obtain ⟨hh1, ⟨hl1, hl2⟩, hrow⟩ := (plB_iff L l).1 hp
    have HV : Hid (caB L l a = (decide (0 ≤ a) && decide (a ≤ (l.length : Int) - 1))) := by show _ = _; unfold caB; rw [hp]; rfl
    by_cases ha : (decide (0 ≤ a) && decide (a ≤ (l.length : Int) - 1)) = true
    · have HIN : Hid (∀ X, Calls Try.prog 80 #[.int .i64 a, .int .i64 0, .int .i64 ((l.length : Int) - 1)] X fun e w' => e = .returned (.bool true) ∧ X = w') := fun X => in_at _ _ _ true ha X
      have HB : Hid (caB L l a = true) := HV.out.trans ha
      have HW : Hid (caV L l a = (laN L l a.toNat (2 ^ l.length) : Int)) := by show _ = _; unfold caV; rw [HB.out]; rfl
      have hab : 0 ≤ a ∧ a ≤ (l.length : Int) - 1 := by simpa using ha
      obtain ⟨i, rfl⟩ : ∃ i : Nat, a = (i : Int) := ⟨a.toNat, by omega⟩
      rw [Int.toNat_natCast] at HW
      have HST := Lib.hid (stLast_any L A c l i w hp (by omega) hA)
      clear hA hp ha hh1 hrow HV
      generalize laN L l i (2 ^ l.length) = v at *
      go_enter Try.func41, Try.ntmps41
      go_wp2_with fail
      refine HG.out.mono ?_
      rintro e w1 ⟨rfl, rfl⟩
      go_wp2_with (go_at_call 80; refine (HIN.out _).mono ?_; rintro e w2 ⟨rfl, rfl⟩)
      refine HST.out.mono ?_
      rintro e w3 ⟨rfl, hb3⟩
      go_wp2
      go_ret2
      exact ⟨ret_ib HW.out.symm HB.out.symm, hb3⟩
    · have HIN : Hid (∀ X, Calls Try.prog 80 #[.int .i64 a, .int .i64 0, .int .i64 ((l.length : Int) - 1)] X fun e w' => e = .returned (.bool false) ∧ X = w') := fun X => in_at _ _ _ false (by simpa using ha) X
      have HB : Hid (caB L l a = false) := HV.out.trans (by simpa using ha)
      have HW : Hid (caV L l a = 0) := by show _ = _; unfold caV; rw [HB.out]; rfl
      clear hA hp ha hh1 hrow HV
      go_enter Try.func41, Try.ntmps41
      go_wp2_with fail
      refine HG.out.mono ?_
      rintro e w1 ⟨rfl, rfl⟩
      go_wp2_with (go_at_call 80; refine (HIN.out _).mono ?_; rintro e w2 ⟨rfl, rfl⟩)
      go_ret2
      exact ⟨ret_ib HW.out.symm HB.out.symm, Below.refl _ _⟩
end Go.Proofs.Ytiledncedekefaa
