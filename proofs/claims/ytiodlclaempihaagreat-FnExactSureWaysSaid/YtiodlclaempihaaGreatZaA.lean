/- Srt, GoodF, Ghosts, Count, CoMe, Step, That, Falls0, Concat, FallAs, RoFalls, Last, FallOf, SrtGood, Time, BridgeI, OnRod in one text. -/
import Derived.Test.YtiodlclaempihaaGreatBase
import Derived.Test.YtiodlclaempihaaGreatGood
import Derived.Test.YtiodlclaempihaaGreatProg
import Derived.Test.YtiodlclaempihaaGreatSl
import Derived.Deep.RegionHeld3
import Derived.Lib.AppendZerosOnto
import Derived.Handy
import Derived.Test.YtiodlclaempihaaGreatShelfI
/- Srt -/
namespace Go.Proofs.YtiodlclaempihaaGreat

/-- the ant lies ahead of the other -/
def antLt (x y : Int × Int) : Bool := decide (x.1 < y.1) || (x.1 == y.1 && decide (x.2 < y.2))
def antLe (x y : Int × Int) : Bool := !antLt y x
theorem antLt_iff (x y : Int × Int) : antLt x y = true ↔ x.1 < y.1 ∨ (x.1 = y.1 ∧ x.2 < y.2) := by simp [antLt]
theorem antLe_iff (x y : Int × Int) : antLe x y = true ↔ ¬ (y.1 < x.1 ∨ (y.1 = x.1 ∧ y.2 < x.2)) := by
  rw [← antLt_iff]; simp [antLe]
theorem antLe_trans (a b c : Int × Int) (h1 : antLe a b = true) (h2 : antLe b c = true) : antLe a c = true := by
  rw [antLe_iff] at *; omega
theorem antLe_total (a b : Int × Int) : (antLe a b || antLe b a) = true := by
  rw [Bool.or_eq_true, antLe_iff, antLe_iff]; omega
theorem antLe_anti (a b : Int × Int) (h1 : antLe a b = true) (h2 : antLe b a = true) : a = b := by
  rw [antLe_iff] at *
  obtain ⟨a1, a2⟩ := a
  obtain ⟨b1, b2⟩ := b
  simp only at h1 h2
  rw [Prod.mk.injEq]
  omega
def Srt (l : List (Int × Int)) : Prop := l.Pairwise fun a b => antLe a b = true
def srtA (l : List (Int × Int)) : List (Int × Int) := l.mergeSort antLe
theorem srtA_perm (l : List (Int × Int)) : (srtA l).Perm l := List.mergeSort_perm l antLe
theorem srtA_srt (l : List (Int × Int)) : Srt (srtA l) := List.pairwise_mergeSort antLe_trans antLe_total l
theorem srtA_unique {m l : List (Int × Int)} (hs : Srt m) (hp : m.Perm l) : m = srtA l :=
  List.Perm.eq_of_pairwise (le := fun a b => antLe a b = true) (fun a b _ _ h1 h2 => antLe_anti a b h1 h2) hs (srtA_srt l) (hp.trans (srtA_perm l).symm)
theorem srtA_self {l : List (Int × Int)} (hs : Srt l) : srtA l = l := (srtA_unique hs (List.Perm.refl l)).symm
theorem srtA_len (l : List (Int × Int)) : (srtA l).length = l.length := (srtA_perm l).length_eq
theorem srtA_nil : srtA [] = [] := List.mergeSort_nil

/-- how many of the first k ants stay ahead -/
def putK (l : List (Int × Int)) (x : Int × Int) : Nat → Nat
  | 0 => 0
  | k + 1 => if antLt x (l.getD k (0, 0)) then putK l x k else k + 1
theorem putK_le (l : List (Int × Int)) (x : Int × Int) : ∀ k, putK l x k ≤ k
  | 0 => Nat.le_refl _
  | k + 1 => by
    unfold putK
    split
    · exact Nat.le_succ_of_le (putK_le l x k)
    · exact Nat.le_refl _
theorem putK_behind (l : List (Int × Int)) (x : Int × Int) : ∀ k j, putK l x k ≤ j → j < k → antLt x (l.getD j (0, 0)) = true
  | 0, j, _, h => absurd h (Nat.not_lt_zero j)
  | k + 1, j, h, hj => by
    unfold putK at h
    split at h
    · rename_i hx
      by_cases hjk : j = k
      · subst hjk; exact hx
      · exact putK_behind l x k j h (by omega)
    · omega
theorem putK_ahead (l : List (Int × Int)) (x : Int × Int) : ∀ k j, putK l x k = j + 1 → antLt x (l.getD j (0, 0)) = false
  | 0, j, h => by simp [putK] at h
  | k + 1, j, h => by
    unfold putK at h
    split at h
    · exact putK_ahead l x k j h
    · rename_i hx
      obtain rfl : k = j := by omega
      simpa using hx
def putA (l : List (Int × Int)) (x : Int × Int) : List (Int × Int) := l.take (putK l x l.length) ++ x :: l.drop (putK l x l.length)
theorem putA_len (l : List (Int × Int)) (x : Int × Int) : (putA l x).length = l.length + 1 := by
  have := putK_le l x l.length
  unfold putA
  rw [List.length_append, List.length_take, List.length_cons, List.length_drop]
  omega
theorem putA_perm (l : List (Int × Int)) (x : Int × Int) : (putA l x).Perm (l ++ [x]) := by
  unfold putA
  refine List.perm_middle.trans ?_
  rw [List.take_append_drop]
  exact (List.perm_append_singleton x l).symm
theorem putA_srt {l : List (Int × Int)} (x : Int × Int) (hs : Srt l) : Srt (putA l x) := by
  have hK := putK_le l x l.length
  have hb := putK_behind l x l.length
  have ha := putK_ahead l x l.length
  unfold putA
  generalize putK l x l.length = K at *
  have hs0 : ∀ i j, i < j → j < l.length → antLe (l.getD i (0, 0)) (l.getD j (0, 0)) = true := fun i j hij hj => by
    have := List.pairwise_iff_getElem.1 hs i j (by omega) hj hij
    rw [List.getD_eq_getElem?_getD, List.getD_eq_getElem?_getD, List.getElem?_eq_getElem (by omega), List.getElem?_eq_getElem hj]
    exact this
  have hx1 : ∀ i, i < K → antLe (l.getD i (0, 0)) x = true := fun i hi => by
    have h1 := ha (K - 1) (by omega)
    have h2 : antLe (l.getD (K - 1) (0, 0)) x = true := by unfold antLe; rw [h1]; rfl
    by_cases hik : i = K - 1
    · subst hik; exact h2
    · exact antLe_trans _ _ _ (hs0 i (K - 1) (by omega) (by omega)) h2
  have hx2 : ∀ j, K ≤ j → j < l.length → antLe x (l.getD j (0, 0)) = true := fun j hj hl => by
    have h1 := hb j hj hl
    rw [antLt_iff] at h1
    rw [antLe_iff]
    omega
  have mem1 : ∀ a, a ∈ l.take K → ∃ i, i < K ∧ i < l.length ∧ a = l.getD i (0, 0) := fun a h => by
    obtain ⟨i, hi, rfl⟩ := List.mem_iff_getElem.1 h
    rw [List.length_take] at hi
    refine ⟨i, by omega, by omega, ?_⟩
    rw [List.getElem_take, List.getD_eq_getElem?_getD, List.getElem?_eq_getElem (by omega)]
    rfl
  have mem2 : ∀ a, a ∈ l.drop K → ∃ j, K ≤ j ∧ j < l.length ∧ a = l.getD j (0, 0) := fun a h => by
    obtain ⟨i, hi, rfl⟩ := List.mem_iff_getElem.1 h
    rw [List.length_drop] at hi
    refine ⟨K + i, by omega, by omega, ?_⟩
    rw [List.getElem_drop, List.getD_eq_getElem?_getD, List.getElem?_eq_getElem (by omega)]
    rfl
  unfold Srt
  rw [List.pairwise_append]
  refine ⟨hs.sublist (List.take_sublist K l), ?_, ?_⟩
  · rw [List.pairwise_cons]
    refine ⟨fun a h => ?_, hs.sublist (List.drop_sublist K l)⟩
    obtain ⟨j, h1, h2, rfl⟩ := mem2 a h
    exact hx2 j h1 h2
  · intro a h b hb'
    obtain ⟨i, h1, h2, rfl⟩ := mem1 a h
    rcases List.mem_cons.1 hb' with rfl | h'
    · exact hx1 i h1
    · obtain ⟨j, h3, h4, rfl⟩ := mem2 b h'
      exact hs0 i j (by omega) h4
theorem putA_sorted {l : List (Int × Int)} (x : Int × Int) (hs : Srt l) : putA l x = srtA (l ++ [x]) := srtA_unique (putA_srt x hs) (putA_perm l x)
theorem putA_srtA (l : List (Int × Int)) (x : Int × Int) : putA (srtA l) x = srtA (l ++ [x]) :=
  srtA_unique (putA_srt x (srtA_srt l)) ((putA_perm _ _).trans ((srtA_perm l).append_right [x]))

/-- one more of a mapped list -/
theorem srt_snoc (f : Int × Int → Int × Int) (l : List (Int × Int)) (k : Nat) (x : Int × Int) (hx : l[k]? = some x) :
    putA (srtA ((l.take k).map f)) (f x) = srtA ((l.take (k + 1)).map f) := by
  obtain ⟨hk, rfl⟩ := List.getElem?_eq_some_iff.1 hx
  rw [putA_srtA, List.take_succ_eq_append_getElem hk, List.map_append]
  rfl

/-- the mirrored ants, the last first, are sorted -/
theorem srt_reverse (f : Int × Int → Int × Int) (l : List (Int × Int)) (h : l.Pairwise fun a b => antLe (f b) (f a) = true) : (l.map f).reverse = srtA (l.map f) := by
  refine srtA_unique ?_ (List.reverse_perm _)
  unfold Srt
  rw [List.pairwise_reverse, List.pairwise_map]
  exact h
end Go.Proofs.YtiodlclaempihaaGreat

/- GoodF -/
namespace Go.Proofs.YtiodlclaempihaaGreat

theorem getD_of {α : Type} {l : List α} {k : Nat} {x d : α} (h : l[k]? = some x) : l.getD k d = x := by rw [List.getD_eq_getElem?_getD, h]; rfl
theorem good_len {L : Int} {l : List (Int × Int)} (h : goodB L l = true) : (l.length : Int) ≤ 16 := by
  simp only [goodB, Bool.and_eq_true] at h
  have := (hdr_iff _ _).1 h.1
  omega
theorem good_hdr {L : Int} {l : List (Int × Int)} (h : goodB L l = true) : 2 ≤ L ∧ L ≤ 1000 ∧ L % 2 = 0 := by
  simp only [goodB, Bool.and_eq_true] at h
  have := (hdr_iff _ _).1 h.1
  omega
theorem good_ant {L : Int} {l : List (Int × Int)} (h : goodB L l = true) {k : Nat} {x : Int × Int} (hx : l[k]? = some x) : 0 ≤ x.1 ∧ x.1 ≤ L ∧ x.1 % 2 = 0 ∧ (x.2 = -1 ∨ x.2 = 1) := by
  simp only [goodB, Bool.and_eq_true, List.all_eq_true] at h
  have h1 := h.2 k (List.mem_range.2 (List.getElem?_eq_some_iff.1 hx).1)
  simp only [okAt, Bool.and_eq_true, getD_of hx] at h1
  have h2 := h1.1
  simp only [isAntB, Bool.and_eq_true, Bool.or_eq_true, decide_eq_true_eq, beq_iff_eq] at h2
  obtain ⟨⟨⟨a, b⟩, c⟩, d⟩ := h2
  exact ⟨a, b, c, d⟩

theorem good_next {L : Int} {l : List (Int × Int)} (h : goodB L l = true) (k : Nat) (hk : k + 1 < l.length) : antLt (l.getD k (0, 0)) (l.getD (k + 1) (0, 0)) = true := by
  simp only [goodB, Bool.and_eq_true, List.all_eq_true] at h
  have h1 := h.2 (k + 1) (List.mem_range.2 hk)
  simp only [okAt, Bool.and_eq_true, Bool.or_eq_true, Nat.add_sub_cancel] at h1
  rcases h1.2 with h2 | h2
  · simp at h2
  · simp only [mayB, metB, Bool.or_eq_true, Bool.and_eq_true, decide_eq_true_eq, beq_iff_eq] at h2
    rw [antLt_iff]
    omega
theorem good_lt {L : Int} {l : List (Int × Int)} (h : goodB L l = true) (i : Nat) : ∀ j, i < j → j < l.length → antLt (l.getD i (0, 0)) (l.getD j (0, 0)) = true := by
  intro j
  induction j with
  | zero => intro h; omega
  | succ j ih =>
    intro hij hj
    have h1 := good_next h j hj
    by_cases hi : i = j
    · subst hi; exact h1
    · have h2 := ih (by omega) (by omega)
      rw [antLt_iff] at *
      omega
end Go.Proofs.YtiodlclaempihaaGreat

/- Ghosts -/
namespace Go.Proofs.YtiodlclaempihaaGreat
open Go.RowKit

theorem goesRight_any (a y L : Int) (w : World) :
    Calls Tryz.prog 118 #[.agg #[.int .i64 a, .int .i64 y, .int .i64 L]] w fun e w' => e = .returned (.bool (y == 1)) ∧ Below w.heap.size w w' := by
  go_enter Tryz.func118, Tryz.ntmps118
  go_wp2
  go_ret
  exact ⟨ret_bool rfl, (Below.refl _ _).alloc (Nat.le_refl _) _⟩
theorem goesRight_at (a y L : Int) (r : Bool) (hr : (y == 1) = r) (w : World) :
    Calls Tryz.prog 118 #[.agg #[.int .i64 a, .int .i64 y, .int .i64 L]] w fun e w' => e = .returned (.bool r) ∧ Below w.heap.size w w' := by
  subst hr; exact goesRight_any a y L w
theorem goesLeft_any (a y L : Int) (w : World) :
    Calls Tryz.prog 94 #[.agg #[.int .i64 a, .int .i64 y, .int .i64 L]] w fun e w' => e = .returned (.bool (y == -1)) ∧ Below w.heap.size w w' := by
  go_enter Tryz.func94, Tryz.ntmps94
  go_wp2
  go_ret
  exact ⟨ret_bool rfl, (Below.refl _ _).alloc (Nat.le_refl _) _⟩
theorem goesLeft_at (a y L : Int) (r : Bool) (hr : (y == -1) = r) (w : World) :
    Calls Tryz.prog 94 #[.agg #[.int .i64 a, .int .i64 y, .int .i64 L]] w fun e w' => e = .returned (.bool r) ∧ Below w.heap.size w w' := by
  subst hr; exact goesLeft_any a y L w
theorem ghostInfo : (Tryz.prog.info? 108).map (fun i => (i.zero, i.size, i.bytes)) = some (some (.agg #[.int .i64 0, .int .i64 0, .int .i64 0]), 3, 24) := by kernel_rfl

theorem antI : (Tryz.prog.info? 90).map (fun i => (i.zero, i.size, i.bytes)) = some (some (.agg #[.int .i64 0, .int .i64 0]), pairS.size, 16) := by kernel_rfl

def gsOf (L : Int) (l : List (Int × Int)) : List (Int × Int × Int) := l.map fun p => (p.1, p.2, L)
theorem gsOf_take (L : Int) (l : List (Int × Int)) (k : Nat) (x : Int × Int) (hx : l[k]? = some x) : gsOf L (l.take (k + 1)) = gsOf L (l.take k) ++ [(x.1, x.2, L)] := by
  obtain ⟨hk, rfl⟩ := List.getElem?_eq_some_iff.1 hx
  unfold gsOf
  rw [List.take_succ_eq_append_getElem hk, List.map_append]
  rfl

set_option maxRecDepth 100000 in
set_option maxHeartbeats 1000000 in
theorem ghostsOf_any (L : Int) (A : Option Addr) (c : Nat) (l : List (Int × Int)) (w : World) (hn : (l.length : Int) ≤ 16) (hA : AntsAt w A l) :
    Calls Tryz.prog 93 #[.agg #[.int .i64 L, .slice A l.length c]] w fun e w' => ∃ A' c', e = .returned (.slice A' l.length c') ∧ SlOwn tripS w' w.heap.size 108 (.slice A' l.length c') (gsOf L l) ∧ Below w.heap.size w w' := by
  obtain ⟨i0, hi, hz0, hz1, hz2⟩ := info_parts ghostInfo
  have HA := Lib.hid hA
  clear hA
  go_enter Tryz.func93, Tryz.ntmps93
  go_wp2_with (at_make; refine wpList_make_own _ rfl _ _ _ rfl (w.heap.size + 1) 108 i0 _ 3 Tryz.underlying105 hi hz0 hz1 .i64 .i64 _ l.length rfl rfl rfl (by rw [hz2]; omega) (by unfold maxLen; omega) (by simp) ?_; intro w1 hown hg; have c0 := hg.cell (a := ⟨w.heap.size, 0, none⟩) (v := .int .i64 L) (by simp) (by simp); have c1 := hg.cell (a := ⟨w.heap.size, 1, none⟩) (v := .slice A l.length c) (by simp) (by simp))
  have HB1 : Hid (Below (w.heap.size + 1) (w.alloc (Obj.cells #[Value.int IntKind.i64 L, Value.slice A l.length c] 71)) w1) := (Below.refl _ _).grown hg (by simp) (by simp)
  have HO1 : Hid (SlOwn tripS w1 (w.heap.size + 1) 108 (.slice (some ⟨w.heap.size + 1, 0, none⟩) 0 l.length) (gsOf L (l.take 0))) := by
    have h : w1.ownsRow (w.heap.size + 1) 108 3 (.slice (some ⟨w.heap.size + 1, 0, none⟩) 0 l.length) 0 [] := by simpa using hown
    exact h
  clear hg hown
  go_loopw [3, 13] (fun v i wr => ∃ k : Nat, k ≤ l.length ∧ i = .int .i64 k ∧ Below (w.heap.size + 1) (w.alloc (Obj.cells #[Value.int IntKind.i64 L, Value.slice A l.length c] 71)) wr ∧ SlOwn tripS wr (w.heap.size + 1) 108 v (gsOf L (l.take k)))
    (fun _ i _ => l.length - (intOf i).toNat)
  case atStart => exact ⟨0, Nat.zero_le _, rfl, HB1.out, HO1.out⟩
  case round =>
    obtain ⟨k, hk, rfl, hb, hown⟩ := hrel
    have HB := Lib.hid hb
    have hs : w.heap.size + 1 ≤ wr.heap.size := by have := hb.size; simpa using this
    have hs1 : w.heap.size < wr.heap.size := by omega
    have c0 : wr.cell? ⟨w.heap.size, 0, none⟩ = some (.int .i64 L) := by rw [hb.cell (p := ⟨w.heap.size, 0, none⟩) (by simp)]; simp
    have c1 : wr.cell? ⟨w.heap.size, 1, none⟩ = some (.slice A l.length c) := by rw [hb.cell (p := ⟨w.heap.size, 1, none⟩) (by simp)]; simp
    have HAr := Lib.hid (HA.out.below (((Below.refl _ _).alloc (Nat.le_refl _) _).trans (hb.mono (by simp))))
    clear hb
    obtain ⟨A3, k3, rfl, hat, hin⟩ := hown.form
    have HO := Lib.hid hown
    clear hown hat
    by_cases hlt : k < l.length
    · obtain ⟨b, off, rfl, l0, hc⟩ := HAr.out.at_ hlt
      obtain ⟨a0, a1⟩ := hc k hlt
      have hx : l[k]? = some (l.getD k (0, 0)) := by rw [List.getD_eq_getElem?_getD, List.getElem?_eq_getElem hlt]; rfl
      have HT := Lib.hid (gsOf_take L l k _ hx)
      clear hc hx
      generalize l.getD k (0, 0) = x at *
      obtain ⟨x1, x2⟩ := x
      simp only at a0 a1
      have hlen : (gsOf L (l.take k)).length = k := by simp [gsOf]; omega
      have HLEN := Lib.hid hlen
      clear hlen
      go_wp2_with (at_builtin; go_must (refine wpList_append_sl tripS _ rfl _ _ 105 rfl (w.heap.size + 1) 108 i0 _ 24 Tryz.underlying105 hi hz0 hz1 hz2 rfl (by decide) _ _ rfl ((HO.out.below ((Below.refl _ _).alloc (Nat.le_refl _) _)).below ((Below.refl _ _).alloc (Nat.le_refl _) _)) (wr.heap.size + 1) (x1, x2, L) #[.int .i64 x1, .int .i64 x2, .int .i64 L] _ _ rfl (heap_new (by simp)) rfl (by have := HLEN.out; omega) (by simp; omega) ?_); intro A5 k5 w5 hown5 hb5 hg5)
      go_roundw
      case rel =>
        refine ⟨k + 1, by omega, by go_num, ?_, ?_⟩
        · exact HB.out.trans ((((Below.refl _ _).alloc (Nat.le_refl _) _).mono hs).trans ((((Below.refl _ _).alloc (Nat.le_refl _) _).mono (by simp; omega)).trans hb5))
        · rw [HT.out]; simpa using hown5
      case measure => simp [intOf]; omega
    · obtain rfl : k = l.length := by omega
      have e : gsOf L (l.take l.length) = gsOf L l := by rw [List.take_length]
      have HE := Lib.hid e
      clear e
      go_wp2
      go_ret
      have ho := HO.out
      rw [HE.out] at ho
      exact ⟨A3, k3, by simp [gsOf], by simpa [gsOf] using ho.base (by simp), ((Below.refl _ _).alloc (Nat.le_refl _) _).trans (HB.out.mono (by simp))⟩

end Go.Proofs.YtiodlclaempihaaGreat

/- Count -/
namespace Go.Proofs.YtiodlclaempihaaGreat
open Go.RowKit

def mStep (s : Int × Int) (y : Int) : Int × Int := if y = 1 then (s.1, s.2 + 1) else (s.1 + s.2, s.2)
def mAll (l : List (Int × Int)) : Int × Int := l.foldl (fun s p => mStep s p.2) (0, 0)
theorem mAll_snoc (l : List (Int × Int)) (k : Nat) (x : Int × Int) (hx : l[k]? = some x) : mAll (l.take (k + 1)) = mStep (mAll (l.take k)) x.2 := by
  obtain ⟨hk, rfl⟩ := List.getElem?_eq_some_iff.1 hx
  unfold mAll
  rw [List.take_succ_eq_append_getElem hk, List.foldl_append]
  rfl
theorem mAll_bounds (l : List (Int × Int)) : ∀ k, k ≤ l.length → k ≤ 16 → 0 ≤ (mAll (l.take k)).2 ∧ (mAll (l.take k)).2 ≤ k ∧ 0 ≤ (mAll (l.take k)).1 ∧ (mAll (l.take k)).1 ≤ 16 * k := by
  intro k
  induction k with
  | zero => intro _ _; simp [mAll]
  | succ k ih =>
    intro hk h16
    obtain ⟨h1, h2, h3, h4⟩ := ih (by omega) (by omega)
    rw [mAll_snoc l k _ (List.getElem?_eq_getElem hk)]
    unfold mStep
    split <;> refine ⟨?_, ?_, ?_, ?_⟩ <;> simp only <;> omega

/-- what CountMeetings returns -/
def cmV (L : Int) (l : List (Int × Int)) : Int := if goodB L l then (mAll l).1 else 0

theorem ret_ib {a b : Int} {x y : Bool} (h : a = b) (h' : x = y) : Ending.returned (.tuple #[.int .i64 a, .bool x]) = .returned (.tuple #[.int .i64 b, .bool y]) := by rw [h, h']

set_option maxHeartbeats 1000000 in
theorem roMeetings_good (L : Int) (A : Option Addr) (c : Nat) (l : List (Int × Int)) (w : World) (hg : goodB L l = true) (hA : AntsAt w A l) :
    Calls Tryz.prog 81 #[.agg #[.int .i64 L, .slice A l.length c]] w fun e w' => e = .returned (.int .i64 (mAll l).1) ∧ Below w.heap.size w w' := by
  have hn := good_len hg
  have HA := Lib.hid hA
  have HG := Lib.hid hg
  clear hA hg
  go_enter Tryz.func81, Tryz.ntmps81
  go_wp2
  go_loopw [3, 4, 10] (fun m r i wr => ∃ k : Nat, k ≤ l.length ∧ i = .int .i64 k ∧ m = .int .i64 (mAll (l.take k)).1 ∧ r = .int .i64 (mAll (l.take k)).2 ∧ Below (w.heap.size + 1) (w.alloc (Obj.cells #[Value.int IntKind.i64 L, Value.slice A l.length c] 71)) wr)
    (fun _ _ i _ => l.length - (intOf i).toNat)
  case atStart => exact ⟨0, Nat.zero_le _, rfl, rfl, rfl, Below.refl _ _⟩
  case round =>
    obtain ⟨k, hk, rfl, rfl, rfl, hb⟩ := hrel
    have HB := Lib.hid hb
    have hs1 : w.heap.size < wr.heap.size := by have := hb.size; simp at this; omega
    have HAr := Lib.hid (HA.out.below (((Below.refl _ _).alloc (Nat.le_refl _) _).trans (hb.mono (by simp))))
    clear hb
    by_cases hlt : k < l.length
    · obtain ⟨b, off, rfl, l0, hc⟩ := HAr.out.at_ hlt
      obtain ⟨a0, a1⟩ := hc k hlt
      have hx : l[k]? = some (l.getD k (0, 0)) := by rw [List.getD_eq_getElem?_getD, List.getElem?_eq_getElem hlt]; rfl
      have hm := mAll_snoc l k _ hx
      have hw := (good_ant HG.out hx).2.2.2
      obtain ⟨b1, b2, b3, b4⟩ := mAll_bounds l k hk (by omega)
      clear hc hx
      generalize l.getD k (0, 0) = x at *
      obtain ⟨x1, x2⟩ := x
      simp only at a0 a1 hm hw
      generalize mAll (l.take k) = s at *
      obtain ⟨m, r⟩ := s
      simp only at b1 b2 b3 b4 hm
      rcases hw with rfl | rfl
      · have HM : Hid (mAll (l.take (k + 1)) = (m + r, r)) := by show _ = _; rw [hm]; rfl
        clear hm
        go_wp2
        go_roundw
        case rel => exact ⟨k + 1, by omega, by go_num, by rw [HM.out], by rw [HM.out], HB.out.trans (((Below.refl _ _).alloc (Nat.le_refl _) _).mono (by omega))⟩
        case measure => simp [intOf]; omega
      · have HM : Hid (mAll (l.take (k + 1)) = (m, r + 1)) := by show _ = _; rw [hm]; rfl
        clear hm
        go_wp2
        go_roundw
        case rel => exact ⟨k + 1, by omega, by go_num, by rw [HM.out], by rw [HM.out], HB.out.trans (((Below.refl _ _).alloc (Nat.le_refl _) _).mono (by omega))⟩
        case measure => simp [intOf]; omega
    · obtain rfl : k = l.length := by omega
      have HE : Hid (l.take l.length = l) := List.take_length
      go_wp2
      go_ret
      exact ⟨ret_int (by rw [HE.out]), ((Below.refl _ _).alloc (Nat.le_refl _) _).trans (HB.out.mono (by simp))⟩

end Go.Proofs.YtiodlclaempihaaGreat

/- CoMe -/
namespace Go.Proofs.YtiodlclaempihaaGreat
open Go.RowKit
set_option maxHeartbeats 1000000 in
theorem implCountMeetings_any (L : Int) (A : Option Addr) (c : Nat) (l : List (Int × Int)) (w : World) (hA : AntsAt w A l) :
    Calls Tryz.prog 107 #[.agg #[.int .i64 L, .slice A l.length c]] w fun e w' => e = .returned (.tuple #[.int .i64 (cmV L l), .bool (goodB L l)]) ∧ Below w.heap.size w w' := by
  have HA := Lib.hid (hA.alloc (Obj.cells #[Value.int IntKind.i64 L, Value.slice A l.length c] 71))
  clear hA
  cases hg : goodB L l with
  | false =>
    have HV : Hid (cmV L l = 0) := by show _ = _; simp [cmV, hg]
    have HG : Hid (∀ w, AntsAt w A l → Calls Tryz.prog 92 #[.agg #[.int .i64 L, .slice A l.length c]] w fun e w' => e = .returned (.bool false) ∧ Below w.heap.size w w') := fun w h => by
      rw [← hg]; exact isRod_any L A c l w h
    clear hg
    go_enter Tryz.func107, Tryz.ntmps107
    go_wp2_with fail
    refine (HG.out _ HA.out).mono ?_
    rintro e w1 ⟨rfl, hb⟩
    go_wp2
    go_ret2
    exact ⟨ret_ib HV.out.symm rfl, ((Below.refl _ _).alloc (Nat.le_refl _) _).trans (hb.mono (by simp))⟩
  | true =>
    have HV : Hid (cmV L l = (mAll l).1) := by show _ = _; simp [cmV, hg]
    have HG : Hid (∀ w, AntsAt w A l → Calls Tryz.prog 92 #[.agg #[.int .i64 L, .slice A l.length c]] w fun e w' => e = .returned (.bool true) ∧ Below w.heap.size w w') := fun w h => by
      rw [← hg]; exact isRod_any L A c l w h
    have hn := good_len hg
    have HGG := Lib.hid hg
    clear hg
    go_enter Tryz.func107, Tryz.ntmps107
    go_wp2_with fail
    refine (HG.out _ HA.out).mono ?_
    rintro e w1 ⟨rfl, hb⟩
    have c0 : w1.cell? ⟨w.heap.size, 0, none⟩ = some (.int .i64 L) := by rw [hb.cell (p := ⟨w.heap.size, 0, none⟩) (by simp)]; simp
    have c1 : w1.cell? ⟨w.heap.size, 1, none⟩ = some (.slice A l.length c) := by rw [hb.cell (p := ⟨w.heap.size, 1, none⟩) (by simp)]; simp
    have HB := Lib.hid (((Below.refl _ w).alloc (Nat.le_refl _) _).trans (hb.mono (by simp)))
    have HA1 := Lib.hid (HA.out.below hb)
    clear hb
    go_wp2_with fail
    refine (ghostsOf_any L A c l _ hn HA1.out).mono ?_
    rintro e w2 ⟨A2, c2, rfl, ho, hb2⟩
    have HO := Lib.hid ho.sl
    have HB2 := Lib.hid (HB.out.trans (hb2.mono HB.out.size))
    clear hb2 ho
    go_wp2
    go_loopw [4, 5, 14] (fun m r i wr => ∃ k : Nat, k ≤ l.length ∧ i = .int .i64 k ∧ m = .int .i64 (mAll (l.take k)).1 ∧ r = .int .i64 (mAll (l.take k)).2 ∧ Below w2.heap.size w2 wr)
      (fun _ _ i _ => l.length - (intOf i).toNat)
    case atStart => exact ⟨0, Nat.zero_le _, rfl, rfl, rfl, Below.refl _ _⟩
    case round =>
      obtain ⟨k, hk, rfl, rfl, rfl, hbr⟩ := hrel
      have HBr := Lib.hid hbr
      have HOr := Lib.hid (HO.out.below hbr)
      clear hbr
      by_cases hlt : k < l.length
      · obtain ⟨b, off, rfl, l0, hc⟩ := HOr.out.trip_at (show k < (gsOf L l).length by simpa [gsOf] using hlt)
        have hx : l[k]? = some (l.getD k (0, 0)) := by rw [List.getD_eq_getElem?_getD, List.getElem?_eq_getElem hlt]; rfl
        have hgx : (gsOf L l)[k]? = some ((l.getD k (0, 0)).1, (l.getD k (0, 0)).2, L) := by unfold gsOf; rw [List.getElem?_map, hx]; rfl
        obtain ⟨a0, a1, a2⟩ := hc k _ hgx
        have hm := mAll_snoc l k _ hx
        have hw := (good_ant HGG.out hx).2.2.2
        obtain ⟨b1, b2, b3, b4⟩ := mAll_bounds l k hk (by omega)
        clear hc hx hgx
        generalize l.getD k (0, 0) = x at *
        obtain ⟨x1, x2⟩ := x
        simp only at a0 a1 a2 hm hw
        generalize mAll (l.take k) = s at *
        obtain ⟨m, r⟩ := s
        simp only at b1 b2 b3 b4 hm
        rcases hw with rfl | rfl
        · have HM : Hid (mAll (l.take (k + 1)) = (m + r, r)) := by show _ = _; rw [hm]; rfl
          clear hm
          go_wp2_with fail
          refine (goesRight_at x1 (-1) L false rfl _).mono ?_
          rintro e w3 ⟨rfl, hb3⟩
          go_wp2
          go_roundw
          case rel => exact ⟨k + 1, by omega, by go_num, by rw [HM.out], by rw [HM.out], HBr.out.trans ((((Below.refl _ _).alloc (Nat.le_refl _) _).trans (hb3.mono (by simp))).mono HBr.out.size)⟩
          case measure => simp [intOf]; omega
        · have HM : Hid (mAll (l.take (k + 1)) = (m, r + 1)) := by show _ = _; rw [hm]; rfl
          clear hm
          go_wp2_with fail
          refine (goesRight_at x1 1 L true rfl _).mono ?_
          rintro e w3 ⟨rfl, hb3⟩
          go_wp2
          go_roundw
          case rel => exact ⟨k + 1, by omega, by go_num, by rw [HM.out], by rw [HM.out], HBr.out.trans ((((Below.refl _ _).alloc (Nat.le_refl _) _).trans (hb3.mono (by simp))).mono HBr.out.size)⟩
          case measure => simp [intOf]; omega
      · obtain rfl : k = l.length := by omega
        have HE : Hid (l.take l.length = l) := List.take_length
        go_wp2
        go_ret2
        exact ⟨ret_ib (by rw [HE.out, HV.out]) rfl, HB2.out.trans (HBr.out.mono HB2.out.size)⟩

end Go.Proofs.YtiodlclaempihaaGreat

/- Step -/
namespace Go.Proofs.YtiodlclaempihaaGreat
open Go.RowKit

theorem step_append_sls {α : Type} (S : Shape α) {P : Program} (w : World) {ops : Array Oper} {o : Oper} {a : Act} {K : Act → World → Prop} {Q : Exit → Act → World → Prop} {E : Prop} (hgd : o.guard = none) (s x : Operand) (t : TypeId)
    (ho : o.op = .call { callee := .builtin .append, args := #[s, x], argTypes := #[t, t] })
    (B : Nat) (e : TypeId) (i : TypeInfo) (z : Value) (bytes : Nat) (ht : P.underlying t = some (.slice e)) (hi : P.info? e = some i) (hz : i.zero = some z)
    (hsize : i.size = S.size) (hby : i.bytes = bytes) (hzs : z.cells.size = S.size) (hB64 : bytes ≤ 64)
    (v : Value) (l : List α) (hs : a.eval s = v) (hown : SlOwn S w B e v l)
    (A : Option Addr) (n c : Nat) (m : List α) (hx : a.eval x = .slice A n c) (hn : n = m.length) (hm : SlAt S w A m)
    (hlen : l.length + m.length ≤ 1048576) (hbase : B ≤ w.heap.size)
    (h : ∀ A' c' w', SlOwn S w' B e (.slice A' (l ++ m).length c') (l ++ m) → Below B w w' → K (a.put o.dst (.slice A' (l ++ m).length c')) w') :
    if Region.wanted o (yielded ops a.tmps) = true then Oper.wp P o a w K Q else E := by
  subst hn
  have hw : Region.wanted o (yielded ops a.tmps) = true := by simp [Region.wanted, hgd]
  rw [if_pos hw]
  have hlt := World.ownsRow.lt hown
  cases A with
  | none =>
    have hm0 : m = [] := by
      rcases hm with hm | ⟨_, _, hm, _⟩
      · exact hm
      · cases hm
    subst hm0
    have hrun : (Builtin.append_ #[t, t] o.type #[v, .slice none 0 c]).run P w = .ok v w := by
      rcases hown.2 with ⟨rfl, _⟩ | ⟨g, cap, cur, rfl, _, _, hnc, _⟩
      · simp [Builtin.append_, run_underlying ht, sizeOf, typeInfo, hi, Builtin.lenOf, Builtin.firstCells]
      · simp [Builtin.append_, run_underlying ht, sizeOf, typeInfo, hi, Builtin.lenOf, Builtin.firstCells, hnc, storeCells]
    obtain ⟨A', c', hv, _, _⟩ := hown.form
    subst hv
    unfold Oper.wp
    simp only [List.length_nil] at hx
    simp [execOp, ho, resolve, invoke, builtin, hs, hx, hrun, Result.andThen]
    have := h A' c' w (by rw [List.append_nil]; exact hown) (Below.refl _ _)
    rwa [List.append_nil] at this
  | some ad =>
    refine wp_append_own w s x t ho B e i z S.size bytes ht hi hz hsize hby hzs S.pos v l.length (S.row l) hs hown ad m.length c (S.row m) hx (S.row_length m) hm.cells_at (S.row_oneCell m)
      (by unfold maxLen; omega) (by have : (l.length + m.length) * bytes ≤ 1048576 * 64 := Nat.mul_le_mul hlen hB64; omega) hbase ?_
    intro v' w' h2 h3 _
    have h4 : SlOwn S w' B e v' (l ++ m) := by
      show World.ownsRow _ _ _ _ _ _ _
      rw [List.length_append, S.row_append]
      exact h2
    obtain ⟨A', c', rfl, _, _⟩ := h4.form
    exact h A' c' w' h4 ((Below.refl _ _).grown h3 hbase (fun k hk => (hlt k hk).1))

theorem step_append_slsg {α : Type} (S : Shape α) {P : Program} (w : World) {ops : Array Oper} {o : Oper} {a : Act} {K : Act → World → Prop} {Q : Exit → Act → World → Prop} {E : Prop} (hgd : o.guard = none) (s x : Operand) (t : TypeId)
    (ho : o.op = .call { callee := .builtin .append, args := #[s, x], argTypes := #[t, t] })
    (B : Nat) (e : TypeId) (i : TypeInfo) (z : Value) (bytes : Nat) (ht : P.underlying t = some (.slice e)) (hi : P.info? e = some i) (hz : i.zero = some z)
    (hsize : i.size = S.size) (hby : i.bytes = bytes) (hzs : z.cells.size = S.size) (hB64 : bytes ≤ 64)
    (v : Value) (l : List α) (hs : a.eval s = v) (hown : SlOwn S w B e v l)
    (A : Option Addr) (n c : Nat) (m : List α) (hx : a.eval x = .slice A n c) (hn : n = m.length) (hm : SlAt S w A m)
    (hlen : l.length + m.length ≤ 1048576) (hbase : B ≤ w.heap.size)
    (h : ∀ A' c' w', SlOwn S w' B e (.slice A' (l ++ m).length c') (l ++ m) → Below B w w' → w.grownBy w' v.ownBlock → K (a.put o.dst (.slice A' (l ++ m).length c')) w') :
    if Region.wanted o (yielded ops a.tmps) = true then Oper.wp P o a w K Q else E := by
  subst hn
  have hw : Region.wanted o (yielded ops a.tmps) = true := by simp [Region.wanted, hgd]
  rw [if_pos hw]
  have hlt := World.ownsRow.lt hown
  cases A with
  | none =>
    have hm0 : m = [] := by
      rcases hm with hm | ⟨_, _, hm, _⟩
      · exact hm
      · cases hm
    subst hm0
    have hrun : (Builtin.append_ #[t, t] o.type #[v, .slice none 0 c]).run P w = .ok v w := by
      rcases hown.2 with ⟨rfl, _⟩ | ⟨g, cap, cur, rfl, _, _, hnc, _⟩
      · simp [Builtin.append_, run_underlying ht, sizeOf, typeInfo, hi, Builtin.lenOf, Builtin.firstCells]
      · simp [Builtin.append_, run_underlying ht, sizeOf, typeInfo, hi, Builtin.lenOf, Builtin.firstCells, hnc, storeCells]
    obtain ⟨A', c', hv, _, _⟩ := hown.form
    subst hv
    unfold Oper.wp
    simp only [List.length_nil] at hx
    simp [execOp, ho, resolve, invoke, builtin, hs, hx, hrun, Result.andThen]
    have := h A' c' w (by rw [List.append_nil]; exact hown) (Below.refl _ _) ⟨rfl, rfl, rfl, Nat.le_refl _, fun _ _ _ => rfl⟩
    rwa [List.append_nil] at this
  | some ad =>
    refine wp_append_own w s x t ho B e i z S.size bytes ht hi hz hsize hby hzs S.pos v l.length (S.row l) hs hown ad m.length c (S.row m) hx (S.row_length m) hm.cells_at (S.row_oneCell m)
      (by unfold maxLen; omega) (by have : (l.length + m.length) * bytes ≤ 1048576 * 64 := Nat.mul_le_mul hlen hB64; omega) hbase ?_
    intro v' w' h2 h3 _
    have h4 : SlOwn S w' B e v' (l ++ m) := by
      show World.ownsRow _ _ _ _ _ _ _
      rw [List.length_append, S.row_append]
      exact h2
    obtain ⟨A', c', rfl, _, _⟩ := h4.form
    exact h A' c' w' h4 ((Below.refl _ _).grown h3 hbase (fun k hk => (hlt k hk).1)) h3

/-- the same, the new length under a name of its own -/
theorem step_append_slsv {α : Type} (S : Shape α) {P : Program} (w : World) {ops : Array Oper} {o : Oper} {a : Act} {K : Act → World → Prop} {Q : Exit → Act → World → Prop} {E : Prop} (hgd : o.guard = none) (s x : Operand) (t : TypeId)
    (ho : o.op = .call { callee := .builtin .append, args := #[s, x], argTypes := #[t, t] })
    (B : Nat) (e : TypeId) (i : TypeInfo) (z : Value) (bytes : Nat) (ht : P.underlying t = some (.slice e)) (hi : P.info? e = some i) (hz : i.zero = some z)
    (hsize : i.size = S.size) (hby : i.bytes = bytes) (hzs : z.cells.size = S.size) (hB64 : bytes ≤ 64)
    (v : Value) (l : List α) (hs : a.eval s = v) (hown : SlOwn S w B e v l)
    (A : Option Addr) (n c : Nat) (m : List α) (hx : a.eval x = .slice A n c) (hn : n = m.length) (hm : SlAt S w A m)
    (hlen : l.length + m.length ≤ 1048576) (hbase : B ≤ w.heap.size)
    (h : ∀ A' n' c' w', n' = (l ++ m).length → SlOwn S w' B e (.slice A' n' c') (l ++ m) → Below B w w' → w.grownBy w' v.ownBlock → K (a.put o.dst (.slice A' n' c')) w') :
    if Region.wanted o (yielded ops a.tmps) = true then Oper.wp P o a w K Q else E :=
  step_append_slsg S w hgd s x t ho B e i z bytes ht hi hz hsize hby hzs hB64 v l hs hown A n c m hx hn hm hlen hbase fun A' c' w' h1 h2 h3 => h A' _ c' w' rfl h1 h2 h3

theorem wpList_append_slsv {α : Type} (S : Shape α) {P : Program} (w : World) {ops : Array Oper} {rest : List Oper} {o : Oper} {a : Act} {Q : Exit → Act → World → Prop} (hgd : o.guard = none) (s x : Operand) (t : TypeId)
    (ho : o.op = .call { callee := .builtin .append, args := #[s, x], argTypes := #[t, t] })
    (B : Nat) (e : TypeId) (i : TypeInfo) (z : Value) (bytes : Nat) (ht : P.underlying t = some (.slice e)) (hi : P.info? e = some i) (hz : i.zero = some z)
    (hsize : i.size = S.size) (hby : i.bytes = bytes) (hzs : z.cells.size = S.size) (hB64 : bytes ≤ 64)
    (v : Value) (l : List α) (hs : a.eval s = v) (hown : SlOwn S w B e v l)
    (A : Option Addr) (n c : Nat) (m : List α) (hx : a.eval x = .slice A n c) (hn : n = m.length) (hm : SlAt S w A m)
    (hlen : l.length + m.length ≤ 1048576) (hbase : B ≤ w.heap.size)
    (h : ∀ A' n' c' w', n' = (l ++ m).length → SlOwn S w' B e (.slice A' n' c') (l ++ m) → Below B w w' → wpList P ops Q rest (a.put o.dst (.slice A' n' c')) w') : wpList P ops Q (o :: rest) a w := by
  subst hn
  exact wpList_append_sls S w hgd s x t ho B e i z bytes ht hi hz hsize hby hzs hB64 v l hs hown A c m hx hm hlen hbase fun A' c' w' h1 h2 => h A' _ c' w' rfl h1 h2

theorem own_cap {α : Type} {S : Shape α} {w : World} {B n c : Nat} {e : TypeId} {A : Option Addr} {l : List α} (h : SlOwn S w B e (.slice A n c) l) : n ≤ c := by
  rcases h.2 with ⟨h', _⟩ | ⟨g, cap, cur, hv, _, _, hnc, _⟩
  · simp only [Value.slice.injEq] at h'; omega
  · simp only [Value.slice.injEq] at hv; omega

theorem SlAt.take {α : Type} {S : Shape α} {w : World} {A : Option Addr} {l : List α} (h : SlAt S w A l) (k : Nat) : SlAt S w A (l.take k) := by
  rcases h with rfl | ⟨b, off, hA, hlt, h⟩
  · exact .inl (by simp)
  · refine .inr ⟨b, off, hA, hlt, fun j x hx => h j x ?_⟩
    rw [List.getElem?_take] at hx
    split at hx
    · exact hx
    · cases hx
theorem SlAt.drop {α : Type} {S : Shape α} {w : World} {b off : Nat} {l : List α} (h : SlAt S w (some ⟨b, off, none⟩) l) (k : Nat) : SlAt S w (some ⟨b, off + k * S.size, none⟩) (l.drop k) := by
  rcases h with rfl | ⟨b', off', hA, hlt, h⟩
  · exact .inl (by simp)
  · simp only [Option.some.injEq, Addr.mk.injEq, and_true] at hA
    obtain ⟨rfl, rfl⟩ := hA
    refine .inr ⟨_, _, rfl, hlt, fun j x hx i hi => ?_⟩
    rw [List.getElem?_drop] at hx
    rw [← h (k + j) x hx i hi, Nat.add_mul, Nat.add_assoc, Nat.add_assoc, Nat.add_assoc, Nat.add_assoc]

theorem SlAt.dropIf {w : World} {b off : Nat} {l : List (Int × Int)} (h : SlAt pairS w (some ⟨b, off, none⟩) l) (k c : Nat) (hc : l.length ≤ c) :
    SlAt pairS w (if c = k + 1 then some ⟨b, off, none⟩ else some ⟨b, off + (k + 1) * 2, none⟩) (l.drop (k + 1)) := by
  split
  · exact .inl (List.drop_eq_nil_of_le (by omega))
  · exact h.drop (k + 1)

theorem own_empty {α : Type} (S : Shape α) (w : World) (e : TypeId) : SlOwn S (w.alloc (.cells #[] e)) w.heap.size e (.slice (some ⟨w.heap.size, 0, none⟩) 0 0) [] :=
  ⟨by simp [Shape.row], .inr ⟨w.heap.size, 0, #[], rfl, Nat.le_refl _, heap_new rfl, Nat.le_refl _, by unfold maxLen; omega, by simp, by simp [Shape.row]⟩⟩

theorem own_empty_n {α : Type} (S : Shape α) (w : World) (e : TypeId) {n : Nat} (h : w.heap.size = n) : SlOwn S (w.alloc (.cells #[] e)) n e (.slice (some ⟨n, 0, none⟩) 0 0) [] := by
  subst h; exact own_empty S w e
theorem slAt_one {w : World} {g : Nat} {a y : Int} {e : TypeId} {m : Nat × Nat} (h : w.heap[g]? = some (.cells #[.int .i64 a, .int .i64 y] e m)) : SlAt pairS w (some ⟨g, 0, none⟩) [(a, y)] := by
  refine .inr ⟨g, 0, rfl, (Array.getElem?_eq_some_iff.1 h).1, fun k x hk j hj => ?_⟩
  cases k with
  | succ k => simp at hk
  | zero =>
    simp only [List.getElem?_cons_zero, Option.some.injEq] at hk
    subst hk
    simp only [Nat.zero_mul, Nat.zero_add]
    rw [cell_of_row w g j _ _ _ h, ← Array.getElem?_toList]
    rfl

theorem ret_rod {L L' : Int} {A : Option Addr} {n n' c : Nat} {b b' : Bool} (h1 : L = L') (h2 : n = n') (h3 : b = b') :
    Ending.returned (.tuple #[.agg #[.int .i64 L, .slice A n c], .bool b]) = .returned (.tuple #[.agg #[.int .i64 L', .slice A n' c], .bool b']) := by rw [h1, h2, h3]

end Go.Proofs.YtiodlclaempihaaGreat

/- That -/
namespace Go.Proofs.YtiodlclaempihaaGreat
open Go.RowKit

def way (y : Int) (l : List (Int × Int × Int)) : List (Int × Int × Int) := l.filter fun g => g.2.1 == y
theorem way_snoc_yes (y : Int) (l : List (Int × Int × Int)) (g : Int × Int × Int) (h : (g.2.1 == y) = true) : way y (l ++ [g]) = way y l ++ [g] := by simp [way, List.filter_append, h]
theorem way_snoc_no (y : Int) (l : List (Int × Int × Int)) (g : Int × Int × Int) (h : (g.2.1 == y) = false) : way y (l ++ [g]) = way y l := by simp [way, List.filter_append, h]
theorem way_len (y : Int) (l : List (Int × Int × Int)) : (way y l).length ≤ l.length := List.length_filter_le _ _

set_option maxRecDepth 100000 in
set_option maxHeartbeats 1000000 in
theorem thatL_any (L : Int) (A : Option Addr) (c : Nat) (l : List (Int × Int)) (w : World) (hn : (l.length : Int) ≤ 16) (hA : AntsAt w A l) :
    Calls Tryz.prog 117 #[.agg #[.int .i64 L, .slice A l.length c], .func (.func 94) #[] #[]] w fun e w' => ∃ A' c', e = .returned (.slice A' (way (-1) (gsOf L l)).length c') ∧ SlOwn tripS w' w.heap.size 108 (.slice A' (way (-1) (gsOf L l)).length c') (way (-1) (gsOf L l)) ∧ Below w.heap.size w w' := by
  obtain ⟨i0, hi, hz0, hz1, hz2⟩ := info_parts ghostInfo
  have HA := Lib.hid (hA.alloc (Obj.cells #[Value.int IntKind.i64 L, Value.slice A l.length c] 71))
  clear hA
  go_enter Tryz.func117, Tryz.ntmps117
  go_wp2_with fail
  refine (ghostsOf_any L A c l _ hn HA.out).mono ?_
  rintro e w2 ⟨A2, c2, rfl, ho, hb2⟩
  have HO := Lib.hid ho.sl
  have HB2 := Lib.hid (((Below.refl _ w).alloc (Nat.le_refl _) _).trans (hb2.mono (by simp)))
  clear hb2 ho
  go_wp2
  go_loopw [5, 11] (fun v i wr => ∃ k : Nat, k ≤ l.length ∧ i = .int .i64 k ∧ Below w2.heap.size w2 wr ∧ SlOwn tripS wr w2.heap.size 108 v (way (-1) (gsOf L (l.take k))))
    (fun _ i _ => l.length - (intOf i).toNat)
  case atStart => exact ⟨0, Nat.zero_le _, rfl, Below.refl _ _, SlOwn.nil _ _ _ _⟩
  case round =>
    obtain ⟨k, hk, rfl, hb, hown⟩ := hrel
    have HB := Lib.hid hb
    have HOr := Lib.hid (HO.out.below hb)
    have hs := hb.size
    clear hb
    obtain ⟨A3, k3, rfl, hat, hin⟩ := hown.form
    have HOW := Lib.hid hown
    clear hown hat hin
    by_cases hlt : k < l.length
    · obtain ⟨b, off, rfl, l0, hc⟩ := HOr.out.trip_at (show k < (gsOf L l).length by simpa [gsOf] using hlt)
      have hx : l[k]? = some (l.getD k (0, 0)) := by rw [List.getD_eq_getElem?_getD, List.getElem?_eq_getElem hlt]; rfl
      have hgx : (gsOf L l)[k]? = some ((l.getD k (0, 0)).1, (l.getD k (0, 0)).2, L) := by unfold gsOf; rw [List.getElem?_map, hx]; rfl
      obtain ⟨a0, a1, a2⟩ := hc k _ hgx
      have HT := Lib.hid (gsOf_take L l k _ hx)
      clear hc hx hgx
      generalize l.getD k (0, 0) = x at *
      obtain ⟨x1, x2⟩ := x
      simp only at a0 a1 a2
      have hlen : (way (-1) (gsOf L (l.take k))).length ≤ k := by
        have h1 := way_len (-1) (gsOf L (l.take k))
        have h2 : (gsOf L (l.take k)).length ≤ k := by simp [gsOf]; omega
        omega
      have HLEN := Lib.hid hlen
      clear hlen
      cases hy : (x2 == -1) with
      | false =>
        have HY := Lib.hid hy
        have HW : Hid (way (-1) (gsOf L (l.take (k + 1))) = way (-1) (gsOf L (l.take k))) := by
          show _ = _
          rw [HT.out]; exact way_snoc_no _ _ _ hy
        clear hy
        go_wp2_with fail
        refine (goesLeft_at x1 x2 L false HY.out _).mono ?_
        rintro e w3 ⟨rfl, hb3⟩
        have HB3 := Lib.hid (((Below.refl _ wr).alloc (Nat.le_refl _) _).trans (hb3.mono (by simp)))
        clear hb3
        go_wp2
        go_roundw
        case rel => exact ⟨k + 1, by omega, by go_num, HB.out.trans (HB3.out.mono hs), by rw [HW.out]; exact HOW.out.below HB3.out⟩
        case measure => simp [intOf]; omega
      | true =>
        have HY := Lib.hid hy
        have HW : Hid (way (-1) (gsOf L (l.take (k + 1))) = way (-1) (gsOf L (l.take k)) ++ [(x1, x2, L)]) := by
          show _ = _
          rw [HT.out]; exact way_snoc_yes _ _ _ hy
        clear hy
        go_wp2_with fail
        refine (goesLeft_at x1 x2 L true HY.out _).mono ?_
        rintro e w3 ⟨rfl, hb3⟩
        have hz3 : wr.heap.size < w3.heap.size := by have := hb3.size; simp at this; omega
        have g0 : w3.cell? ⟨wr.heap.size, 0, none⟩ = some (.int .i64 x1) := by rw [hb3.cell (p := ⟨wr.heap.size, 0, none⟩) (by simp)]; simp
        have g1 : w3.cell? ⟨wr.heap.size, 1, none⟩ = some (.int .i64 x2) := by rw [hb3.cell (p := ⟨wr.heap.size, 1, none⟩) (by simp)]; simp
        have g2 : w3.cell? ⟨wr.heap.size, 2, none⟩ = some (.int .i64 L) := by rw [hb3.cell (p := ⟨wr.heap.size, 2, none⟩) (by simp)]; simp
        have HB3 := Lib.hid (((Below.refl _ wr).alloc (Nat.le_refl _) _).trans (hb3.mono (by simp)))
        clear hb3
        go_wp2_with (at_builtin; refine wpList_append_sl tripS _ rfl _ _ 105 rfl w2.heap.size 108 i0 _ 24 Tryz.underlying105 hi hz0 hz1 hz2 rfl (by decide) _ _ rfl ((HOW.out.below HB3.out).below ((Below.refl _ _).alloc (Nat.le_refl _) _)) w3.heap.size (x1, x2, L) #[.int .i64 x1, .int .i64 x2, .int .i64 L] _ _ rfl (heap_new rfl) rfl (by have := HLEN.out; omega) (by simp; omega) ?_; intro A5 k5 w5 hown5 hb5 hg5)
        go_roundw
        case rel =>
          refine ⟨k + 1, by omega, by go_num, ?_, ?_⟩
          · exact HB.out.trans ((HB3.out.mono hs).trans (((Below.refl _ _).alloc (by have := HB3.out.size; omega) _).trans hb5))
          · rw [HW.out]; simpa using hown5
        case measure => simp [intOf]; omega
    · obtain rfl : k = l.length := by omega
      have e : l.take l.length = l := List.take_length
      rw [e] at HOW
      go_wp2
      go_ret
      exact ⟨A3, k3, by simp, by simpa using HOW.out.base HB2.out.size, HB2.out.trans (HB.out.mono HB2.out.size)⟩

set_option maxRecDepth 100000 in
set_option maxHeartbeats 1000000 in
theorem thatR_any (L : Int) (A : Option Addr) (c : Nat) (l : List (Int × Int)) (w : World) (hn : (l.length : Int) ≤ 16) (hA : AntsAt w A l) :
    Calls Tryz.prog 117 #[.agg #[.int .i64 L, .slice A l.length c], .func (.func 118) #[] #[]] w fun e w' => ∃ A' c', e = .returned (.slice A' (way (1) (gsOf L l)).length c') ∧ SlOwn tripS w' w.heap.size 108 (.slice A' (way (1) (gsOf L l)).length c') (way (1) (gsOf L l)) ∧ Below w.heap.size w w' := by
  obtain ⟨i0, hi, hz0, hz1, hz2⟩ := info_parts ghostInfo
  have HA := Lib.hid (hA.alloc (Obj.cells #[Value.int IntKind.i64 L, Value.slice A l.length c] 71))
  clear hA
  go_enter Tryz.func117, Tryz.ntmps117
  go_wp2_with fail
  refine (ghostsOf_any L A c l _ hn HA.out).mono ?_
  rintro e w2 ⟨A2, c2, rfl, ho, hb2⟩
  have HO := Lib.hid ho.sl
  have HB2 := Lib.hid (((Below.refl _ w).alloc (Nat.le_refl _) _).trans (hb2.mono (by simp)))
  clear hb2 ho
  go_wp2
  go_loopw [5, 11] (fun v i wr => ∃ k : Nat, k ≤ l.length ∧ i = .int .i64 k ∧ Below w2.heap.size w2 wr ∧ SlOwn tripS wr w2.heap.size 108 v (way (1) (gsOf L (l.take k))))
    (fun _ i _ => l.length - (intOf i).toNat)
  case atStart => exact ⟨0, Nat.zero_le _, rfl, Below.refl _ _, SlOwn.nil _ _ _ _⟩
  case round =>
    obtain ⟨k, hk, rfl, hb, hown⟩ := hrel
    have HB := Lib.hid hb
    have HOr := Lib.hid (HO.out.below hb)
    have hs := hb.size
    clear hb
    obtain ⟨A3, k3, rfl, hat, hin⟩ := hown.form
    have HOW := Lib.hid hown
    clear hown hat hin
    by_cases hlt : k < l.length
    · obtain ⟨b, off, rfl, l0, hc⟩ := HOr.out.trip_at (show k < (gsOf L l).length by simpa [gsOf] using hlt)
      have hx : l[k]? = some (l.getD k (0, 0)) := by rw [List.getD_eq_getElem?_getD, List.getElem?_eq_getElem hlt]; rfl
      have hgx : (gsOf L l)[k]? = some ((l.getD k (0, 0)).1, (l.getD k (0, 0)).2, L) := by unfold gsOf; rw [List.getElem?_map, hx]; rfl
      obtain ⟨a0, a1, a2⟩ := hc k _ hgx
      have HT := Lib.hid (gsOf_take L l k _ hx)
      clear hc hx hgx
      generalize l.getD k (0, 0) = x at *
      obtain ⟨x1, x2⟩ := x
      simp only at a0 a1 a2
      have hlen : (way (1) (gsOf L (l.take k))).length ≤ k := by
        have h1 := way_len (1) (gsOf L (l.take k))
        have h2 : (gsOf L (l.take k)).length ≤ k := by simp [gsOf]; omega
        omega
      have HLEN := Lib.hid hlen
      clear hlen
      cases hy : (x2 == 1) with
      | false =>
        have HY := Lib.hid hy
        have HW : Hid (way (1) (gsOf L (l.take (k + 1))) = way (1) (gsOf L (l.take k))) := by
          show _ = _
          rw [HT.out]; exact way_snoc_no _ _ _ hy
        clear hy
        go_wp2_with fail
        refine (goesRight_at x1 x2 L false HY.out _).mono ?_
        rintro e w3 ⟨rfl, hb3⟩
        have HB3 := Lib.hid (((Below.refl _ wr).alloc (Nat.le_refl _) _).trans (hb3.mono (by simp)))
        clear hb3
        go_wp2
        go_roundw
        case rel => exact ⟨k + 1, by omega, by go_num, HB.out.trans (HB3.out.mono hs), by rw [HW.out]; exact HOW.out.below HB3.out⟩
        case measure => simp [intOf]; omega
      | true =>
        have HY := Lib.hid hy
        have HW : Hid (way (1) (gsOf L (l.take (k + 1))) = way (1) (gsOf L (l.take k)) ++ [(x1, x2, L)]) := by
          show _ = _
          rw [HT.out]; exact way_snoc_yes _ _ _ hy
        clear hy
        go_wp2_with fail
        refine (goesRight_at x1 x2 L true HY.out _).mono ?_
        rintro e w3 ⟨rfl, hb3⟩
        have hz3 : wr.heap.size < w3.heap.size := by have := hb3.size; simp at this; omega
        have g0 : w3.cell? ⟨wr.heap.size, 0, none⟩ = some (.int .i64 x1) := by rw [hb3.cell (p := ⟨wr.heap.size, 0, none⟩) (by simp)]; simp
        have g1 : w3.cell? ⟨wr.heap.size, 1, none⟩ = some (.int .i64 x2) := by rw [hb3.cell (p := ⟨wr.heap.size, 1, none⟩) (by simp)]; simp
        have g2 : w3.cell? ⟨wr.heap.size, 2, none⟩ = some (.int .i64 L) := by rw [hb3.cell (p := ⟨wr.heap.size, 2, none⟩) (by simp)]; simp
        have HB3 := Lib.hid (((Below.refl _ wr).alloc (Nat.le_refl _) _).trans (hb3.mono (by simp)))
        clear hb3
        go_wp2_with (at_builtin; refine wpList_append_sl tripS _ rfl _ _ 105 rfl w2.heap.size 108 i0 _ 24 Tryz.underlying105 hi hz0 hz1 hz2 rfl (by decide) _ _ rfl ((HOW.out.below HB3.out).below ((Below.refl _ _).alloc (Nat.le_refl _) _)) w3.heap.size (x1, x2, L) #[.int .i64 x1, .int .i64 x2, .int .i64 L] _ _ rfl (heap_new rfl) rfl (by have := HLEN.out; omega) (by simp; omega) ?_; intro A5 k5 w5 hown5 hb5 hg5)
        go_roundw
        case rel =>
          refine ⟨k + 1, by omega, by go_num, ?_, ?_⟩
          · exact HB.out.trans ((HB3.out.mono hs).trans (((Below.refl _ _).alloc (by have := HB3.out.size; omega) _).trans hb5))
          · rw [HW.out]; simpa using hown5
        case measure => simp [intOf]; omega
    · obtain rfl : k = l.length := by omega
      have e : l.take l.length = l := List.take_length
      rw [e] at HOW
      go_wp2
      go_ret
      exact ⟨A3, k3, by simp, by simpa using HOW.out.base HB2.out.size, HB2.out.trans (HB.out.mono HB2.out.size)⟩

end Go.Proofs.YtiodlclaempihaaGreat

/- Falls0 -/
namespace Go.Proofs.YtiodlclaempihaaGreat
open Go.RowKit

/-- how many go to the left -/
def nL (L : Int) (l : List (Int × Int)) : Nat := (way (-1) (gsOf L l)).length
theorem gsOf_len (L : Int) (l : List (Int × Int)) : (gsOf L l).length = l.length := by simp [gsOf]
theorem gsOf_nil (L : Int) : gsOf L [] = [] := rfl
theorem nL_le (L : Int) (l : List (Int × Int)) : nL L l ≤ l.length := by
  have := way_len (-1) (gsOf L l)
  rw [gsOf_len] at this
  exact this
theorem nL_snoc_yes (L : Int) (l : List (Int × Int)) (k : Nat) (a : Int) (hx : l[k]? = some (a, -1)) : nL L (l.take (k + 1)) = nL L (l.take k) + 1 := by
  unfold nL
  rw [gsOf_take L l k _ hx, way_snoc_yes _ _ _ rfl, List.length_append]
  rfl
theorem nL_snoc_no (L : Int) (l : List (Int × Int)) (k : Nat) (a : Int) (hx : l[k]? = some (a, 1)) : nL L (l.take (k + 1)) = nL L (l.take k) := by
  unfold nL
  rw [gsOf_take L l k _ hx, way_snoc_no _ _ _ rfl]
theorem ways_sum {L : Int} {l : List (Int × Int)} (hg : goodB L l = true) : (way 1 (gsOf L l)).length + nL L l = l.length := by
  have key : ∀ k, k ≤ l.length → (way 1 (gsOf L (l.take k))).length + nL L (l.take k) = k := by
    intro k
    induction k with
    | zero => intro _; simp [gsOf_nil, way, nL]
    | succ k ih =>
      intro hk
      have hx : l[k]? = some (l[k]'hk) := List.getElem?_eq_getElem hk
      have hw := (good_ant hg hx).2.2.2
      have hi := ih (by omega)
      generalize l[k]'hk = x at *
      obtain ⟨a, y⟩ := x
      simp only at hw
      rcases hw with rfl | rfl
      · rw [nL_snoc_yes L l k a hx, gsOf_take L l k _ hx, way_snoc_no _ _ _ rfl]; omega
      · rw [nL_snoc_no L l k a hx, gsOf_take L l k _ hx, way_snoc_yes _ _ _ rfl, List.length_append]; simp; omega
  have := key l.length (Nat.le_refl _)
  rwa [List.take_length] at this

set_option maxHeartbeats 1000000 in
theorem roLeft_good (L : Int) (A : Option Addr) (c : Nat) (l : List (Int × Int)) (w : World) (hg : goodB L l = true) (hA : AntsAt w A l) :
    Calls Tryz.prog 80 #[.agg #[.int .i64 L, .slice A l.length c]] w fun e w' => e = .returned (.int .i64 (nL L l : Int)) ∧ Below w.heap.size w w' := by
  have hn := good_len hg
  have HA := Lib.hid hA
  have HG := Lib.hid hg
  clear hA hg
  go_enter Tryz.func80, Tryz.ntmps80
  go_wp2
  go_loopw [3, 9] (fun m i wr => ∃ k : Nat, k ≤ l.length ∧ i = .int .i64 k ∧ m = .int .i64 (nL L (l.take k) : Int) ∧ Below (w.heap.size + 1) (w.alloc (Obj.cells #[Value.int IntKind.i64 L, Value.slice A l.length c] 71)) wr)
    (fun _ i _ => l.length - (intOf i).toNat)
  case atStart => exact ⟨0, Nat.zero_le _, rfl, by simp [nL, gsOf_nil, way], Below.refl _ _⟩
  case round =>
    obtain ⟨k, hk, rfl, rfl, hb⟩ := hrel
    have HB := Lib.hid hb
    have hs1 : w.heap.size < wr.heap.size := by have := hb.size; simp at this; omega
    have HAr := Lib.hid (HA.out.below (((Below.refl _ _).alloc (Nat.le_refl _) _).trans (hb.mono (by simp))))
    clear hb
    by_cases hlt : k < l.length
    · obtain ⟨b, off, rfl, l0, hc⟩ := HAr.out.at_ hlt
      obtain ⟨a0, a1⟩ := hc k hlt
      have hx : l[k]? = some (l.getD k (0, 0)) := by rw [List.getD_eq_getElem?_getD, List.getElem?_eq_getElem hlt]; rfl
      have hw := (good_ant HG.out hx).2.2.2
      have hle : nL L (l.take k) ≤ 16 := by have := nL_le L (l.take k); have h2 : (l.take k).length ≤ k := List.length_take_le _ _; omega
      clear hc
      generalize l.getD k (0, 0) = x at *
      obtain ⟨x1, x2⟩ := x
      simp only at a0 a1 hw
      rcases hw with rfl | rfl
      · have HM := Lib.hid (nL_snoc_yes L l k x1 hx)
        clear hx
        generalize nL L (l.take k) = m at *
        go_wp2
        go_roundw
        case rel => exact ⟨k + 1, by omega, by go_num, by rw [HM.out]; go_num, HB.out.trans (((Below.refl _ _).alloc (Nat.le_refl _) _).mono (by omega))⟩
        case measure => simp [intOf]; omega
      · have HM := Lib.hid (nL_snoc_no L l k x1 hx)
        clear hx
        generalize nL L (l.take k) = m at *
        go_wp2
        go_roundw
        case rel => exact ⟨k + 1, by omega, by go_num, by rw [HM.out], HB.out.trans (((Below.refl _ _).alloc (Nat.le_refl _) _).mono (by omega))⟩
        case measure => simp [intOf]; omega
    · obtain rfl : k = l.length := by omega
      have HE : Hid (l.take l.length = l) := List.take_length
      go_wp2
      go_ret
      exact ⟨ret_int (by rw [HE.out]), ((Below.refl _ _).alloc (Nat.le_refl _) _).trans (HB.out.mono (by simp))⟩

/-- what CountFalls returns -/
def cfL (L : Int) (l : List (Int × Int)) : Int := if goodB L l then (nL L l : Int) else 0
def cfR (L : Int) (l : List (Int × Int)) : Int := if goodB L l then (l.length : Int) - (nL L l : Int) else 0

theorem ret_iib {a b c d : Int} {x y : Bool} (h : a = b) (h2 : c = d) (h' : x = y) : Ending.returned (.tuple #[.int .i64 a, .int .i64 c, .bool x]) = .returned (.tuple #[.int .i64 b, .int .i64 d, .bool y]) := by rw [h, h2, h']


set_option maxRecDepth 100000 in
set_option maxHeartbeats 1000000 in
theorem implCountFalls_any (L : Int) (A : Option Addr) (c : Nat) (l : List (Int × Int)) (w : World) (hA : AntsAt w A l) :
    Calls Tryz.prog 106 #[.agg #[.int .i64 L, .slice A l.length c]] w fun e w' => e = .returned (.tuple #[.int .i64 (cfL L l), .int .i64 (cfR L l), .bool (goodB L l)]) ∧ Below w.heap.size w w' := by
  have HA := Lib.hid (hA.alloc (Obj.cells #[Value.int IntKind.i64 L, Value.slice A l.length c] 71))
  clear hA
  cases hg : goodB L l with
  | false =>
    have HV : Hid (cfL L l = 0 ∧ cfR L l = 0) := by show _ ∧ _; simp [cfL, cfR, hg]
    have HG : Hid (∀ w, AntsAt w A l → Calls Tryz.prog 92 #[.agg #[.int .i64 L, .slice A l.length c]] w fun e w' => e = .returned (.bool false) ∧ Below w.heap.size w w') := fun w h => by
      rw [← hg]; exact isRod_any L A c l w h
    clear hg
    go_enter Tryz.func106, Tryz.ntmps106
    go_wp2_with fail
    refine (HG.out _ HA.out).mono ?_
    rintro e w1 ⟨rfl, hb⟩
    go_wp2
    go_ret3
    exact ⟨ret_iib HV.out.1.symm HV.out.2.symm rfl, ((Below.refl _ _).alloc (Nat.le_refl _) _).trans (hb.mono (by simp))⟩
  | true =>
    have HV : Hid (cfL L l = (way (-1) (gsOf L l)).length ∧ cfR L l = (way 1 (gsOf L l)).length) := by
      show _ ∧ _
      have := ways_sum hg
      simp only [cfL, cfR, hg, if_true, nL] at this ⊢
      exact ⟨trivial, by omega⟩
    have HG : Hid (∀ w, AntsAt w A l → Calls Tryz.prog 92 #[.agg #[.int .i64 L, .slice A l.length c]] w fun e w' => e = .returned (.bool true) ∧ Below w.heap.size w w') := fun w h => by
      rw [← hg]; exact isRod_any L A c l w h
    have hn := good_len hg
    clear hg
    go_enter Tryz.func106, Tryz.ntmps106
    go_wp2_with fail
    refine (HG.out _ HA.out).mono ?_
    rintro e w1 ⟨rfl, hb⟩
    have c0 : w1.cell? ⟨w.heap.size, 0, none⟩ = some (.int .i64 L) := by rw [hb.cell (p := ⟨w.heap.size, 0, none⟩) (by simp)]; simp
    have c1 : w1.cell? ⟨w.heap.size, 1, none⟩ = some (.slice A l.length c) := by rw [hb.cell (p := ⟨w.heap.size, 1, none⟩) (by simp)]; simp
    have HB := Lib.hid (((Below.refl _ w).alloc (Nat.le_refl _) _).trans (hb.mono (by simp)))
    have HA1 := Lib.hid (HA.out.below hb)
    clear hb
    have HL : Hid (∀ W, Below w1.heap.size w1 W → Calls Tryz.prog 117 #[.agg #[.int .i64 L, .slice A l.length c], .func (.func 94) #[] #[]] W fun e w' => ∃ A' c', e = .returned (.slice A' (way (-1) (gsOf L l)).length c') ∧ Below W.heap.size W w') :=
      fun W hb => (thatL_any L A c l W hn (HA1.out.below hb)).mono fun e w' ⟨A', c', he, _, hw⟩ => ⟨A', c', he, hw⟩
    have HR : Hid (∀ W, Below w1.heap.size w1 W → Calls Tryz.prog 117 #[.agg #[.int .i64 L, .slice A l.length c], .func (.func 118) #[] #[]] W fun e w' => ∃ A' c', e = .returned (.slice A' (way 1 (gsOf L l)).length c') ∧ Below W.heap.size W w') :=
      fun W hb => (thatR_any L A c l W hn (HA1.out.below hb)).mono fun e w' ⟨A', c', he, _, hw⟩ => ⟨A', c', he, hw⟩
    have HD : Hid (Below w1.heap.size w1 w1.drew) := (Below.refl _ _).drew
    go_wp2
    go_region_held3 (fun w' => w'.cell? ⟨w.heap.size, 0, none⟩ = some (.int .i64 L) ∧ w'.cell? ⟨w.heap.size, 1, none⟩ = some (.slice A l.length c))
      (first
        | go_keep
        | exact ⟨Below.cell_some hbx c0, Below.cell_some hbx c1⟩
        | exact ⟨Below.cell_some hby d0, Below.cell_some hby d1⟩)
      (first
        | (go_at_call 117; (with_reducible refine (HL.out w1.drew HD.out).mono ?_); rintro e w2 ⟨A2, k2, rfl, hbx0⟩; have hbx := below_drew hbx0; clear hbx0; have d0 := Below.cell_some hbx c0; have d1 := Below.cell_some hbx c1)
        | (go_at_call 117; (with_reducible refine (HR.out w1.drew HD.out).mono ?_); rintro e w2 ⟨A2, k2, rfl, hbx0⟩; have hbx := below_drew hbx0; clear hbx0; have d0 := Below.cell_some hbx c0; have d1 := Below.cell_some hbx c1)
        | (go_at_call 117; (with_reducible refine (HL.out _ hbx).mono ?_); rintro e w3 ⟨A3, k3, rfl, hby⟩)
        | (go_at_call 117; (with_reducible refine (HR.out _ hbx).mono ?_); rintro e w3 ⟨A3, k3, rfl, hby⟩))
    all_goals go_wp2
    all_goals go_ret3
    all_goals exact ⟨ret_iib HV.out.1.symm HV.out.2.symm rfl, (HB.out.trans (hbx.mono HB.out.size)).trans (hby.mono (by have := hbx.size; have := HB.out.size; omega))⟩

end Go.Proofs.YtiodlclaempihaaGreat

/- Concat -/
namespace Go.Proofs.YtiodlclaempihaaGreat
open Go.RowKit


theorem ghoI : (Tryz.prog.info? 108).map (fun i => (i.zero, i.size, i.bytes)) = some (some (.agg #[.int .i64 0, .int .i64 0, .int .i64 0]), tripS.size, 24) := by kernel_rfl

set_option maxRecDepth 100000 in
set_option maxHeartbeats 1000000 in
theorem growG_any (n : Nat) (w : World) (hn : (n : Int) ≤ 1048576) :
    Calls Tryz.prog 134 #[.slice none 0 0, .int .i64 n] w fun e w' => ∃ A c, e = .returned (.slice A 0 c) ∧ SlOwn tripS w' w.heap.size 108 (.slice A 0 c) [] ∧ Below w.heap.size w w' := by
  obtain ⟨i0, hi, hz0, hz1, hz2⟩ := info_parts ghoI
  by_cases h0 : n = 0
  · subst h0
    clear hi hz0 hz1 hz2
    go_enter Tryz.func134, Tryz.ntmps134
    go_wp2
    go_ret
    exact ⟨none, 0, rfl, SlOwn.nil _ _ _ _, Below.refl _ _⟩
  · have hp : (0 : Int) < (n : Int) := by omega
    have hsz : i0.size = tripS.size := hz1
    have hold : (Builtin.firstCells i0.size 0 (.slice none 0 0)).run Tryz.prog w.drew = .ok ([] : List Value).toArray w.drew := run_firstCells_none w.drew i0.size 0 0 0
    have hnx : Builtin.nextslicecap (0 + n) 0 * i0.bytes ≤ 281474976710656 := growslice_fits (by omega) (by rw [hz2]; omega)
    have hrz : ∀ ty, (Builtin.append_ #[105, 3] ty #[.slice none 0 0, .int .i64 (n : Int)]).run Tryz.prog w = _ := fun ty =>
      Lib.run_append_grow_zeros w 105 3 ty 108 i0 _ .i64 .i64 Tryz.underlying105 Tryz.underlying3 hi hz0 none 0 0 [] hold n (by omega) (by rw [hsz]; exact tripS.pos) (by omega) (by omega) (by rw [hz2]; omega) hnx
    have hown : SlOwn tripS (w.drew.alloc (.cells (([] : List Value).toArray ++ Builtin.zeroCells (Value.agg #[.int .i64 0, .int .i64 0, .int .i64 0]).cells n ++ Builtin.zeroCells (Value.agg #[.int .i64 0, .int .i64 0, .int .i64 0]).cells (grownCap w (0 + n) 0 108 - (0 + n))) 108)) w.heap.size 108 (.slice (some ⟨w.heap.size, 0, none⟩) 0 (grownCap w (0 + n) 0 108)) [] := by
      have hge := grownCap_ge w (0 + n) 0 108
      have hle := grownCap_le_maxLen w (0 + n) 0 108 (by unfold maxLen; omega)
      refine World.ownsRow_made w.drew _ _ (Nat.le_refl _) hle ?_
      simp only [Array.size_append, size_zeroCells]
      have e : (Value.agg #[.int .i64 0, .int .i64 0, .int .i64 0]).cells.size = tripS.size := rfl
      rw [e]
      have e2 : ([] : List Value).toArray.size = 0 := rfl
      rw [e2, Nat.zero_add, ← Nat.add_mul]
      congr 1
      omega
    have hG := grownCap_ge w (0 + n) 0 108
    have hG2 := grownCap_le_maxLen w (0 + n) 0 108 (by unfold maxLen; omega)
    unfold maxLen at hG2
    generalize grownCap w (0 + n) 0 108 = G at *
    generalize hob : (Obj.cells (([] : List Value).toArray ++ Builtin.zeroCells (Value.agg #[.int .i64 0, .int .i64 0, .int .i64 0]).cells n ++ Builtin.zeroCells (Value.agg #[.int .i64 0, .int .i64 0, .int .i64 0]).cells (G - (0 + n))) 108) = ob at *
    have HOWN := Lib.hid hown
    have HRZ := Lib.hid hrz
    have hG3 : (n : Int) ≤ (G : Int) := by omega
    have hG4 : (G : Int) ≤ 9223372036854775807 := by omega
    clear hown hrz hnx hold hi hz0 hz1 hz2 hsz hob hG hG2
    go_enter Tryz.func134, Tryz.ntmps134
    go_wp2_with (at_builtin; refine Lib.wpList_append_run _ rfl _ _ _ _ rfl _ _ rfl rfl _ _ (HRZ.out _) ?_)
    go_ret
    exact ⟨_, _, rfl, HOWN.out, (Below.refl _ _).drew.alloc (by simp) _⟩

set_option maxRecDepth 100000 in
set_option maxHeartbeats 2000000 in
theorem concatG_any (g c2 : Nat) (A B : Option Addr) (c d : Nat) (l m : List _) (w : World) (hl : (l.length : Int) ≤ 65536) (hm : (m.length : Int) ≤ 65536) (hA : SlAt tripS w A l) (hB : SlAt tripS w B m)
    (h0 : w.cell? ⟨g, 0, none⟩ = some (.slice A l.length c)) (h1 : w.cell? ⟨g, 1, none⟩ = some (.slice B m.length d)) :
    Calls Tryz.prog 129 #[.slice (some ⟨g, 0, none⟩) 2 c2] w fun e w' => ∃ A' c', e = .returned (.slice A' (l ++ m).length c') ∧ SlOwn tripS w' w.heap.size 108 (.slice A' (l ++ m).length c') (l ++ m) ∧ Below w.heap.size w w' := by
  obtain ⟨i0, hi, hz0, hz1, hz2⟩ := info_parts ghoI
  have HA := Lib.hid hA
  have HB := Lib.hid hB
  have hgl : g < w.heap.size := World.block_lt_of_cell? _ _ h0
  clear hA hB
  have HGR : Hid (Calls Tryz.prog 134 #[.slice none 0 0, .int .i64 ((l.length : Int) + (m.length : Int))] w fun e w' => ∃ A c, e = .returned (.slice A 0 c) ∧ SlOwn tripS w' w.heap.size 108 (.slice A 0 c) [] ∧ Below w.heap.size w w') := by
    have := growG_any (l.length + m.length) w (by omega)
    rw [Int.natCast_add] at this
    exact this
  go_enter Tryz.func129, Tryz.ntmps129
  go_wp2
  refine wp_loop_rounds 3 ?_
  repeat any_goals (rw [rounds_succ]; go_wp2_with fail)
  refine HGR.out.mono ?_
  rintro e w1 ⟨A1, k1, rfl, ho1, hb1⟩
  have g0 := Below.cell_some hb1 h0
  have g1 := Below.cell_some hb1 h1
  have HO1 := Lib.hid ho1
  have HB1 := Lib.hid hb1
  have hs1 := hb1.size
  clear ho1 hb1 h0 h1
  go_wp2
  refine wp_loop_rounds 3 ?_
  rw [rounds_succ]
  go_wp2_with (at_builtin; refine wpList_append_sls tripS _ rfl _ _ 105 rfl w.heap.size 108 i0 _ 24 Tryz.underlying105 hi hz0 hz1 hz2 rfl (by decide) _ [] rfl HO1.out A c l rfl (HA.out.below HB1.out) (by simp; omega) hs1 ?_; intro A2 k2 w2 ho2 hb2; have ho2' : SlOwn tripS w2 w.heap.size 108 (.slice A2 l.length k2) l := (by simpa using ho2); have HO2 := Lib.hid ho2'; have HB2 := Lib.hid (HB1.out.trans hb2); have g0 := (hb2.cell (p := ⟨g, 0, none⟩) hgl).trans g0; have g1 := (hb2.cell (p := ⟨g, 1, none⟩) hgl).trans g1; clear ho2 ho2' hb2)
  rw [rounds_succ]
  go_wp2_with (at_builtin; refine wpList_append_sls tripS _ rfl _ _ 105 rfl w.heap.size 108 i0 _ 24 Tryz.underlying105 hi hz0 hz1 hz2 rfl (by decide) _ l rfl HO2.out B d m rfl (HB.out.below HB2.out) (by omega) HB2.out.size ?_; intro A3 k3 w3 ho3 hb3; have HO3 := Lib.hid ho3; have HB3 := Lib.hid (HB2.out.trans hb3); clear ho3 hb3)
  rw [rounds_succ]
  go_wp2
  go_ret
  exact ⟨A3, k3, by simp, HO3.out, HB3.out⟩

end Go.Proofs.YtiodlclaempihaaGreat

/- FallAs -/
namespace Go.Proofs.YtiodlclaempihaaGreat
open Go.RowKit

def fallAs (L : Int) (l : List (Int × Int)) : List (Int × Int × Int) := way (-1) (gsOf L l) ++ way 1 (gsOf L l)
def ft (g : Int × Int × Int) : Int := if g.2.1 = -1 then g.1 else g.2.2 - g.1
def fallsOf (L : Int) (l : List (Int × Int)) : List Int := (fallAs L l).map ft
theorem fallAs_len {L : Int} {l : List (Int × Int)} (hg : goodB L l = true) : (fallAs L l).length = l.length := by
  have := ways_sum hg
  unfold nL at this
  unfold fallAs
  rw [List.length_append]
  omega
theorem fallsOf_len {L : Int} {l : List (Int × Int)} (hg : goodB L l = true) : (fallsOf L l).length = l.length := by
  unfold fallsOf
  rw [List.length_map, fallAs_len hg]
/-- every ghost of a rod is a good one -/
def GoodGhost (g : Int × Int × Int) : Prop := 0 ≤ g.1 ∧ g.1 ≤ g.2.2 ∧ 2 ≤ g.2.2 ∧ g.2.2 ≤ 1000 ∧ (g.2.1 = -1 ∨ g.2.1 = 1)
theorem gsOf_good {L : Int} {l : List (Int × Int)} (hg : goodB L l = true) : ∀ g ∈ gsOf L l, GoodGhost g ∧ g.2.2 = L := by
  intro g hm
  unfold gsOf at hm
  obtain ⟨p, hp, rfl⟩ := List.mem_map.1 hm
  obtain ⟨k, hk⟩ := List.getElem?_of_mem hp
  obtain ⟨a, b, _, d⟩ := good_ant hg hk
  obtain ⟨e, f, _⟩ := good_hdr hg
  exact ⟨⟨a, b, e, f, d⟩, rfl⟩
theorem way_mem {y : Int} {l : List (Int × Int × Int)} {g : Int × Int × Int} (h : g ∈ way y l) : g ∈ l ∧ g.2.1 = y := by
  unfold way at h
  have := List.mem_filter.1 h
  exact ⟨this.1, by simpa using this.2⟩
theorem fallAs_good {L : Int} {l : List (Int × Int)} (hg : goodB L l = true) : ∀ g ∈ fallAs L l, GoodGhost g := by
  intro g hm
  unfold fallAs at hm
  rcases List.mem_append.1 hm with h | h <;> exact (gsOf_good hg g (way_mem h).1).1
theorem fallAs_good2 {L : Int} {l : List (Int × Int)} (hg : goodB L l = true) : ∀ g ∈ fallAs L l, GoodGhost g ∧ g.2.2 = L := by
  intro g hm
  unfold fallAs at hm
  rcases List.mem_append.1 hm with h | h <;> exact (gsOf_good hg g (way_mem h).1)
theorem ft_bounds {g : Int × Int × Int} (h : GoodGhost g) : 0 ≤ ft g ∧ ft g ≤ 1000 := by
  obtain ⟨a, b, c, d, e⟩ := h
  unfold ft
  split <;> omega

theorem fallTime_any (a y L : Int) (hg : GoodGhost (a, y, L)) (w : World) :
    Calls Tryz.prog 122 #[.agg #[.int .i64 a, .int .i64 y, .int .i64 L]] w fun e w' => e = .returned (.int .i64 (ft (a, y, L))) ∧ Below w.heap.size w w' := by
  obtain ⟨h1, h2, h3, h4, h5⟩ := hg
  simp only at h1 h2 h3 h4 h5
  rcases h5 with rfl | rfl
  · go_enter Tryz.func122, Tryz.ntmps122
    go_wp2_with fail
    refine (goesLeft_at a (-1) L true rfl _).mono ?_
    rintro e w1 ⟨rfl, hb⟩
    have hz : w.heap.size < w1.heap.size := by have := hb.size; simp at this; omega
    have c0 : w1.cell? ⟨w.heap.size, 0, none⟩ = some (.int .i64 a) := by rw [hb.cell (p := ⟨w.heap.size, 0, none⟩) (by simp)]; simp
    go_wp2
    go_ret
    exact ⟨ret_int rfl, ((Below.refl _ w).alloc (Nat.le_refl _) _).trans (hb.mono (by simp))⟩
  · go_enter Tryz.func122, Tryz.ntmps122
    go_wp2_with fail
    refine (goesLeft_at a 1 L false rfl _).mono ?_
    rintro e w1 ⟨rfl, hb⟩
    have hz : w.heap.size < w1.heap.size := by have := hb.size; simp at this; omega
    have c0 : w1.cell? ⟨w.heap.size, 0, none⟩ = some (.int .i64 a) := by rw [hb.cell (p := ⟨w.heap.size, 0, none⟩) (by simp)]; simp
    have c2 : w1.cell? ⟨w.heap.size, 2, none⟩ = some (.int .i64 L) := by rw [hb.cell (p := ⟨w.heap.size, 2, none⟩) (by simp)]; simp
    go_wp2
    go_ret
    exact ⟨ret_int rfl, ((Below.refl _ w).alloc (Nat.le_refl _) _).trans (hb.mono (by simp))⟩

theorem intInfo : (Tryz.prog.info? 3).map (fun i => (i.zero, i.size, i.bytes)) = some (some (.int .i64 0), intS.size, 8) := by kernel_rfl

set_option maxRecDepth 100000 in
set_option maxHeartbeats 1000000 in
theorem numbersOf_fallTime (A : Option Addr) (c : Nat) (m : List (Int × Int × Int)) (w : World) (hn : (m.length : Int) ≤ 1000) (hg : ∀ g ∈ m, GoodGhost g) (hA : SlAt tripS w A m) :
    Calls Tryz.prog 128 #[.slice A m.length c, .func (.func 122) #[] #[]] w fun e w' => ∃ A' c', e = .returned (.slice A' (m.map ft).length c') ∧ SlOwn intS w' w.heap.size 3 (.slice A' (m.map ft).length c') (m.map ft) ∧ Below w.heap.size w w' := by
  obtain ⟨i0, hi, hz0, hz1, hz2⟩ := info_parts intInfo
  have HA := Lib.hid hA
  have HG := Lib.hid hg
  clear hA hg
  go_enter Tryz.func128, Tryz.ntmps128
  go_wp2_with (at_make; refine wpList_make_own _ rfl _ _ _ rfl w.heap.size 3 i0 _ 1 Tryz.underlying22 hi hz0 hz1 .i64 .i64 _ m.length rfl rfl rfl (by rw [hz2]; omega) (by unfold maxLen; omega) (Nat.le_refl _) ?_; intro w1 hown hg1)
  have HB1 := Lib.hid ((Below.refl w.heap.size w).grown hg1 (Nat.le_refl _) (by simp))
  have HO1 : Hid (SlOwn intS w1 w.heap.size 3 (.slice (some ⟨w.heap.size, 0, none⟩) 0 m.length) ((m.take 0).map ft)) := hown
  clear hg1 hown
  go_loopw [5, 13] (fun v i wr => ∃ k : Nat, k ≤ m.length ∧ i = .int .i64 k ∧ Below w.heap.size w wr ∧ SlOwn intS wr w.heap.size 3 v ((m.take k).map ft))
    (fun _ i _ => m.length - (intOf i).toNat)
  case atStart => exact ⟨0, Nat.zero_le _, rfl, HB1.out, HO1.out⟩
  case round =>
    obtain ⟨k, hk, rfl, hb, hown⟩ := hrel
    have HB := Lib.hid hb
    have hs := hb.size
    have HAr := Lib.hid (HA.out.below hb)
    clear hb
    obtain ⟨A3, k3, rfl, hat, hin⟩ := hown.form
    have hlen : ((m.take k).map ft).length = k := by simp; omega
    rw [hlen] at hown
    have HOW := Lib.hid hown
    have HLEN := Lib.hid hlen
    clear hown hat hin hlen
    by_cases hlt : k < m.length
    · obtain ⟨b, off, rfl, l0, hc⟩ := HAr.out.trip_at hlt
      have hx : m[k]? = some (m[k]'hlt) := List.getElem?_eq_getElem hlt
      obtain ⟨a0, a1, a2⟩ := hc k _ hx
      have hgood := HG.out _ (List.getElem_mem hlt)
      have HT : Hid ((m.take (k + 1)).map ft = (m.take k).map ft ++ [ft (m[k]'hlt)]) := by
        show _ = _
        rw [List.take_succ_eq_append_getElem hlt, List.map_append]; rfl
      clear hc hx
      generalize m[k]'hlt = x at *
      obtain ⟨x1, x2, x3⟩ := x
      simp only at a0 a1 a2
      have HGG := Lib.hid hgood
      clear hgood
      go_wp2_with fail
      refine (fallTime_any x1 x2 x3 HGG.out _).mono ?_
      rintro e w3 ⟨rfl, hb3⟩
      have HB3 := Lib.hid (((Below.refl _ wr).alloc (Nat.le_refl _) _).trans (hb3.mono (by simp)))
      clear hb3
      go_wp2_with (at_builtin; refine wpList_append_sl intS _ rfl _ _ 22 rfl w.heap.size 3 i0 _ 8 Tryz.underlying22 hi hz0 hz1 hz2 rfl (by decide) _ _ rfl ((HOW.out.below HB3.out).below ((Below.refl _ _).alloc (Nat.le_refl _) _)) w3.heap.size (ft (x1, x2, x3)) #[.int .i64 (ft (x1, x2, x3))] _ _ rfl (heap_new rfl) rfl (by have := HLEN.out; omega) (by have := HB3.out.size; simp; omega) ?_; intro A5 k5 w5 hown5 hb5 hg5)
      go_roundw
      case rel =>
        refine ⟨k + 1, by omega, by go_num, ?_, ?_⟩
        · exact HB.out.trans ((HB3.out.mono hs).trans (((Below.refl _ _).alloc (by have := HB3.out.size; omega) _).trans hb5))
        · rw [HT.out]; have h5 := hown5; rw [List.length_append, HLEN.out] at h5; simpa using h5
      case measure => simp [intOf]; omega
    · obtain rfl : k = m.length := by omega
      rw [List.take_length] at HOW
      go_wp2
      go_ret
      exact ⟨A3, k3, by simp, by simpa using HOW.out, HB.out⟩

set_option maxRecDepth 100000 in
set_option maxHeartbeats 1000000 in
theorem fallAs_any (L : Int) (A : Option Addr) (c : Nat) (l : List (Int × Int)) (w : World) (hn : (l.length : Int) ≤ 16) (hA : AntsAt w A l) :
    Calls Tryz.prog 121 #[.agg #[.int .i64 L, .slice A l.length c]] w fun e w' => ∃ A' c', e = .returned (.slice A' (fallAs L l).length c') ∧ SlOwn tripS w' w.heap.size 108 (.slice A' (fallAs L l).length c') (fallAs L l) ∧ Below w.heap.size w w' := by
  have HA := Lib.hid (hA.alloc (Obj.cells #[Value.int IntKind.i64 L, Value.slice A l.length c] 71))
  clear hA
  have hnl : ((way (-1) (gsOf L l)).length : Int) ≤ 16 := by have := way_len (-1) (gsOf L l); rw [gsOf_len] at this; omega
  have hnr : ((way 1 (gsOf L l)).length : Int) ≤ 16 := by have := way_len 1 (gsOf L l); rw [gsOf_len] at this; omega
  obtain ⟨W, hW⟩ : ∃ W, W = w.alloc (Obj.cells #[Value.int IntKind.i64 L, Value.slice A l.length c] 71) := ⟨_, rfl⟩
  have hWs : W.heap.size = w.heap.size + 1 := by rw [hW]; simp
  have c0 : W.cell? ⟨w.heap.size, 0, none⟩ = some (.int .i64 L) := by rw [hW]; simp
  have c1 : W.cell? ⟨w.heap.size, 1, none⟩ = some (.slice A l.length c) := by rw [hW]; simp
  have HBW : Hid (Below w.heap.size w W) := by show Below _ _ _; rw [hW]; exact (Below.refl _ _).alloc (Nat.le_refl _) _
  rw [← hW] at HA
  have HL : Hid (∀ X, Below W.heap.size W X → Calls Tryz.prog 117 #[.agg #[.int .i64 L, .slice A l.length c], .func (.func 94) #[] #[]] X fun e w' => ∃ A' c', e = .returned (.slice A' (way (-1) (gsOf L l)).length c') ∧ SlAt tripS w' A' (way (-1) (gsOf L l)) ∧ Below X.heap.size X w') :=
    fun X hb => (thatL_any L A c l X hn (HA.out.below hb)).mono fun e w' ⟨A', c', he, ho, hw⟩ => ⟨A', c', he, ho.sl, hw⟩
  have HR : Hid (∀ X, Below W.heap.size W X → Calls Tryz.prog 117 #[.agg #[.int .i64 L, .slice A l.length c], .func (.func 118) #[] #[]] X fun e w' => ∃ A' c', e = .returned (.slice A' (way 1 (gsOf L l)).length c') ∧ SlAt tripS w' A' (way 1 (gsOf L l)) ∧ Below X.heap.size X w') :=
    fun X hb => (thatR_any L A c l X hn (HA.out.below hb)).mono fun e w' ⟨A', c', he, ho, hw⟩ => ⟨A', c', he, ho.sl, hw⟩
  have HD : Hid (Below W.heap.size W W.drew) := (Below.refl _ _).drew
  go_enter Tryz.func121, Tryz.ntmps121
  go_wp2
  rw [← hW]
  have HWE := Lib.hid hW
  clear hW
  go_region_held3 (fun w' => w'.cell? ⟨w.heap.size, 0, none⟩ = some (.int .i64 L) ∧ w'.cell? ⟨w.heap.size, 1, none⟩ = some (.slice A l.length c))
    (first
      | go_keep
      | exact ⟨Below.cell_some hbx c0, Below.cell_some hbx c1⟩
      | exact ⟨Below.cell_some hby d0, Below.cell_some hby d1⟩
      | exact ⟨Below.cell_some hbz (alloc_some e0 _), Below.cell_some hbz (alloc_some e1 _)⟩)
    (first
      | (go_at_call 117; (with_reducible refine (HL.out W.drew HD.out).mono ?_); rintro e w2 ⟨A2, k2, rfl, ha2, hbx0⟩; have hbx := below_drew hbx0; clear hbx0; have d0 := Below.cell_some hbx c0; have d1 := Below.cell_some hbx c1)
      | (go_at_call 117; (with_reducible refine (HR.out W.drew HD.out).mono ?_); rintro e w2 ⟨A2, k2, rfl, ha2, hbx0⟩; have hbx := below_drew hbx0; clear hbx0; have d0 := Below.cell_some hbx c0; have d1 := Below.cell_some hbx c1)
      | (go_at_call 117; (with_reducible refine (HL.out _ hbx).mono ?_); rintro e w3 ⟨A3, k3, rfl, ha3, hby⟩; have e0 := Below.cell_some hby d0; have e1 := Below.cell_some hby d1)
      | (go_at_call 117; (with_reducible refine (HR.out _ hbx).mono ?_); rintro e w3 ⟨A3, k3, rfl, ha3, hby⟩; have e0 := Below.cell_some hby d0; have e1 := Below.cell_some hby d1)
      | (go_at_call 129; refine (concatG_any _ _ A2 A3 k2 k3 (way (-1) (gsOf L l)) (way 1 (gsOf L l)) _ (by omega) (by omega) ((ha2.below hby).alloc _) (ha3.alloc _) (by simp) (by simp)).mono ?_; rintro e w4 ⟨A4, k4, rfl, ho4, hbz⟩)
      | (go_at_call 129; refine (concatG_any _ _ A3 A2 k3 k2 (way (-1) (gsOf L l)) (way 1 (gsOf L l)) _ (by omega) (by omega) (ha3.alloc _) ((ha2.below hby).alloc _) (by simp) (by simp)).mono ?_; rintro e w4 ⟨A4, k4, rfl, ho4, hbz⟩))
  all_goals go_wp2
  all_goals go_ret
  all_goals
    have b1 := HBW.out.trans (hbx.mono (by omega))
    have b2 := b1.trans (hby.mono b1.size)
    exact ⟨A4, k4, by simp [fallAs], (by have := ho4.base (B' := w.heap.size) (by have := b2.size; simp; omega); simpa [fallAs] using this), below_via b2 b2.size hbz⟩

end Go.Proofs.YtiodlclaempihaaGreat

/- RoFalls -/
namespace Go.Proofs.YtiodlclaempihaaGreat
open Go.RowKit

theorem roEnd_any (a y L : Int) (hg : GoodGhost (a, y, L)) (w : World) :
    Calls Tryz.prog 97 #[.int .i64 L, .agg #[.int .i64 a, .int .i64 y]] w fun e w' => e = .returned (.int .i64 (ft (a, y, L))) ∧ Below w.heap.size w w' := by
  obtain ⟨h1, h2, h3, h4, h5⟩ := hg
  simp only at h1 h2 h3 h4 h5
  rcases h5 with rfl | rfl
  · go_enter Tryz.func97, Tryz.ntmps97
    go_wp2
    go_ret
    exact ⟨ret_int rfl, (Below.refl _ w).alloc (Nat.le_refl _) _⟩
  · go_enter Tryz.func97, Tryz.ntmps97
    go_wp2
    go_ret
    exact ⟨ret_int rfl, (Below.refl _ w).alloc (Nat.le_refl _) _⟩

set_option maxRecDepth 100000 in
set_option maxHeartbeats 2000000 in
theorem roFalls_good (L : Int) (A : Option Addr) (c : Nat) (l : List (Int × Int)) (w : World) (hg : goodB L l = true) (hA : AntsAt w A l) :
    Calls Tryz.prog 83 #[.agg #[.int .i64 L, .slice A l.length c]] w fun e w' => ∃ A' n c', e = .returned (.slice A' n c') ∧ n = (fallsOf L l).length ∧ SlOwn intS w' w.heap.size 3 (.slice A' n c') (fallsOf L l) ∧ Below w.heap.size w w' := by
  obtain ⟨i0, hi, hz0, hz1, hz2⟩ := info_parts intInfo
  have hn := good_len hg
  have HLL : Hid (2 ≤ L ∧ L ≤ 1000) := ⟨(good_hdr hg).1, (good_hdr hg).2.1⟩
  have HGG := Lib.hid hg
  clear hg
  obtain ⟨W, hW⟩ : ∃ W, W = (w.alloc (Obj.cells #[Value.int IntKind.i64 L, Value.slice A l.length c] 71)).alloc (Obj.cells #[Value.int IntKind.i64 (-1), Value.int IntKind.i64 1] 3) := ⟨_, rfl⟩
  have hWs : W.heap.size = w.heap.size + 2 := by rw [hW]; simp
  have C0 : Hid (W.cell? ⟨w.heap.size, 0, none⟩ = some (.int .i64 L)) := by show _ = _; rw [hW]; simp [go_sem]
  have C1 : Hid (W.cell? ⟨w.heap.size, 1, none⟩ = some (.slice A l.length c)) := by show _ = _; rw [hW]; simp [go_sem]
  have W0 : Hid (W.cell? ⟨w.heap.size + 1, 0, none⟩ = some (.int .i64 (-1))) := by show _ = _; rw [hW]; simp [go_sem]
  have W1 : Hid (W.cell? ⟨w.heap.size + 1, 1, none⟩ = some (.int .i64 1)) := by show _ = _; rw [hW]; simp [go_sem]
  have HBW : Hid (Below w.heap.size w W) := by show Below _ _ _; rw [hW]; exact ((Below.refl _ _).alloc (Nat.le_refl _) _).alloc (by simp) _
  have HA := Lib.hid (hA.below HBW.out)
  clear hA
  go_enter Tryz.func83, Tryz.ntmps83
  go_wp2
  rw [← hW]
  have HPL : Hid (([] : List Int).length ≤ 16) := by show _ ≤ _; simp
  have HPL0 := HPL
  have HBS : Hid (Below (w.heap.size + 2) W W) := Below.refl _ _
  have HOS : Hid (SlOwn intS W (w.heap.size + 2) 3 (.slice none 0 0) (([] : List Int) ++ (way (-1) (gsOf L (l.take 0))).map ft)) := by
    show SlOwn _ _ _ _ _ _
    simpa [gsOf_nil, way] using SlOwn.nil intS W (w.heap.size + 2) 3
  have c0 := C0.out
  have c1 := C1.out
  have w0 := W0.out
  have w1 := W1.out
  have hs1 : w.heap.size < W.heap.size := by omega
  have hs2 : w.heap.size + 1 < W.heap.size := by omega
  have HWE := Lib.hid hW
  have hWs' := Lib.hid hWs
  clear hW
  refine wp_loop_rounds 3 ?_
  rw [rounds_succ]
  go_wp2
  go_loopw [3, 17] (fun v i wr => ∃ k : Nat, k ≤ l.length ∧ i = .int .i64 k ∧ Below (w.heap.size + 2) W wr ∧ SlOwn intS wr (w.heap.size + 2) 3 v (([] : List Int) ++ (way (-1) (gsOf L (l.take k))).map ft))
    (fun _ i _ => l.length - (intOf i).toNat)
  case atStart => exact ⟨0, Nat.zero_le _, rfl, HBS.out, HOS.out⟩
  case round =>
    obtain ⟨k, hk, rfl, hb, hown⟩ := hrel
    have HB := Lib.hid hb
    have hs := hb.size
    have hs1 : w.heap.size < wr.heap.size := by omega
    have hs2 : w.heap.size + 1 < wr.heap.size := by omega
    have c0 : wr.cell? ⟨w.heap.size, 0, none⟩ = some (.int .i64 L) := (hb.cell (p := ⟨w.heap.size, 0, none⟩) (by simp)).trans C0.out
    have c1 : wr.cell? ⟨w.heap.size, 1, none⟩ = some (.slice A l.length c) := (hb.cell (p := ⟨w.heap.size, 1, none⟩) (by simp)).trans C1.out
    have w0 : wr.cell? ⟨w.heap.size + 1, 0, none⟩ = some (.int .i64 (-1)) := (hb.cell (p := ⟨w.heap.size + 1, 0, none⟩) (by simp)).trans W0.out
    have w1 : wr.cell? ⟨w.heap.size + 1, 1, none⟩ = some (.int .i64 1) := (hb.cell (p := ⟨w.heap.size + 1, 1, none⟩) (by simp)).trans W1.out
    have HAr := Lib.hid (HA.out.below (hb.mono (by omega)))
    clear hb
    obtain ⟨A3, k3, rfl, hat, hin⟩ := hown.form
    have hlen : (([] : List Int) ++ (way (-1) (gsOf L (l.take k))).map ft).length ≤ 100 := by
      have h1 := way_len (-1) (gsOf L (l.take k))
      rw [gsOf_len] at h1
      have h2 : (l.take k).length ≤ k := List.length_take_le _ _
      have h3 := HPL.out
      simp only [List.length_append, List.length_map, List.length_nil] at *
      omega
    obtain ⟨N, hN⟩ : ∃ N, N = (([] : List Int) ++ (way (-1) (gsOf L (l.take k))).map ft).length := ⟨_, rfl⟩
    rw [← hN] at hown hlen
    rw [← hN]
    have HN := Lib.hid hN
    have HOW := Lib.hid hown
    clear hown hat hin hN
    by_cases hlt : k < l.length
    · obtain ⟨b, off, rfl, l0, hc⟩ := HAr.out.at_ hlt
      obtain ⟨a0, a1⟩ := hc k hlt
      have hx : l[k]? = some (l.getD k (0, 0)) := by rw [List.getD_eq_getElem?_getD, List.getElem?_eq_getElem hlt]; rfl
      have HT := Lib.hid (gsOf_take L l k _ hx)
      have hgd := good_ant HGG.out hx
      clear hc hx
      generalize l.getD k (0, 0) = x at *
      obtain ⟨x1, x2⟩ := x
      simp only at a0 a1 hgd
      have HGD := Lib.hid hgd
      clear hgd
      cases hy : (x2 == -1) with
      | false =>
        have HW : Hid (way (-1) (gsOf L (l.take (k + 1))) = way (-1) (gsOf L (l.take k))) := by
          show _ = _
          rw [HT.out]; exact way_snoc_no _ _ _ hy
        go_wp2
        go_roundw
        case rel =>
          refine ⟨k + 1, by omega, by go_num, HB.out.trans ((Below.refl _ _).alloc (by omega) _), ?_⟩
          rw [HW.out]
          exact HOW.out.below ((Below.refl _ _).alloc (Nat.le_refl _) _)
        case measure => simp [intOf]; omega
      | true =>
        have HW : Hid (way (-1) (gsOf L (l.take (k + 1))) = way (-1) (gsOf L (l.take k)) ++ [(x1, x2, L)]) := by
          show _ = _
          rw [HT.out]; exact way_snoc_yes _ _ _ hy
        have HE : Hid (∀ X, Calls Tryz.prog 97 #[.int .i64 L, .agg #[.int .i64 x1, .int .i64 x2]] X fun e w' => e = .returned (.int .i64 (ft (x1, x2, L))) ∧ Below X.heap.size X w') :=
          fun X => roEnd_any x1 x2 L ⟨HGD.out.1, HGD.out.2.1, HLL.out.1, HLL.out.2, HGD.out.2.2.2⟩ X
        go_wp2_with fail
        refine (HE.out _).mono ?_
        rintro e w3 ⟨rfl, hb3⟩
        have HB3 := Lib.hid (((Below.refl _ wr).alloc (Nat.le_refl _) _).trans (hb3.mono (by simp)))
        clear hb3
        go_wp2_with (at_builtin; refine wpList_append_sl intS _ rfl _ _ 22 rfl (w.heap.size + 2) 3 i0 _ 8 Tryz.underlying22 hi hz0 hz1 hz2 rfl (by decide) _ _ rfl ((HOW.out.below HB3.out).below ((Below.refl _ _).alloc (Nat.le_refl _) _)) w3.heap.size (ft (x1, x2, L)) #[.int .i64 (ft (x1, x2, L))] _ _ rfl (heap_new rfl) rfl (by have := HN.out; omega) (by have := HB3.out.size; simp; omega) ?_; intro A5 k5 w5 hown5 hb5 hg5)
        go_roundw
        case rel =>
          refine ⟨k + 1, by omega, by go_num, ?_, ?_⟩
          · exact HB.out.trans ((HB3.out.mono (by omega)).trans (((Below.refl _ _).alloc (by have := HB3.out.size; omega) _).trans hb5))
          · rw [HW.out, List.map_append, ← List.append_assoc]; simpa using hown5
        case measure => simp [intOf]; omega
    · obtain rfl : k = l.length := by omega
      rw [List.take_length] at HN HOW
      have HPL : Hid (((way (-1) (gsOf L l)).map ft).length ≤ 16) := by
        show _ ≤ _
        have h1 := way_len (-1) (gsOf L l)
        rw [gsOf_len] at h1
        rw [List.length_map]; omega
      have HBS := HB
      have HOS : Hid (SlOwn intS wr (w.heap.size + 2) 3 (.slice A3 N k3) ((way (-1) (gsOf L l)).map ft ++ (way 1 (gsOf L (l.take 0))).map ft)) := by
        show SlOwn _ _ _ _ _ _
        have := HOW.out
        simpa [gsOf_nil, way] using this
      have HWR := Lib.hid hs
      clear HN HPL0
      go_wp2
      rw [rounds_succ]
      go_wp2
      go_loopw [3, 17] (fun v i wr => ∃ k : Nat, k ≤ l.length ∧ i = .int .i64 k ∧ Below (w.heap.size + 2) W wr ∧ SlOwn intS wr (w.heap.size + 2) 3 v ((way (-1) (gsOf L l)).map ft ++ (way (1) (gsOf L (l.take k))).map ft))
        (fun _ i _ => l.length - (intOf i).toNat)
      case atStart => exact ⟨0, Nat.zero_le _, rfl, HBS.out, HOS.out⟩
      case round =>
        obtain ⟨k, hk, rfl, hb, hown⟩ := hrel
        have HB := Lib.hid hb
        have hs := hb.size
        have hs1 : w.heap.size < wr.heap.size := by omega
        have hs2 : w.heap.size + 1 < wr.heap.size := by omega
        have c0 : wr.cell? ⟨w.heap.size, 0, none⟩ = some (.int .i64 L) := (hb.cell (p := ⟨w.heap.size, 0, none⟩) (by simp)).trans C0.out
        have c1 : wr.cell? ⟨w.heap.size, 1, none⟩ = some (.slice A l.length c) := (hb.cell (p := ⟨w.heap.size, 1, none⟩) (by simp)).trans C1.out
        have w0 : wr.cell? ⟨w.heap.size + 1, 0, none⟩ = some (.int .i64 (-1)) := (hb.cell (p := ⟨w.heap.size + 1, 0, none⟩) (by simp)).trans W0.out
        have w1 : wr.cell? ⟨w.heap.size + 1, 1, none⟩ = some (.int .i64 1) := (hb.cell (p := ⟨w.heap.size + 1, 1, none⟩) (by simp)).trans W1.out
        have HAr := Lib.hid (HA.out.below (hb.mono (by omega)))
        clear hb
        obtain ⟨A3, k3, rfl, hat, hin⟩ := hown.form
        have hlen : ((way (-1) (gsOf L l)).map ft ++ (way (1) (gsOf L (l.take k))).map ft).length ≤ 100 := by
          have h1 := way_len (1) (gsOf L (l.take k))
          rw [gsOf_len] at h1
          have h2 : (l.take k).length ≤ k := List.length_take_le _ _
          have h3 := HPL.out
          simp only [List.length_append, List.length_map, List.length_nil] at *
          omega
        obtain ⟨N, hN⟩ : ∃ N, N = ((way (-1) (gsOf L l)).map ft ++ (way (1) (gsOf L (l.take k))).map ft).length := ⟨_, rfl⟩
        rw [← hN] at hown hlen
        rw [← hN]
        have HN := Lib.hid hN
        have HOW := Lib.hid hown
        clear hown hat hin hN
        by_cases hlt : k < l.length
        · obtain ⟨b, off, rfl, l0, hc⟩ := HAr.out.at_ hlt
          obtain ⟨a0, a1⟩ := hc k hlt
          have hx : l[k]? = some (l.getD k (0, 0)) := by rw [List.getD_eq_getElem?_getD, List.getElem?_eq_getElem hlt]; rfl
          have HT := Lib.hid (gsOf_take L l k _ hx)
          have hgd := good_ant HGG.out hx
          clear hc hx
          generalize l.getD k (0, 0) = x at *
          obtain ⟨x1, x2⟩ := x
          simp only at a0 a1 hgd
          have HGD := Lib.hid hgd
          clear hgd
          cases hy : (x2 == 1) with
          | false =>
            have HW : Hid (way (1) (gsOf L (l.take (k + 1))) = way (1) (gsOf L (l.take k))) := by
              show _ = _
              rw [HT.out]; exact way_snoc_no _ _ _ hy
            go_wp2
            go_roundw
            case rel =>
              refine ⟨k + 1, by omega, by go_num, HB.out.trans ((Below.refl _ _).alloc (by omega) _), ?_⟩
              rw [HW.out]
              exact HOW.out.below ((Below.refl _ _).alloc (Nat.le_refl _) _)
            case measure => simp [intOf]; omega
          | true =>
            have HW : Hid (way (1) (gsOf L (l.take (k + 1))) = way (1) (gsOf L (l.take k)) ++ [(x1, x2, L)]) := by
              show _ = _
              rw [HT.out]; exact way_snoc_yes _ _ _ hy
            have HE : Hid (∀ X, Calls Tryz.prog 97 #[.int .i64 L, .agg #[.int .i64 x1, .int .i64 x2]] X fun e w' => e = .returned (.int .i64 (ft (x1, x2, L))) ∧ Below X.heap.size X w') :=
              fun X => roEnd_any x1 x2 L ⟨HGD.out.1, HGD.out.2.1, HLL.out.1, HLL.out.2, HGD.out.2.2.2⟩ X
            go_wp2_with fail
            refine (HE.out _).mono ?_
            rintro e w3 ⟨rfl, hb3⟩
            have HB3 := Lib.hid (((Below.refl _ wr).alloc (Nat.le_refl _) _).trans (hb3.mono (by simp)))
            clear hb3
            go_wp2_with (at_builtin; refine wpList_append_sl intS _ rfl _ _ 22 rfl (w.heap.size + 2) 3 i0 _ 8 Tryz.underlying22 hi hz0 hz1 hz2 rfl (by decide) _ _ rfl ((HOW.out.below HB3.out).below ((Below.refl _ _).alloc (Nat.le_refl _) _)) w3.heap.size (ft (x1, x2, L)) #[.int .i64 (ft (x1, x2, L))] _ _ rfl (heap_new rfl) rfl (by have := HN.out; omega) (by have := HB3.out.size; simp; omega) ?_; intro A5 k5 w5 hown5 hb5 hg5)
            go_roundw
            case rel =>
              refine ⟨k + 1, by omega, by go_num, ?_, ?_⟩
              · exact HB.out.trans ((HB3.out.mono (by omega)).trans (((Below.refl _ _).alloc (by have := HB3.out.size; omega) _).trans hb5))
              · rw [HW.out, List.map_append, ← List.append_assoc]; simpa using hown5
            case measure => simp [intOf]; omega
        · obtain rfl : k = l.length := by omega
          rw [List.take_length] at HN HOW
          go_wp2
          rw [rounds_succ]
          go_wp2
          go_ret
          exact ⟨A3, N, k3, rfl, (by rw [HN.out]; simp [fallsOf, fallAs]), by have := HOW.out; simpa [fallsOf, fallAs] using this.base (B' := w.heap.size) (by omega), HBW.out.trans (HB.out.mono (by omega))⟩

end Go.Proofs.YtiodlclaempihaaGreat

/- Last -/
namespace Go.Proofs.YtiodlclaempihaaGreat
open Go.RowKit

/-- what FallTimes returns -/
def ftV (L : Int) (l : List (Int × Int)) : List Int := if goodB L l then fallsOf L l else []
theorem fallsOf_bounds {L : Int} {l : List (Int × Int)} (hg : goodB L l = true) : ∀ x ∈ fallsOf L l, 0 ≤ x ∧ x ≤ 1000 := by
  intro x hx
  unfold fallsOf at hx
  obtain ⟨g, hm, rfl⟩ := List.mem_map.1 hx
  exact ft_bounds (fallAs_good hg g hm)
theorem ftV_bounds (L : Int) (l : List (Int × Int)) : ∀ x ∈ ftV L l, 0 ≤ x ∧ x ≤ 1000 := by
  intro x hx
  unfold ftV at hx
  split at hx
  · exact fallsOf_bounds (by assumption) x hx
  · simp at hx
theorem ftV_len (L : Int) (l : List (Int × Int)) : ((ftV L l).length : Int) ≤ 16 := by
  unfold ftV
  split
  · rename_i h
    rw [fallsOf_len h]; exact good_len h
  · simp
def maxOf (l : List Int) : Int := l.foldl (fun a b => if a < b then b else a) 0
theorem maxOf_snoc (l : List Int) (x : Int) : maxOf (l ++ [x]) = if maxOf l < x then x else maxOf l := by
  unfold maxOf
  rw [List.foldl_append]
  rfl
theorem maxOf_bounds (l : List Int) (h : ∀ x ∈ l, 0 ≤ x ∧ x ≤ 1000) : ∀ k, 0 ≤ maxOf (l.take k) ∧ maxOf (l.take k) ≤ 1000 := by
  intro k
  induction k with
  | zero => simp [maxOf]
  | succ k ih =>
    by_cases hk : k < l.length
    · rw [List.take_succ_eq_append_getElem hk, maxOf_snoc]
      have := h _ (List.getElem_mem hk)
      split <;> omega
    · rw [List.take_of_length_le (by omega)] at ih ⊢
      exact ih
/-- what LastFall returns -/
def lfV (L : Int) (l : List (Int × Int)) : Int := maxOf (ftV L l)

set_option maxHeartbeats 1000000 in
theorem implFallTimes_any (L : Int) (A : Option Addr) (c : Nat) (l : List (Int × Int)) (w : World) (hA : AntsAt w A l) :
    Calls Tryz.prog 119 #[.agg #[.int .i64 L, .slice A l.length c]] w fun e w' => ∃ A' n c', e = .returned (.tuple #[.slice A' n c', .bool (goodB L l)]) ∧ n = (ftV L l).length ∧ SlOwn intS w' w.heap.size 3 (.slice A' n c') (ftV L l) ∧ Below w.heap.size w w' := by
  have HA := Lib.hid (hA.alloc (Obj.cells #[Value.int IntKind.i64 L, Value.slice A l.length c] 71))
  clear hA
  cases hg : goodB L l with
  | false =>
    have HV : Hid (ftV L l = []) := by show _ = _; simp [ftV, hg]
    have HG : Hid (∀ w, AntsAt w A l → Calls Tryz.prog 92 #[.agg #[.int .i64 L, .slice A l.length c]] w fun e w' => e = .returned (.bool false) ∧ Below w.heap.size w w') := fun w h => by
      rw [← hg]; exact isRod_any L A c l w h
    clear hg
    go_enter Tryz.func119, Tryz.ntmps119
    go_wp2_with fail
    refine (HG.out _ HA.out).mono ?_
    rintro e w1 ⟨rfl, hb⟩
    go_wp2
    go_ret2
    exact ⟨none, 0, 0, rfl, by rw [HV.out]; rfl, by rw [HV.out]; exact SlOwn.nil _ _ _ _, ((Below.refl _ _).alloc (Nat.le_refl _) _).trans (hb.mono (by simp))⟩
  | true =>
    have HV : Hid (ftV L l = (fallAs L l).map ft) := by show _ = _; simp [ftV, hg, fallsOf]
    have HG : Hid (∀ w, AntsAt w A l → Calls Tryz.prog 92 #[.agg #[.int .i64 L, .slice A l.length c]] w fun e w' => e = .returned (.bool true) ∧ Below w.heap.size w w') := fun w h => by
      rw [← hg]; exact isRod_any L A c l w h
    have hn := good_len hg
    have hfl : ((fallAs L l).length : Int) ≤ 1000 := by rw [fallAs_len hg]; omega
    have HGO := Lib.hid (fallAs_good hg)
    clear hg
    go_enter Tryz.func119, Tryz.ntmps119
    go_wp2_with fail
    refine (HG.out _ HA.out).mono ?_
    rintro e w1 ⟨rfl, hb⟩
    have c0 : w1.cell? ⟨w.heap.size, 0, none⟩ = some (.int .i64 L) := by rw [hb.cell (p := ⟨w.heap.size, 0, none⟩) (by simp)]; simp
    have c1 : w1.cell? ⟨w.heap.size, 1, none⟩ = some (.slice A l.length c) := by rw [hb.cell (p := ⟨w.heap.size, 1, none⟩) (by simp)]; simp
    have HB := Lib.hid (((Below.refl _ w).alloc (Nat.le_refl _) _).trans (hb.mono (by simp)))
    have HA1 := Lib.hid (HA.out.below hb)
    clear hb
    go_wp2_with fail
    refine (fallAs_any L A c l _ hn HA1.out).mono ?_
    rintro e w2 ⟨A2, c2, rfl, ho, hb2⟩
    have HO := Lib.hid ho.sl
    have HB2 := Lib.hid (HB.out.trans (hb2.mono HB.out.size))
    clear hb2 ho
    go_wp2_with fail
    refine (numbersOf_fallTime A2 c2 (fallAs L l) _ hfl HGO.out HO.out).mono ?_
    rintro e w3 ⟨A3, c3, rfl, ho3, hb3⟩
    go_wp2
    go_ret2
    exact ⟨A3, _, c3, rfl, by rw [HV.out]; simp, by rw [HV.out]; simpa using ho3.base HB2.out.size, HB2.out.trans (hb3.mono HB2.out.size)⟩

set_option maxHeartbeats 1000000 in
theorem implLastFall_any (L : Int) (A : Option Addr) (c : Nat) (l : List (Int × Int)) (w : World) (hA : AntsAt w A l) :
    Calls Tryz.prog 108 #[.agg #[.int .i64 L, .slice A l.length c]] w fun e w' => e = .returned (.tuple #[.int .i64 (lfV L l), .bool (goodB L l)]) ∧ Below w.heap.size w w' := by
  have HA := Lib.hid (hA.alloc (Obj.cells #[Value.int IntKind.i64 L, Value.slice A l.length c] 71))
  clear hA
  have hln := ftV_len L l
  have HBD := Lib.hid (ftV_bounds L l)
  have HMB := Lib.hid (maxOf_bounds (ftV L l) (ftV_bounds L l))
  go_enter Tryz.func108, Tryz.ntmps108
  go_wp2_with fail
  refine (implFallTimes_any L A c l _ HA.out).mono ?_
  rintro e w1 ⟨A1, n, c1, rfl, hn, ho, hb⟩
  subst hn
  have HB := Lib.hid (((Below.refl _ w).alloc (Nat.le_refl _) _).trans (hb.mono (by simp)))
  have HO := Lib.hid ho.sl
  clear hb ho
  have HLF : Hid (lfV L l = maxOf (ftV L l)) := rfl
  generalize ftV L l = m at *
  go_wp2
  go_loopw [6, 16] (fun v i wr => ∃ k : Nat, k ≤ m.length ∧ i = .int .i64 k ∧ v = .int .i64 (maxOf (m.take k)) ∧ Below w1.heap.size w1 wr)
    (fun _ i _ => m.length - (intOf i).toNat)
  case atStart => exact ⟨0, Nat.zero_le _, rfl, rfl, Below.refl _ _⟩
  case round =>
    obtain ⟨k, hk, rfl, rfl, hbr⟩ := hrel
    have HBr := Lib.hid hbr
    have HOr := Lib.hid (HO.out.below hbr)
    clear hbr
    by_cases hlt : k < m.length
    · obtain ⟨b, off, rfl, l0, hc⟩ := HOr.out.int_at hlt
      have hx : m[k]? = some (m[k]'hlt) := List.getElem?_eq_getElem hlt
      have a0 := hc k _ hx
      have hm := maxOf_snoc (m.take k) (m[k]'hlt)
      rw [← List.take_succ_eq_append_getElem hlt] at hm
      clear hc hx
      generalize m[k]'hlt = x at *
      generalize maxOf (m.take k) = s at *
      by_cases hsx : s < x
      · have HM : Hid (maxOf (m.take (k + 1)) = x) := by show _ = _; rw [hm, if_pos hsx]
        clear hm
        go_wp2
        go_roundw
        case rel => exact ⟨k + 1, by omega, by go_num, by rw [HM.out] <;> (congr 1; omega), HBr.out⟩
        case measure => simp [intOf]; omega
      · have HM : Hid (maxOf (m.take (k + 1)) = s) := by show _ = _; rw [hm, if_neg hsx]
        clear hm
        go_wp2
        go_roundw
        case rel => exact ⟨k + 1, by omega, by go_num, by rw [HM.out] <;> (congr 1; omega), HBr.out⟩
        case measure => simp [intOf]; omega
    · obtain rfl : k = m.length := by omega
      have HE : Hid (m.take m.length = m) := List.take_length
      go_wp2
      go_ret2
      exact ⟨ret_ib (by rw [HE.out, HLF.out]) rfl, HB.out.trans (HBr.out.mono HB.out.size)⟩

theorem most_at (a b r : Int) (hr : (if a < b then b else a) = r) (w : World) :
    Calls Tryz.prog 96 #[.int .i64 a, .int .i64 b] w fun e w' => e = .returned (.int .i64 r) ∧ w = w' := by
  subst hr
  by_cases h : b < a
  · have h2 : ¬ a < b := by omega
    rw [if_neg h2]
    go_enter Tryz.func96, Tryz.ntmps96
    go_wp2
    go_ret
    exact ⟨ret_int rfl, rfl⟩
  · by_cases h2 : a < b
    · rw [if_pos h2]
      go_enter Tryz.func96, Tryz.ntmps96
      go_wp2
      go_ret
      exact ⟨ret_int rfl, rfl⟩
    · obtain rfl : a = b := by omega
      rw [if_neg h2]
      go_enter Tryz.func96, Tryz.ntmps96
      go_wp2
      go_ret
      exact ⟨ret_int rfl, rfl⟩

set_option maxHeartbeats 1000000 in
theorem roLast_good (L : Int) (A : Option Addr) (c : Nat) (l : List (Int × Int)) (w : World) (hg : goodB L l = true) (hA : AntsAt w A l) :
    Calls Tryz.prog 82 #[.agg #[.int .i64 L, .slice A l.length c]] w fun e w' => e = .returned (.int .i64 (maxOf (fallsOf L l))) ∧ Below w.heap.size w w' := by
  have HA := Lib.hid (hA.alloc (Obj.cells #[Value.int IntKind.i64 L, Value.slice A l.length c] 71))
  clear hA
  have hln : ((fallsOf L l).length : Int) ≤ 16 := by rw [fallsOf_len hg]; exact good_len hg
  have HF : Hid (∀ w, AntsAt w A l → Calls Tryz.prog 83 #[.agg #[.int .i64 L, .slice A l.length c]] w fun e w' => ∃ A' n c', e = .returned (.slice A' n c') ∧ n = (fallsOf L l).length ∧ SlOwn intS w' w.heap.size 3 (.slice A' n c') (fallsOf L l) ∧ Below w.heap.size w w') :=
    fun w h => roFalls_good L A c l w hg h
  clear hg
  go_enter Tryz.func82, Tryz.ntmps82
  go_wp2_with fail
  refine (HF.out _ HA.out).mono ?_
  rintro e w1 ⟨A1, n, c1, rfl, hn, ho, hb⟩
  subst hn
  have HB := Lib.hid (((Below.refl _ w).alloc (Nat.le_refl _) _).trans (hb.mono (by simp)))
  have HO := Lib.hid ho.sl
  clear hb ho HF
  obtain ⟨m, hm⟩ : ∃ m, m = fallsOf L l := ⟨_, rfl⟩
  have HM := Lib.hid hm
  rw [← hm] at HO hln ⊢
  clear hm
  go_wp2
  go_loopw [3, 9] (fun v i wr => ∃ k : Nat, k ≤ m.length ∧ i = .int .i64 k ∧ v = .int .i64 (maxOf (m.take k)) ∧ Below w1.heap.size w1 wr)
    (fun _ i _ => m.length - (intOf i).toNat)
  case atStart => exact ⟨0, Nat.zero_le _, rfl, rfl, Below.refl _ _⟩
  case round =>
    obtain ⟨k, hk, rfl, rfl, hbr⟩ := hrel
    have HBr := Lib.hid hbr
    have HOr := Lib.hid (HO.out.below hbr)
    clear hbr
    by_cases hlt : k < m.length
    · obtain ⟨b, off, rfl, l0, hc⟩ := HOr.out.int_at hlt
      have hx : m[k]? = some (m[k]'hlt) := List.getElem?_eq_getElem hlt
      have a0 := hc k _ hx
      have hmx := maxOf_snoc (m.take k) (m[k]'hlt)
      rw [← List.take_succ_eq_append_getElem hlt] at hmx
      have HMX : Hid (maxOf (m.take (k + 1)) = _) := hmx
      have HMO : Hid (∀ X, Calls Tryz.prog 96 #[.int .i64 (maxOf (m.take k)), .int .i64 (m[k]'hlt)] X fun e w' => e = .returned (.int .i64 (maxOf (m.take (k + 1)))) ∧ X = w') := fun X => most_at _ _ _ hmx.symm X
      clear hc hx hmx HMX
      generalize m[k]'hlt = x at *
      generalize maxOf (m.take k) = s at *
      generalize hr : maxOf (m.take (k + 1)) = r at *
      have HR := Lib.hid hr
      clear hr
      go_wp2_with fail
      refine (HMO.out _).mono ?_
      rintro e w3 ⟨rfl, rfl⟩
      go_wp2
      go_roundw
      case rel => exact ⟨k + 1, by omega, by go_num, by rw [HR.out], HBr.out⟩
      case measure => simp [intOf]; omega
    · obtain rfl : k = m.length := by omega
      have HE : Hid (m.take m.length = m) := List.take_length
      go_wp2
      go_ret
      exact ⟨ret_int (by rw [HE.out, HM.out]), HB.out.trans (HBr.out.mono HB.out.size)⟩



end Go.Proofs.YtiodlclaempihaaGreat

/- FallOf -/
namespace Go.Proofs.YtiodlclaempihaaGreat
open Go.RowKit

def endOf (g : Int × Int × Int) : Int := if g.2.1 = -1 then 0 else g.2.2
def hasB (n : Nat) (ant : Int) : Bool := decide (0 ≤ ant) && decide (ant < n)
/-- what FallOf returns -/
def foOk (L : Int) (l : List (Int × Int)) (ant : Int) : Bool := goodB L l && hasB l.length ant
def foT (L : Int) (l : List (Int × Int)) (ant : Int) : Int := if foOk L l ant then ft ((fallAs L l).getD ant.toNat (0, 0, 0)) else 0
def foE (L : Int) (l : List (Int × Int)) (ant : Int) : Int := if foOk L l ant then endOf ((fallAs L l).getD ant.toNat (0, 0, 0)) else 0

theorem end_any (a y L : Int) (hg : GoodGhost (a, y, L)) (w : World) :
    Calls Tryz.prog 123 #[.agg #[.int .i64 a, .int .i64 y, .int .i64 L]] w fun e w' => e = .returned (.int .i64 (endOf (a, y, L))) ∧ Below w.heap.size w w' := by
  obtain ⟨h1, h2, h3, h4, h5⟩ := hg
  simp only at h1 h2 h3 h4 h5
  rcases h5 with rfl | rfl
  · go_enter Tryz.func123, Tryz.ntmps123
    go_wp2_with fail
    refine (goesLeft_at a (-1) L true rfl _).mono ?_
    rintro e w1 ⟨rfl, hb⟩
    go_wp2
    go_ret
    exact ⟨ret_int rfl, ((Below.refl _ w).alloc (Nat.le_refl _) _).trans (hb.mono (by simp))⟩
  · go_enter Tryz.func123, Tryz.ntmps123
    go_wp2_with fail
    refine (goesLeft_at a 1 L false rfl _).mono ?_
    rintro e w1 ⟨rfl, hb⟩
    have hz : w.heap.size < w1.heap.size := by have := hb.size; simp at this; omega
    have c2 : w1.cell? ⟨w.heap.size, 2, none⟩ = some (.int .i64 L) := by rw [hb.cell (p := ⟨w.heap.size, 2, none⟩) (by simp)]; simp
    go_wp2
    go_ret
    exact ⟨ret_int rfl, ((Below.refl _ w).alloc (Nat.le_refl _) _).trans (hb.mono (by simp))⟩

theorem hasAnt_at (L : Int) (A : Option Addr) (n c : Nat) (ant : Int) (r : Bool) (hr : hasB n ant = r) (w : World) :
    Calls Tryz.prog 120 #[.agg #[.int .i64 L, .slice A n c], .int .i64 ant] w fun e w' => e = .returned (.bool r) ∧ Below w.heap.size w w' := by
  subst hr
  go_enter Tryz.func120, Tryz.ntmps120
  go_wp2
  all_goals go_ret
  all_goals (refine ⟨ret_bool ?_, (Below.refl _ _).alloc (Nat.le_refl _) _⟩)
  all_goals (unfold hasB; simp [*])
  all_goals omega


theorem fallAs_left {L : Int} {l : List (Int × Int)} {k : Nat} (hk : k < nL L l) : ((fallAs L l).getD k (0, 0, 0)).2.1 = -1 := by
  unfold nL at hk
  unfold fallAs
  rw [List.getD_eq_getElem?_getD, List.getElem?_append_left hk, List.getElem?_eq_getElem hk]
  exact (way_mem (List.getElem_mem hk)).2
theorem fallAs_right {L : Int} {l : List (Int × Int)} {k : Nat} (hk : nL L l ≤ k) (hk2 : k < (fallAs L l).length) : ((fallAs L l).getD k (0, 0, 0)).2.1 = 1 := by
  unfold nL at hk
  unfold fallAs at *
  rw [List.length_append] at hk2
  have h2 : k - (way (-1) (gsOf L l)).length < (way 1 (gsOf L l)).length := by omega
  rw [List.getD_eq_getElem?_getD, List.getElem?_append_right hk, List.getElem?_eq_getElem h2]
  exact (way_mem (List.getElem_mem h2)).2


theorem fallTime_at (a y L t : Int) (hg : GoodGhost (a, y, L)) (ht : ft (a, y, L) = t) (w : World) :
    Calls Tryz.prog 122 #[.agg #[.int .i64 a, .int .i64 y, .int .i64 L]] w fun e w' => e = .returned (.int .i64 t) ∧ Below w.heap.size w w' := by
  subst ht; exact fallTime_any a y L hg w

theorem end_at (a y L t : Int) (hg : GoodGhost (a, y, L)) (ht : endOf (a, y, L) = t) (w : World) :
    Calls Tryz.prog 123 #[.agg #[.int .i64 a, .int .i64 y, .int .i64 L]] w fun e w' => e = .returned (.int .i64 t) ∧ Below w.heap.size w w' := by
  subst ht; exact end_any a y L hg w

set_option maxHeartbeats 1000000 in
theorem implFallOf_any (L : Int) (A : Option Addr) (c : Nat) (l : List (Int × Int)) (ant : Int) (w : World) (hA : AntsAt w A l) :
    Calls Tryz.prog 109 #[.agg #[.int .i64 L, .slice A l.length c], .int .i64 ant] w fun e w' => e = .returned (.tuple #[.int .i64 (foT L l ant), .int .i64 (foE L l ant), .bool (foOk L l ant)]) ∧ Below w.heap.size w w' := by
  have HA := Lib.hid (hA.alloc (Obj.cells #[Value.int IntKind.i64 L, Value.slice A l.length c] 71))
  clear hA
  cases hg : goodB L l with
  | false =>
    have HV : Hid (foT L l ant = 0 ∧ foE L l ant = 0 ∧ foOk L l ant = false) := by show _ ∧ _ ∧ _; simp [foT, foE, foOk, hg]
    have HG : Hid (∀ w, AntsAt w A l → Calls Tryz.prog 92 #[.agg #[.int .i64 L, .slice A l.length c]] w fun e w' => e = .returned (.bool false) ∧ Below w.heap.size w w') := fun w h => by
      rw [← hg]; exact isRod_any L A c l w h
    clear hg
    go_enter Tryz.func109, Tryz.ntmps109
    go_wp2_with fail
    refine (HG.out _ HA.out).mono ?_
    rintro e w1 ⟨rfl, hb⟩
    go_wp2
    go_ret3
    exact ⟨ret_iib HV.out.1.symm HV.out.2.1.symm HV.out.2.2.symm, ((Below.refl _ _).alloc (Nat.le_refl _) _).trans (hb.mono (by simp))⟩
  | true =>
    have HG : Hid (∀ w, AntsAt w A l → Calls Tryz.prog 92 #[.agg #[.int .i64 L, .slice A l.length c]] w fun e w' => e = .returned (.bool true) ∧ Below w.heap.size w w') := fun w h => by
      rw [← hg]; exact isRod_any L A c l w h
    have hn := good_len hg
    cases hh : hasB l.length ant with
    | false =>
      have HV : Hid (foT L l ant = 0 ∧ foE L l ant = 0 ∧ foOk L l ant = false) := by show _ ∧ _ ∧ _; simp [foT, foE, foOk, hh]
      have HH := Lib.hid hh
      clear hg hh
      go_enter Tryz.func109, Tryz.ntmps109
      go_wp2_with fail
      refine (HG.out _ HA.out).mono ?_
      rintro e w1 ⟨rfl, hb⟩
      have c0 : w1.cell? ⟨w.heap.size, 0, none⟩ = some (.int .i64 L) := by rw [hb.cell (p := ⟨w.heap.size, 0, none⟩) (by simp)]; simp
      have c1 : w1.cell? ⟨w.heap.size, 1, none⟩ = some (.slice A l.length c) := by rw [hb.cell (p := ⟨w.heap.size, 1, none⟩) (by simp)]; simp
      have HB := Lib.hid (((Below.refl _ w).alloc (Nat.le_refl _) _).trans (hb.mono (by simp)))
      clear hb
      go_wp2_with fail
      refine (hasAnt_at L A l.length c ant false HH.out _).mono ?_
      rintro e w2 ⟨rfl, hb2⟩
      go_wp2
      go_ret3
      exact ⟨ret_iib HV.out.1.symm HV.out.2.1.symm HV.out.2.2.symm, HB.out.trans (hb2.mono HB.out.size)⟩
    | true =>
      have hok : foOk L l ant = true := by simp [foOk, hg, hh]
      have HH := Lib.hid hh
      have HV : Hid (foT L l ant = ft ((fallAs L l).getD ant.toNat (0, 0, 0)) ∧ foE L l ant = endOf ((fallAs L l).getD ant.toNat (0, 0, 0)) ∧ foOk L l ant = true) := by show _ ∧ _ ∧ _; simp [foT, foE, hok]
      simp only [hasB, Bool.and_eq_true, decide_eq_true_eq] at hh
      obtain ⟨h0, h1⟩ := hh
      obtain ⟨k, rfl⟩ := Int.eq_ofNat_of_zero_le h0
      simp only [Int.toNat_natCast] at HV
      have hk : k < l.length := by omega
      have hkf : k < (fallAs L l).length := by rw [fallAs_len hg]; exact hk
      have hx : (fallAs L l)[k]? = some ((fallAs L l).getD k (0, 0, 0)) := by rw [List.getD_eq_getElem?_getD, List.getElem?_eq_getElem hkf]; rfl
      have hgg := fallAs_good hg ((fallAs L l).getD k (0, 0, 0)) (by rw [List.getD_eq_getElem?_getD, List.getElem?_eq_getElem hkf]; exact List.getElem_mem hkf)
      have hfl : ((fallAs L l).length : Int) ≤ 16 := by rw [fallAs_len hg]; exact hn
      have hkf' : (k : Int) < ((fallAs L l).length : Int) := by omega
      generalize (fallAs L l).getD k (0, 0, 0) = x at *
      obtain ⟨x1, x2, x3⟩ := x
      have HX := Lib.hid hx
      have HGG := Lib.hid hgg
      obtain ⟨T, hT⟩ : ∃ T, ft (x1, x2, x3) = T := ⟨_, rfl⟩
      obtain ⟨E, hE⟩ : ∃ E, endOf (x1, x2, x3) = E := ⟨_, rfl⟩
      have HT := Lib.hid hT
      have HE := Lib.hid hE
      clear hg hok hx hgg hT hE
      go_enter Tryz.func109, Tryz.ntmps109
      go_wp2_with fail
      refine (HG.out _ HA.out).mono ?_
      rintro e w1 ⟨rfl, hb⟩
      have c0 : w1.cell? ⟨w.heap.size, 0, none⟩ = some (.int .i64 L) := by rw [hb.cell (p := ⟨w.heap.size, 0, none⟩) (by simp)]; simp
      have c1 : w1.cell? ⟨w.heap.size, 1, none⟩ = some (.slice A l.length c) := by rw [hb.cell (p := ⟨w.heap.size, 1, none⟩) (by simp)]; simp
      have HB := Lib.hid (((Below.refl _ w).alloc (Nat.le_refl _) _).trans (hb.mono (by simp)))
      have HA1 := Lib.hid (HA.out.below hb)
      clear hb
      go_wp2_with fail
      refine (hasAnt_at L A l.length c k true HH.out _).mono ?_
      rintro e w2 ⟨rfl, hb2⟩
      have c0 := Below.cell_some hb2 c0
      have c1 := Below.cell_some hb2 c1
      have HB2 := Lib.hid (HB.out.trans (hb2.mono HB.out.size))
      have HA2 := Lib.hid (HA1.out.below hb2)
      clear hb2
      go_wp2_with fail
      refine (fallAs_any L A c l _ hn HA2.out).mono ?_
      rintro e w3 ⟨A3, k3, rfl, ho3, hb3⟩
      obtain ⟨b, off, rfl, l0, hc⟩ := ho3.sl.trip_at hkf
      obtain ⟨a0, a1, a2⟩ := hc k _ HX.out
      simp only at a0 a1 a2
      have HB3 := Lib.hid (HB2.out.trans (hb3.mono HB2.out.size))
      clear hc ho3 hb3
      have f0 := Ext.cell (p := ⟨w3.heap.size, 0, none⟩) (v := .int .i64 x1) (W := (w3.alloc (Obj.cells #[Value.int IntKind.i64 x1, Value.int IntKind.i64 x2, Value.int IntKind.i64 x3] 108))) (by simp)
      have f1 := Ext.cell (p := ⟨w3.heap.size, 1, none⟩) (v := .int .i64 x2) (W := (w3.alloc (Obj.cells #[Value.int IntKind.i64 x1, Value.int IntKind.i64 x2, Value.int IntKind.i64 x3] 108))) (by simp)
      have f2 := Ext.cell (p := ⟨w3.heap.size, 2, none⟩) (v := .int .i64 x3) (W := (w3.alloc (Obj.cells #[Value.int IntKind.i64 x1, Value.int IntKind.i64 x2, Value.int IntKind.i64 x3] 108))) (by simp)
      go_wp2
      refine wp_region_ext (by kernel_rfl) (by kernel_rfl) ?_
      repeat (first | go_big_quiet_skip | (go_big_quiet_want; go_big_quiet_op; first | go_big_quiet_on | (apply Exists.intro; refine ⟨fun _ => ?_, ?_⟩; (first | (go_at_call 122; exact Ext.call (fallTime_at _ _ _ T HGG.out HT.out _)) | (go_at_call 123; exact Ext.call (end_at _ _ _ E HGG.out HE.out _))); go_big_quiet_on)))
      refine wpQuiet_nil ?_
      rintro _ ⟨x, rfl⟩
      go_wp2
      go_ret3
      exact ⟨ret_iib (by rw [HV.out.1, HT.out]) (by rw [HV.out.2.1, HE.out]) HV.out.2.2.symm, below_via HB3.out HB3.out.size x.h⟩

end Go.Proofs.YtiodlclaempihaaGreat

/- SrtGood -/
namespace Go.Proofs.YtiodlclaempihaaGreat

theorem good_srt {L : Int} {l : List (Int × Int)} (h : goodB L l = true) : Srt l := by
  unfold Srt
  rw [List.pairwise_iff_getElem]
  intro i j hi hj hij
  have h1 := good_lt h i j hij hj
  rw [List.getD_eq_getElem?_getD, List.getD_eq_getElem?_getD, List.getElem?_eq_getElem hi, List.getElem?_eq_getElem hj] at h1
  simp only [Option.getD_some] at h1
  rw [antLt_iff] at h1
  rw [antLe_iff]
  omega

def mirF (L : Int) (x : Int × Int) : Int × Int := (L - x.1, -x.2)
def turnF (x : Int × Int) : Int × Int := (x.1, -x.2)
theorem mir_reverse {L : Int} {l : List (Int × Int)} (h : goodB L l = true) : (l.map (mirF L)).reverse = srtA (l.map (mirF L)) := by
  refine srt_reverse _ _ ((good_srt h).imp fun {a b} h => ?_)
  rw [antLe_iff] at *
  simp only [mirF]
  omega

def goodL (L : Int) (l : List (Int × Int)) : Int := if goodB L l then L else 0
def mrA (L : Int) (l : List (Int × Int)) : List (Int × Int) := if goodB L l then srtA (l.map (mirF L)) else []
def twA (L : Int) (l : List (Int × Int)) : List (Int × Int) := if goodB L l then srtA (l.map turnF) else []
theorem mrA_len (L : Int) (l : List (Int × Int)) : (mrA L l).length ≤ l.length := by
  unfold mrA
  split
  · rw [srtA_len, List.length_map]; exact Nat.le_refl _
  · exact Nat.zero_le _
theorem twA_len (L : Int) (l : List (Int × Int)) : (twA L l).length ≤ l.length := by
  unfold twA
  split
  · rw [srtA_len, List.length_map]; exact Nat.le_refl _
  · exact Nat.zero_le _
def aaOk (L : Int) (l : List (Int × Int)) (a y : Int) : Bool := goodB L l && goodB L (srtA (l ++ [(a, y)]))
def aaL (L : Int) (l : List (Int × Int)) (a y : Int) : Int := if aaOk L l a y then L else 0
def aaA (L : Int) (l : List (Int × Int)) (a y : Int) : List (Int × Int) := if aaOk L l a y then srtA (l ++ [(a, y)]) else []
theorem aaA_len (L : Int) (l : List (Int × Int)) (a y : Int) : (aaA L l a y).length ≤ l.length + 1 := by
  unfold aaA
  split
  · rw [srtA_len, List.length_append]; exact Nat.le_refl _
  · exact Nat.zero_le _
end Go.Proofs.YtiodlclaempihaaGreat

/- Time -/
namespace Go.Proofs.YtiodlclaempihaaGreat
open Go.RowKit

def timeB (t : Int) : Bool := (decide (0 ≤ t) && decide (t ≤ 2000)) && (t % 2 == 0)
theorem timeB_le {t : Int} (h : timeB t = true) : 0 ≤ t ∧ t ≤ 2000 := by
  simp only [timeB, Bool.and_eq_true, decide_eq_true_eq] at h
  exact h.1
theorem isRodTime_at (t : Int) (r : Bool) (hr : timeB t = r) (w : World) :
    Calls Tryz.prog 130 #[.int .i64 t] w fun e w' => e = .returned (.bool r) ∧ Below w.heap.size w w' := by
  subst hr
  by_cases h0 : 0 ≤ t
  · by_cases h1 : t ≤ 2000
    · have HV : Hid (timeB t = (t % 2 == 0)) := by show _ = _; simp [timeB, h0, h1]
      go_enter Tryz.func130, Tryz.ntmps130
      go_wp2
      all_goals (
        go_ret
        exact ⟨ret_bool (by rw [HV.out]; try simp_all), Below.refl _ _⟩)
    · have HV : Hid (timeB t = false) := by show _ = _; simp [timeB, h1]
      go_enter Tryz.func130, Tryz.ntmps130
      go_wp2
      all_goals (
        go_ret
        exact ⟨ret_bool HV.out.symm, Below.refl _ _⟩)
  · have HV : Hid (timeB t = false) := by show _ = _; simp [timeB, h0]
    go_enter Tryz.func130, Tryz.ntmps130
    go_wp2
    all_goals (
      go_ret
      exact ⟨ret_bool HV.out.symm, Below.refl _ _⟩)
end Go.Proofs.YtiodlclaempihaaGreat

/- BridgeI -/
namespace Go.Proofs.YtiodlclaempihaaGreat
open Go.RowKit Go.Shelf Go.Lib Go.Sort

theorem rowI_at (d : List Int) (t : Nat) : (intS.row d)[t]? = d[t]?.map (Value.int .i64) := by
  induction d generalizing t with
  | nil => simp [Shape.row]
  | cons x d ih =>
    rw [Shape.row_cons]
    cases t with
    | zero => rfl
    | succ t => show (intS.row d)[t]? = _; rw [ih t]; rfl
theorem own_holdsI {w : World} {B g n c : Nat} {e : TypeId} {l : List Int} (h : SlOwn intS w B e (.slice (some ⟨g, 0, none⟩) n c) l) :
    Holds (Value.int .i64) w g 0 l.toArray ∧ g < w.heap.size ∧ B ≤ g ∧ n = l.length := by
  have hl := World.ownsRow.lt h g rfl
  obtain ⟨_, _, hv, _, _⟩ := h.form
  injection hv with _ hn _
  subst hn
  refine ⟨fun j hj => ?_, hl.2, hl.1, rfl⟩
  have hj' : j < l.length := by simpa using hj
  refine ⟨?_, ?_⟩
  · rw [Nat.zero_add, World.ownsRow.cellAt h j (by show j < l.length * 1; omega), rowI_at, List.getElem?_eq_getElem hj']
    simp [hj']
  · rw [Nat.zero_add]
    exact World.ownsRow.frozenAt h j

theorem sorted_heapI (w : World) (g m : Nat) (d : Array Int) (os : Array Obj) (k : Nat) (hk : k < w.heap.size) :
    (grow (putRow (Value.int .i64) (Sort.ahead w m) g 0 d) os).heap[k]? = if g = k then w.heap[k]?.map (onCells (putCells (Value.int .i64) 0 d)) else w.heap[k]? := by
  have hk' : k < (w.heap.modify g (onCells (putCells (Value.int .i64) 0 d))).size := by simpa using hk
  show ((w.heap.modify g (onCells (putCells (Value.int .i64) 0 d))) ++ os)[k]? = _
  rw [Array.getElem?_append_left hk', Array.getElem?_modify]

theorem putCells_takeI (d : Array Int) (cur : Array Value) (h : d.size ≤ cur.size) : (putCells (Value.int .i64) 0 d cur).toList.take d.size = intS.row d.toList := by
  apply List.ext_getElem?
  intro t
  rw [rowI_at]
  by_cases ht : t < d.size
  · rw [List.getElem?_take_of_lt ht, Array.getElem?_toList, Array.getElem?_toList]
    unfold putCells
    rw [Array.getElem?_mapIdx, Array.getElem?_eq_getElem (show t < cur.size by omega), Array.getElem?_eq_getElem ht]
    simp [ht]
  · rw [List.getElem?_eq_none (by rw [List.length_take]; omega), List.getElem?_eq_none (by simpa using ht)]
    rfl

theorem sorted_ownI {w : World} {B g n c : Nat} {e : TypeId} {l : List Int} (h : SlOwn intS w B e (.slice (some ⟨g, 0, none⟩) n c) l) (d : Array Int) (hd : d.size = l.length) (m : Nat) (os : Array Obj) :
    SlOwn intS (grow (putRow (Value.int .i64) (Sort.ahead w m) g 0 d) os) B e (.slice (some ⟨g, 0, none⟩) n c) d.toList ∧ RowKit.Below B w (grow (putRow (Value.int .i64) (Sort.ahead w m) g 0 d) os) := by
  have hl := World.ownsRow.lt h g rfl
  have hdl : d.toList.length = l.length := by simpa using hd
  refine ⟨⟨by rw [intS.row_length], ?_⟩, ⟨rfl, rfl, rfl, ?_, ?_⟩⟩
  · rcases h.2 with ⟨hv, _⟩ | ⟨g', cap, cur, hv, hB, hg, hnc, hm, hs, ht⟩
    · simp at hv
    · simp only [Value.slice.injEq, Option.some.injEq, Addr.mk.injEq, and_true] at hv
      obtain ⟨rfl, rfl, rfl⟩ := hv
      refine .inr ⟨g, c, putCells (Value.int .i64) 0 d cur, by rw [hdl], hB, ?_, by rw [hdl]; exact hnc, hm, ?_, ?_⟩
      · rw [sorted_heapI _ _ _ _ _ _ hl.2, if_pos rfl, hg]
        rfl
      · unfold putCells
        rw [Array.size_mapIdx]
        exact hs
      · have e1 : d.toList.length * intS.size = d.size := by rw [hdl, hd]; exact Nat.mul_one _
        rw [e1, putCells_takeI d cur (by rw [hs, hd]; show l.length ≤ c * 1; omega)]
  · show w.heap.size ≤ ((w.heap.modify g _) ++ os).size
    simp
  · intro k hk
    rw [sorted_heapI _ _ _ _ _ _ (by omega), if_neg (by omega)]

theorem sortI_any {w : World} {B n c : Nat} {A : Option Addr} {e : TypeId} {l : List Int} (hll : l.length ≤ 65536) (h : SlOwn intS w B e (.slice A n c) l) :
    Calls Tryz.prog 133 #[.slice A n c] w fun e' w' => e' = .returned (.tuple #[]) ∧ SlOwn intS w' B e (.slice A n c) (l.mergeSort fun x y => decide (x ≤ y)) ∧ RowKit.Below B w w' := by
  obtain ⟨A', c', hv, _, _⟩ := h.form
  injection hv with e1 e2 e3
  subst e1; subst e2; subst e3
  rcases h.2 with ⟨hv, h0⟩ | ⟨g, cap, cur, hv, _, hg, _⟩
  · injection hv with e1 e2 e3
    have hl : l = [] := List.eq_nil_of_length_eq_zero h0
    subst e1; subst hl; subst e3
    refine (Any.slices_Sort_int_none sortInt none 0 w).mono ?_
    rintro e' w' ⟨rfl, rfl⟩
    exact ⟨rfl, by rw [List.mergeSort_nil]; exact h, Below.refl _ _⟩
  · injection hv with e1 e2 e3
    subst e1
    obtain ⟨hH, hg2, hB, _⟩ := own_holdsI h
    have hcon := Any.slices_Sort_int sortInt g 0 c l w hH hg2 (by omega)
    refine Calls.mono hcon ?_
    rintro e' w' ⟨rfl, m, os, rfl⟩
    have := sorted_ownI h (l.mergeSort fun x y => decide (x ≤ y)).toArray (by simp) m os
    exact ⟨rfl, by simpa using this.1, this.2⟩
end Go.Proofs.YtiodlclaempihaaGreat

/- OnRod -/
namespace Go.Proofs.YtiodlclaempihaaGreat
open Go.RowKit

def endT (L : Int) (p : Int × Int) : Int := if p.2 < 0 then p.1 else L - p.1

def mvF (t : Int) (p : Int × Int) : Int × Int := (p.1 + p.2 * t, p.2)

def onF (L t : Int) (p : Int × Int) : Bool := !decide (endT L p ≤ t)

/-- those that have not fallen, moved on, as they come -/
def afL (L t : Int) (l : List (Int × Int)) : List (Int × Int) := (l.filter (onF L t)).map (mvF t)

theorem afL_no (L t : Int) (l : List (Int × Int)) (k : Nat) (x : Int × Int) (hx : l[k]? = some x) (h : endT L x ≤ t) : afL L t (l.take (k + 1)) = afL L t (l.take k) := by
  obtain ⟨hk, rfl⟩ := List.getElem?_eq_some_iff.1 hx
  unfold afL
  rw [List.take_succ_eq_append_getElem hk, List.filter_append]
  simp [onF, h]

theorem afL_yes (L t : Int) (l : List (Int × Int)) (k : Nat) (x : Int × Int) (hx : l[k]? = some x) (h : ¬ endT L x ≤ t) : afL L t (l.take (k + 1)) = afL L t (l.take k) ++ [mvF t x] := by
  obtain ⟨hk, rfl⟩ := List.getElem?_eq_some_iff.1 hx
  unfold afL
  rw [List.take_succ_eq_append_getElem hk, List.filter_append]
  have e : onF L t l[k] = true := by simp only [onF, h]; rfl
  simp [e]

theorem afL_len (L t : Int) (l : List (Int × Int)) (k : Nat) : (srtA (afL L t (l.take k))).length ≤ k := by
  rw [srtA_len]
  unfold afL
  rw [List.length_map]
  refine Nat.le_trans (List.length_filter_le _ _) ?_
  rw [List.length_take]; omega

theorem after_b (a y L t : Int) (w : World) (hy : y = -1 ∨ y = 1) (ha0 : -1000000 ≤ a) (ha1 : a ≤ 1000000) (ht0 : 0 ≤ t) (ht1 : t ≤ 1000000) :
    Calls Tryz.prog 132 #[.agg #[.int .i64 a, .int .i64 y, .int .i64 L], .int .i64 t] w fun e w' => e = .returned (.agg #[.int .i64 (a + y * t), .int .i64 y]) ∧ Below w.heap.size w w' := by
  have hw1 : IntKind.i64.wrap (y * t) = y * t := IntWalk.i64_in _ (by rcases hy with rfl | rfl <;> omega)
  have hw2 : IntKind.i64.wrap (a + y * t) = a + y * t := IntWalk.i64_in _ (by rcases hy with rfl | rfl <;> omega)
  go_enter Tryz.func132, Tryz.ntmps132
  go_wp2
  exact bodyPost_ret (v := .agg #[.int .i64 (a + y * t), .int .i64 y]) (by simp [results, Tryz.results132, go_sem]) rfl ⟨rfl, ((Below.refl _ _).alloc (Nat.le_refl _) _).alloc (by simp) _⟩

theorem fallTime_b (a y L : Int) (w : World) (hy : y = -1 ∨ y = 1) (h0 : 0 ≤ a) (h1 : a ≤ 1000) (h2 : 0 ≤ L) (h3 : L ≤ 1000) :
    Calls Tryz.prog 122 #[.agg #[.int .i64 a, .int .i64 y, .int .i64 L]] w fun e w' => e = .returned (.int .i64 (endT L (a, y))) ∧ Below w.heap.size w w' := by
  have hw : IntKind.i64.wrap (L - a) = L - a := IntWalk.i64_in _ (by omega)
  rcases hy with rfl | rfl
  · have HV : Hid (endT L (a, -1) = a) := by show _ = _; unfold endT; rw [if_pos (by omega)]
    go_enter Tryz.func122, Tryz.ntmps122
    go_wp2_with fail
    refine (goesLeft_at a (-1) L true rfl _).mono ?_
    rintro e w1 ⟨rfl, hb⟩
    have c0 : w1.cell? ⟨w.heap.size, 0, none⟩ = some (.int .i64 a) := by rw [hb.cell (p := ⟨w.heap.size, 0, none⟩) (by simp)]; simp
    go_wp2
    go_ret
    exact ⟨ret_int HV.out.symm, ((Below.refl _ _).alloc (Nat.le_refl _) _).trans (hb.mono (by simp))⟩
  · have HV : Hid (endT L (a, 1) = L - a) := by show _ = _; unfold endT; rw [if_neg (by omega)]
    go_enter Tryz.func122, Tryz.ntmps122
    go_wp2_with fail
    refine (goesLeft_at a 1 L false rfl _).mono ?_
    rintro e w1 ⟨rfl, hb⟩
    have c0 : w1.cell? ⟨w.heap.size, 0, none⟩ = some (.int .i64 a) := by rw [hb.cell (p := ⟨w.heap.size, 0, none⟩) (by simp)]; simp
    have c2 : w1.cell? ⟨w.heap.size, 2, none⟩ = some (.int .i64 L) := by rw [hb.cell (p := ⟨w.heap.size, 2, none⟩) (by simp)]; simp
    go_wp2
    go_ret
    exact ⟨ret_int HV.out.symm, ((Below.refl _ _).alloc (Nat.le_refl _) _).trans (hb.mono (by simp))⟩

theorem hasFallen_at (a y L t : Int) (r : Bool) (hr : decide (endT L (a, y) ≤ t) = r) (w : World) (hy : y = -1 ∨ y = 1) (h0 : 0 ≤ a) (h1 : a ≤ 1000) (h2 : 0 ≤ L) (h3 : L ≤ 1000) :
    Calls Tryz.prog 131 #[.agg #[.int .i64 a, .int .i64 y, .int .i64 L], .int .i64 t] w fun e w' => e = .returned (.bool r) ∧ Below w.heap.size w w' := by
  have HF : Hid (∀ w, Calls Tryz.prog 122 #[.agg #[.int .i64 a, .int .i64 y, .int .i64 L]] w fun e w' => e = .returned (.int .i64 (endT L (a, y))) ∧ Below w.heap.size w w') := fun w => fallTime_b a y L w hy h0 h1 h2 h3
  subst hr
  clear hy
  generalize endT L (a, y) = en at *
  go_enter Tryz.func131, Tryz.ntmps131
  go_wp2_with fail
  refine (HF.out _).mono ?_
  rintro e w1 ⟨rfl, hb⟩
  go_wp2
  go_ret
  exact ⟨ret_bool rfl, ((Below.refl _ _).alloc (Nat.le_refl _) _).trans (hb.mono (by simp))⟩

def raOk (L : Int) (l : List (Int × Int)) (t : Int) : Bool := goodB L l && timeB t

theorem intI2 : (Tryz.prog.info? 3).map (fun i => (i.zero, i.size, i.bytes)) = some (some (.int .i64 0), intS.size, 8) := by kernel_rfl

theorem slAt_oneI {w : World} {g : Nat} {x : Int} {e : TypeId} {m : Nat × Nat} (h : w.heap[g]? = some (.cells #[.int .i64 x] e m)) : SlAt intS w (some ⟨g, 0, none⟩) [x] := by
  refine .inr ⟨g, 0, rfl, (Array.getElem?_eq_some_iff.1 h).1, fun k y hk j hj => ?_⟩
  cases k with
  | succ k => simp at hk
  | zero =>
    simp only [List.getElem?_cons_zero, Option.some.injEq] at hk
    subst hk
    simp only [Nat.zero_mul, Nat.zero_add]
    rw [cell_of_row w g j _ _ _ h, ← Array.getElem?_toList]
    rfl

/-- what GhostsAfter returns -/
def gaV (L : Int) (l : List (Int × Int)) (t : Int) : List Int := if raOk L l t then (srtA (afL L t l)).map Prod.fst else []

theorem gaV_len (L : Int) (l : List (Int × Int)) (t : Int) : (gaV L l t).length ≤ l.length := by
  unfold gaV
  split
  · have := afL_len L t l l.length
    rw [List.take_length] at this
    rwa [List.length_map]
  · exact Nat.zero_le _

theorem fst_sorted (m : List (Int × Int)) : ((m.map Prod.fst).mergeSort fun x y => decide (x ≤ y)) = (srtA m).map Prod.fst := by
  refine List.Perm.eq_of_pairwise (le := fun x y => decide (x ≤ y) = true) ?_ ?_ ?_ ?_
  · intro a b _ _ h1 h2
    simp only [decide_eq_true_eq] at h1 h2
    omega
  · refine List.pairwise_mergeSort ?_ ?_ _
    · intro a b c h1 h2
      simp only [decide_eq_true_eq] at *
      omega
    · intro a b
      simp only [Bool.or_eq_true, decide_eq_true_eq]
      omega
  · rw [List.pairwise_map]
    refine (srtA_srt m).imp fun {a b} h => ?_
    rw [antLe_iff] at h
    rw [decide_eq_true_eq]
    omega
  · exact (List.mergeSort_perm _ _).trans ((srtA_perm m).map Prod.fst).symm

theorem fst_snoc (m : List (Int × Int)) (k : Nat) (x : Int × Int) (hx : m[k]? = some x) : (m.take (k + 1)).map Prod.fst = (m.take k).map Prod.fst ++ [x.1] := by
  obtain ⟨hk, rfl⟩ := List.getElem?_eq_some_iff.1 hx
  rw [List.take_succ_eq_append_getElem hk, List.map_append]
  rfl

theorem ret_sb {A : Option Addr} {n n' c : Nat} {b b' : Bool} (h2 : n = n') (h3 : b = b') : Ending.returned (.tuple #[.slice A n c, .bool b]) = .returned (.tuple #[.slice A n' c, .bool b']) := by rw [h2, h3]

set_option maxRecDepth 100000 in
set_option maxHeartbeats 2000000 in
theorem implGhostsAfter_any (L : Int) (A : Option Addr) (c : Nat) (l : List (Int × Int)) (t : Int) (w : World) (hA : AntsAt w A l) :
    Calls Tryz.prog 124 #[.agg #[.int .i64 L, .slice A l.length c], .int .i64 t] w fun e w' => ∃ A' n' c', e = .returned (.tuple #[.slice A' n' c', .bool (raOk L l t)]) ∧ n' = (gaV L l t).length ∧ SlOwn intS w' w.heap.size 3 (.slice A' n' c') (gaV L l t) ∧ RowKit.Below w.heap.size w w' := by
  have HA := Lib.hid (hA.alloc (Obj.cells #[Value.int IntKind.i64 L, Value.slice A l.length c] 71))
  clear hA
  cases hg : goodB L l with
  | false =>
    have HV : Hid (gaV L l t = [] ∧ raOk L l t = false) := by show _ ∧ _; simp [gaV, raOk, hg]
    have HG : Hid (∀ w, AntsAt w A l → Calls Tryz.prog 92 #[.agg #[.int .i64 L, .slice A l.length c]] w fun e w' => e = .returned (.bool false) ∧ RowKit.Below w.heap.size w w') := fun w h => by
      rw [← hg]; exact isRod_any L A c l w h
    clear hg
    go_enter Tryz.func124, Tryz.ntmps124
    go_wp2_with fail
    refine (HG.out _ HA.out).mono ?_
    rintro e w1 ⟨rfl, hb⟩
    have HB := Lib.hid (((Below.refl _ w).alloc (Nat.le_refl _) (Obj.cells #[Value.int IntKind.i64 L, Value.slice A l.length c] 71)).trans (hb.mono (by simp)))
    clear hb
    go_wp2
    go_ret2
    exact ⟨none, 0, 0, ret_sb rfl HV.out.2.symm, by rw [HV.out.1]; rfl, by rw [HV.out.1]; exact SlOwn.nil intS _ _ _, HB.out⟩
  | true =>
    have HG : Hid (∀ w, AntsAt w A l → Calls Tryz.prog 92 #[.agg #[.int .i64 L, .slice A l.length c]] w fun e w' => e = .returned (.bool true) ∧ RowKit.Below w.heap.size w w') := fun w h => by
      rw [← hg]; exact isRod_any L A c l w h
    cases ht : timeB t with
    | false =>
      have HV : Hid (gaV L l t = [] ∧ raOk L l t = false) := by show _ ∧ _; simp [gaV, raOk, ht]
      have HT : Hid (∀ w, Calls Tryz.prog 130 #[.int .i64 t] w fun e w' => e = .returned (.bool false) ∧ RowKit.Below w.heap.size w w') := fun w => isRodTime_at t false ht w
      clear hg ht
      go_enter Tryz.func124, Tryz.ntmps124
      go_wp2_with fail
      refine (HG.out _ HA.out).mono ?_
      rintro e w1 ⟨rfl, hb⟩
      have HB := Lib.hid (((Below.refl _ w).alloc (Nat.le_refl _) (Obj.cells #[Value.int IntKind.i64 L, Value.slice A l.length c] 71)).trans (hb.mono (by simp)))
      clear hb
      go_wp2_with fail
      refine (HT.out _).mono ?_
      rintro e w2 ⟨rfl, hb2⟩
      have HB := Lib.hid (HB.out.trans (hb2.mono HB.out.size))
      clear hb2
      go_wp2
      go_ret2
      exact ⟨none, 0, 0, ret_sb rfl HV.out.2.symm, by rw [HV.out.1]; rfl, by rw [HV.out.1]; exact SlOwn.nil intS _ _ _, HB.out⟩
    | true =>
      have HV : Hid (gaV L l t = (srtA (afL L t l)).map Prod.fst ∧ raOk L l t = true) := by show _ ∧ _; simp [gaV, raOk, hg, ht]
      have HT : Hid (∀ w, Calls Tryz.prog 130 #[.int .i64 t] w fun e w' => e = .returned (.bool true) ∧ RowKit.Below w.heap.size w w') := fun w => isRodTime_at t true ht w
      have htl := timeB_le ht
      have hnl := good_len hg
      obtain ⟨hL0, hL1, _⟩ := good_hdr hg
      have HGG := Lib.hid hg
      clear hg ht
      go_enter Tryz.func124, Tryz.ntmps124
      go_wp2_with fail
      refine (HG.out _ HA.out).mono ?_
      rintro e w1 ⟨rfl, hb⟩
      have c0 : w1.cell? ⟨w.heap.size, 0, none⟩ = some (.int .i64 L) := by rw [hb.cell (p := ⟨w.heap.size, 0, none⟩) (by simp)]; simp
      have c1 : w1.cell? ⟨w.heap.size, 1, none⟩ = some (.slice A l.length c) := by rw [hb.cell (p := ⟨w.heap.size, 1, none⟩) (by simp)]; simp
      have HB := Lib.hid (((Below.refl _ w).alloc (Nat.le_refl _) (Obj.cells #[Value.int IntKind.i64 L, Value.slice A l.length c] 71)).trans (hb.mono (by simp)))
      have HA1 := Lib.hid (HA.out.below hb)
      clear hb
      go_wp2_with fail
      refine (HT.out _).mono ?_
      rintro e w2 ⟨rfl, hb2⟩
      have c0 := Below.cell_some hb2 c0
      have c1 := Below.cell_some hb2 c1
      have HB := Lib.hid (HB.out.trans (hb2.mono HB.out.size))
      have HA2 := Lib.hid (HA1.out.below hb2)
      clear hb2
      obtain ⟨i0, hi, hz0, hz1, hz2⟩ := info_parts intI2
      go_wp2_with fail
      refine (ghostsOf_any L A c l _ hnl HA2.out).mono ?_
      rintro e w3 ⟨A3, c3, rfl, ho, hb3⟩
      have HO2 := Lib.hid ho.sl
      have HB3 := Lib.hid (HB.out.trans (hb3.mono HB.out.size))
      clear hb3 ho
      go_wp2
      go_loopw [6, 20] (fun v i wr => ∃ (k : Nat) (A5 : Option Addr) (n5 c5 : Nat), k ≤ l.length ∧ i = .int .i64 k ∧ v = .slice A5 n5 c5 ∧ RowKit.Below w3.heap.size w3 wr ∧ SlOwn intS wr w3.heap.size 3 (.slice A5 n5 c5) ((afL L t (l.take k)).map Prod.fst))
        (fun _ i _ => l.length - (intOf i).toNat)
      case atStart => exact ⟨0, none, 0, 0, Nat.zero_le _, rfl, rfl, Below.refl _ _, by rw [List.take_zero]; exact SlOwn.nil intS _ _ _⟩
      case round =>
        obtain ⟨k, A5, n5, c5, hk, rfl, rfl, hbr, hown⟩ := hrel
        have HBr := Lib.hid hbr
        have hsr := hbr.size
        have HOr := Lib.hid (HO2.out.below hbr)
        have hl3 : ((afL L t (l.take k)).map Prod.fst).length ≤ k := by
          have := afL_len L t l k
          rw [srtA_len] at this
          rwa [List.length_map]
        have HO := Lib.hid hown
        have HL3 := Lib.hid hl3
        clear hbr hl3 hown
        by_cases hlt : k < l.length
        · obtain ⟨b, off, rfl, l0, hc⟩ := HOr.out.trip_at (show k < (gsOf L l).length by simpa [gsOf] using hlt)
          have hx : l[k]? = some (l.getD k (0, 0)) := by rw [List.getD_eq_getElem?_getD, List.getElem?_eq_getElem hlt]; rfl
          have hgx : (gsOf L l)[k]? = some ((l.getD k (0, 0)).1, (l.getD k (0, 0)).2, L) := by unfold gsOf; rw [List.getElem?_map, hx]; rfl
          obtain ⟨a0, a1, a2⟩ := hc k _ hgx
          have HNO := Lib.hid (afL_no L t l k _ hx)
          have HYES := Lib.hid (afL_yes L t l k _ hx)
          obtain ⟨q0, q1, _, qw⟩ := good_ant HGG.out hx
          clear hc hx hgx
          generalize l.getD k (0, 0) = x at *
          obtain ⟨p, y⟩ := x
          simp only at a0 a1 a2 q0 q1 qw
          by_cases hf : endT L (p, y) ≤ t
          · have HF : Hid (∀ w, Calls Tryz.prog 131 #[.agg #[.int .i64 p, .int .i64 y, .int .i64 L], .int .i64 t] w fun e w' => e = .returned (.bool true) ∧ RowKit.Below w.heap.size w w') := fun w => hasFallen_at p y L t true (by simpa using hf) w qw q0 (by omega) (by omega) hL1
            have HSN := Lib.hid (HNO.out hf)
            clear hf
            go_wp2_with fail
            refine (HF.out _).mono ?_
            rintro e w4 ⟨rfl, hb4⟩
            go_wp2
            go_roundw
            case rel =>
              have hb5 : RowKit.Below wr.heap.size wr w4 := ((Below.refl _ _).alloc (Nat.le_refl _) _).trans (hb4.mono (by simp))
              refine ⟨k + 1, A5, n5, c5, by omega, by go_num, rfl, HBr.out.trans (hb5.mono hsr), ?_⟩
              rw [HSN.out]; exact HO.out.below hb5
            case measure => simp [intOf]; omega
          · have HF : Hid (∀ w, Calls Tryz.prog 131 #[.agg #[.int .i64 p, .int .i64 y, .int .i64 L], .int .i64 t] w fun e w' => e = .returned (.bool false) ∧ RowKit.Below w.heap.size w w') := fun w => hasFallen_at p y L t false (by simpa using hf) w qw q0 (by omega) (by omega) hL1
            have HSN : Hid ((afL L t (l.take (k + 1))).map Prod.fst = ((afL L t (l.take k)).map Prod.fst) ++ [(mvF t (p, y)).1]) := by
              show _ = _
              rw [HYES.out hf, List.map_append]; rfl
            have HAF : Hid (∀ w, Calls Tryz.prog 132 #[.agg #[.int .i64 p, .int .i64 y, .int .i64 L], .int .i64 t] w fun e w' => e = .returned (.agg #[.int .i64 (mvF t (p, y)).1, .int .i64 (mvF t (p, y)).2]) ∧ RowKit.Below w.heap.size w w') := fun w => after_b p y L t w qw (by omega) (by omega) htl.1 (by omega)
            clear hf HNO HYES
            generalize mvF t (p, y) = g at *
            obtain ⟨g1, g2⟩ := g
            have hfd : ∀ w : World, (Instr.field 90 (.agg #[.int .i64 g1, .int .i64 g2]) 0).run Tryz.prog w = .ok (.int .i64 g1) w := fun _ => by kernel_rfl
            generalize ((afL L t (l.take k)).map Prod.fst) = m at *
            go_wp2_with fail
            refine (HF.out _).mono ?_
            rintro e w4 ⟨rfl, hb4⟩
            have d0 : w4.cell? ⟨wr.heap.size, 0, none⟩ = some (.int .i64 p) := by rw [hb4.cell (p := ⟨wr.heap.size, 0, none⟩) (by simp)]; simp
            have d1 : w4.cell? ⟨wr.heap.size, 1, none⟩ = some (.int .i64 y) := by rw [hb4.cell (p := ⟨wr.heap.size, 1, none⟩) (by simp)]; simp
            have d2 : w4.cell? ⟨wr.heap.size, 2, none⟩ = some (.int .i64 L) := by rw [hb4.cell (p := ⟨wr.heap.size, 2, none⟩) (by simp)]; simp
            have hb5 : RowKit.Below wr.heap.size wr w4 := ((Below.refl _ _).alloc (Nat.le_refl _) _).trans (hb4.mono (by simp))
            have HB4 := Lib.hid (HBr.out.trans (hb5.mono hsr))
            have HO4 := Lib.hid (HO.out.below hb5)
            clear hb4 hb5
            go_wp2_with fail
            refine (HAF.out _).mono ?_
            rintro e w5 ⟨rfl, hb5⟩
            have HO5 := Lib.hid (HO4.out.below hb5)
            have HB5 := Lib.hid (HB4.out.trans (hb5.mono HB4.out.size))
            have hs5 : w3.heap.size ≤ w5.heap.size := HB5.out.size
            clear hb5
            go_wp2_with (at_builtin; go_must (refine wpList_append_slsv intS _ rfl _ _ 22 rfl w3.heap.size 3 i0 _ 8 Tryz.underlying22 hi hz0 hz1 hz2 rfl (by decide) _ m rfl (HO5.out.below ((Below.refl _ _).alloc (Nat.le_refl _) _)) (some ⟨w5.heap.size, 0, none⟩) 1 1 [g1] rfl rfl (slAt_oneI (heap_new rfl)) (by have := HL3.out; simp only [List.length_cons, List.length_nil]; omega) (by simp; omega) ?_); intro A6 n6 k6 w6 hn6 hown6 hb6; clear hn6)
            go_roundw
            case rel =>
              refine ⟨k + 1, A6, n6, k6, by omega, by go_num, rfl, ?_, ?_⟩
              · exact HB5.out.trans ((((Below.refl _ w5).alloc (Nat.le_refl _) _).mono hs5).trans hb6)
              · rw [HSN.out]; exact hown6
            case measure => simp [intOf]; omega
        · obtain rfl : k = l.length := by omega
          have HE : Hid (l.take l.length = l) := List.take_length
          have HOE : Hid (SlOwn intS wr w3.heap.size 3 (.slice A5 n5 c5) ((afL L t l).map Prod.fst)) := by
            have := HO.out
            rwa [HE.out] at this
          have hn5 : n5 = (gaV L l t).length := by
            obtain ⟨_, _, he, _, _⟩ := HOE.out.form
            injection he with _ h _
            rw [h, HV.out.1, List.length_map, List.length_map, srtA_len]
          have HN5 := Lib.hid hn5
          have HLL : Hid (((afL L t l).map Prod.fst).length ≤ 65536) := by
            have := HL3.out
            rw [HE.out] at this
            show _ ≤ _
            omega
          clear hn5
          go_wp2_with fail
          refine (sortI_any HLL.out HOE.out).mono ?_
          rintro e w4 ⟨rfl, ho4, hb4⟩
          rw [fst_sorted] at ho4
          have HO4 := Lib.hid ho4
          have HB4 := Lib.hid (HBr.out.trans hb4)
          have HS := Lib.hid HB3.out.size
          clear ho4 hb4
          go_wp2
          go_ret2
          exact ⟨A5, n5, c5, ret_sb rfl HV.out.2.symm, HN5.out, by rw [HV.out.1]; exact HO4.out.base HS.out, HB3.out.trans (HB4.out.mono HS.out)⟩

set_option maxHeartbeats 1000000 in
theorem implOnRodAfter_any (L : Int) (A : Option Addr) (c : Nat) (l : List (Int × Int)) (t : Int) (w : World) (hA : AntsAt w A l) :
    Calls Tryz.prog 110 #[.agg #[.int .i64 L, .slice A l.length c], .int .i64 t] w fun e w' => e = .returned (.tuple #[.int .i64 (((gaV L l t).length : Nat) : Int), .bool (raOk L l t)]) ∧ RowKit.Below w.heap.size w w' := by
  have HA := Lib.hid (hA.alloc (Obj.cells #[Value.int IntKind.i64 L, Value.slice A l.length c] 71))
  clear hA
  go_enter Tryz.func110, Tryz.ntmps110
  go_wp2_with fail
  refine (implGhostsAfter_any L A c l t _ HA.out).mono ?_
  rintro e w1 ⟨A1, n1, c1, rfl, hn1, ho1, hb1⟩
  have HN : Hid ((n1 : Int) = (((gaV L l t).length : Nat) : Int)) := by show _ = _; rw [hn1]
  clear hn1 ho1
  go_wp2
  go_ret2
  exact ⟨ret_ib HN.out rfl, ((Below.refl _ w).alloc (Nat.le_refl _) _).trans (hb1.mono (by simp))⟩

theorem ft_end {L : Int} {p : Int × Int} (h : p.2 = -1 ∨ p.2 = 1) : ft (p.1, p.2, L) = endT L p := by
  unfold ft endT
  rcases h with h | h
  · simp only [h]; rw [if_pos trivial, if_pos (by omega)]
  · simp only [h]; rw [if_neg (by omega), if_neg (by omega)]

def leB (t x : Int) : Bool := decide (x ≤ t)

/-- of the first k that fall, how many have not fallen; of those at the left, how many have -/
def befN (fl : List Int) (t : Int) (k : Nat) : Nat := (fl.take k).countP (fun x => !leB t x)

theorem fallsOf_parts (L : Int) (l : List (Int × Int)) : fallsOf L l = (way (-1) (gsOf L l)).map ft ++ (way 1 (gsOf L l)).map ft := by
  unfold fallsOf fallAs
  rw [List.map_append]

theorem way_count (p : Int × Int × Int → Bool) : ∀ gs : List (Int × Int × Int), (∀ g ∈ gs, g.2.1 = -1 ∨ g.2.1 = 1) → (way (-1) gs ++ way 1 gs).countP p = gs.countP p
  | [], _ => rfl
  | g :: gs, h => by
    have ih := way_count p gs (fun x hx => h x (List.mem_cons_of_mem _ hx))
    rw [List.countP_append] at *
    have hg := h g List.mem_cons_self
    unfold way at *
    rcases hg with e | e
    · rw [List.filter_cons_of_pos (by rw [e]; decide), List.filter_cons_of_neg (by rw [e]; decide), List.countP_cons, List.countP_cons]
      omega
    · rw [List.filter_cons_of_neg (by rw [e]; decide), List.filter_cons_of_pos (by rw [e]; decide), List.countP_cons, List.countP_cons]
      omega

theorem on_count {L : Int} {l : List (Int × Int)} (hg : goodB L l = true) (t : Int) : (srtA (afL L t l)).length = befN (fallsOf L l) t (fallsOf L l).length := by
  have h1 : ∀ g ∈ gsOf L l, g.2.1 = -1 ∨ g.2.1 = 1 := fun g h => (gsOf_good hg g h).1.2.2.2.2
  unfold befN
  rw [List.take_length, srtA_len]
  unfold fallsOf fallAs
  rw [List.countP_map, way_count _ _ h1]
  unfold afL gsOf
  rw [List.length_map, ← List.countP_eq_length_filter, List.countP_map]
  refine List.countP_congr fun x hx => ?_
  have hw : x.2 = -1 ∨ x.2 = 1 := by
    obtain ⟨j, hj, rfl⟩ := List.mem_iff_getElem.1 hx
    exact (good_ant hg (List.getElem?_eq_getElem hj)).2.2.2
  have e := ft_end (L := L) hw
  show onF L t x = true ↔ (!leB t (ft (x.1, x.2, L))) = true
  rw [e]
  rfl

end Go.Proofs.YtiodlclaempihaaGreat
