/- LastAnts: the contracts of the program's and of the model's. -/
import Derived.Test.YtiledncedekefaaLast
namespace Go.Proofs.Ytiledncedekefaa
open Go.RowKit

/-- the indices, below k, of what equals x -/
def idxs (m : List Int) (x : Int) (k : Nat) : List Int := ((List.range k).filter fun i => m.getD i 0 == x).map fun (i : Nat) => (i : Int)
theorem idxs_zero (m : List Int) (x : Int) : idxs m x 0 = [] := rfl
theorem idxs_yes (m : List Int) (x : Int) (k : Nat) (h : m[k]? = some x) : idxs m x (k + 1) = idxs m x k ++ [(k : Int)] := by
  have e : (m.getD k 0 == x) = true := by rw [List.getD_eq_getElem?_getD, h]; simp
  unfold idxs
  rw [List.range_succ, List.filter_append, List.map_append]
  simp only [List.filter_cons, e, if_true, List.filter_nil, List.map_cons, List.map_nil]
theorem idxs_no (m : List Int) (x y : Int) (k : Nat) (h : m[k]? = some y) (hy : (y == x) = false) : idxs m x (k + 1) = idxs m x k := by
  have e : (m.getD k 0 == x) = false := by rw [List.getD_eq_getElem?_getD, h]; simpa using hy
  unfold idxs
  rw [List.range_succ, List.filter_append, List.map_append]
  simp only [List.filter_cons, e, List.filter_nil]
  simp
theorem idxs_len (m : List Int) (x : Int) (k : Nat) : (idxs m x k).length ≤ k := by
  unfold idxs
  rw [List.length_map]
  have := List.length_filter_le (fun i => m.getD i 0 == x) (List.range k)
  simpa using this
/-- what LastAnts returns -/
def laV (L : Int) (l : List (Int × Int)) : List Int := idxs (ftV L l) (lfV L l) (ftV L l).length
theorem laV_len (L : Int) (l : List (Int × Int)) : ((laV L l).length : Int) ≤ 16 := by
  have h1 := idxs_len (ftV L l) (lfV L l) (ftV L l).length
  have h2 := ftV_len L l
  unfold laV
  omega

set_option maxRecDepth 100000 in
set_option maxHeartbeats 1000000 in
theorem implLastAnts_any (L : Int) (A : Option Addr) (c : Nat) (l : List (Int × Int)) (w : World) (hA : AntsAt w A l) :
    Calls Try.prog 111 #[.agg #[.int .i64 L, .slice A l.length c]] w fun e w' => ∃ A' n c', e = .returned (.tuple #[.slice A' n c', .bool (goodB L l)]) ∧ n = (laV L l).length ∧ SlOwn intS w' w.heap.size 3 (.slice A' n c') (laV L l) ∧ Below w.heap.size w w' := by
  obtain ⟨i0, hi, hz0, hz1, hz2⟩ := info_parts intInfo
  have HA := Lib.hid (hA.alloc (Obj.cells #[Value.int IntKind.i64 L, Value.slice A l.length c] 28))
  clear hA
  have hln := ftV_len L l
  go_enter Try.func111, Try.ntmps111
  go_wp2_with fail
  refine (implFallTimes_any L A c l _ HA.out).mono ?_
  rintro e w1 ⟨A1, n, c1, rfl, hn, ho, hb⟩
  subst hn
  have d0 : w1.cell? ⟨w.heap.size, 0, none⟩ = some (.int .i64 L) := by rw [hb.cell (p := ⟨w.heap.size, 0, none⟩) (by simp)]; simp
  have d1 : w1.cell? ⟨w.heap.size, 1, none⟩ = some (.slice A l.length c) := by rw [hb.cell (p := ⟨w.heap.size, 1, none⟩) (by simp)]; simp
  have HB := Lib.hid (((Below.refl _ w).alloc (Nat.le_refl _) _).trans (hb.mono (by simp)))
  have HO := Lib.hid ho.sl
  have HA1 := Lib.hid (HA.out.below hb)
  clear hb ho
  go_wp2_with fail
  refine (implLastFall_any L A c l _ HA1.out).mono ?_
  rintro e w2 ⟨rfl, hb2⟩
  have HB2 := Lib.hid (HB.out.trans (hb2.mono HB.out.size))
  have HO2 := Lib.hid (HO.out.below hb2)
  clear hb2 d0 d1
  have HLA : Hid (laV L l = idxs (ftV L l) (lfV L l) (ftV L l).length) := rfl
  generalize ftV L l = m at *
  generalize lfV L l = x at *
  go_wp2
  go_loopw [8, 23] (fun v i wr => ∃ k : Nat, k ≤ m.length ∧ i = .int .i64 k ∧ Below w2.heap.size w2 wr ∧ SlOwn intS wr w2.heap.size 3 v (idxs m x k))
    (fun _ i _ => m.length - (intOf i).toNat)
  case atStart => exact ⟨0, Nat.zero_le _, rfl, Below.refl _ _, SlOwn.nil _ _ _ _⟩
  case round =>
    obtain ⟨k, hk, rfl, hbr, hown⟩ := hrel
    have HBr := Lib.hid hbr
    have hs := hbr.size
    have HOr := Lib.hid (HO2.out.below hbr)
    clear hbr
    obtain ⟨A3, k3, rfl, hat, hin⟩ := hown.form
    obtain ⟨N, hN⟩ : ∃ N, N = (idxs m x k).length := ⟨_, rfl⟩
    have hle := idxs_len m x k
    rw [← hN] at hown hle
    rw [← hN]
    have HN := Lib.hid hN
    have HOW := Lib.hid hown
    clear hown hat hin hN
    by_cases hlt : k < m.length
    · obtain ⟨b, off, rfl, l0, hc⟩ := HOr.out.int_at hlt
      have hx : m[k]? = some (m[k]'hlt) := List.getElem?_eq_getElem hlt
      have a0 := hc k _ hx
      clear hc
      generalize m[k]'hlt = y at *
      cases hy : (y == x) with
      | false =>
        have HI := Lib.hid (idxs_no m x y k hx hy)
        clear hx
        go_wp2
        go_roundw
        case rel => exact ⟨k + 1, by omega, by go_num, HBr.out, by rw [HI.out]; exact HOW.out⟩
        case measure => simp [intOf]; omega
      | true =>
        obtain rfl : y = x := by simpa using hy
        have HI := Lib.hid (idxs_yes m y k hx)
        clear hx hy
        go_wp2_with (at_builtin; refine wpList_append_sl intS _ rfl _ _ 22 rfl w2.heap.size 3 i0 _ 8 Try.underlying22 hi hz0 hz1 hz2 rfl (by decide) _ _ rfl (HOW.out.below ((Below.refl _ _).alloc (Nat.le_refl _) _)) wr.heap.size (k : Int) #[.int .i64 (k : Int)] _ _ rfl (heap_new rfl) rfl (by have := HN.out; omega) (by simp; omega) ?_; intro A5 k5 w5 hown5 hb5 hg5)
        go_roundw
        case rel =>
          refine ⟨k + 1, by omega, by go_num, ?_, ?_⟩
          · exact HBr.out.trans (((Below.refl _ _).alloc hs _).trans hb5)
          · rw [HI.out]; simpa using hown5
        case measure => simp [intOf]; omega
    · obtain rfl : k = m.length := by omega
      go_wp2
      go_ret2
      exact ⟨A3, N, k3, rfl, (by rw [HLA.out]; exact HN.out), (by rw [HLA.out]; exact HOW.out.base HB2.out.size), HB2.out.trans (HBr.out.mono HB2.out.size)⟩

end Go.Proofs.Ytiledncedekefaa
