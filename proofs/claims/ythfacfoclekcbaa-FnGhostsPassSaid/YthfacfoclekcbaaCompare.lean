/- How ants are compared; slices.SortFunc and slices.Reverse at a row of ants that the call owns. -/
import Derived.Test.YthfacfoclekcbaaShelf
import Derived.Test.YthfacfoclekcbaaBridge
import Derived.Test.YthfacfoclekcbaaCmp
import Derived.Deep.RegionHeld3
namespace Go.Proofs.Ythfacfoclekcbaa
open Go.RowKit Go.Shelf Go.Lib Go.Sort

def cmpA (x y : Int × Int) : Int := if cmpI x.1 y.1 = 0 then cmpI x.2 y.2 else cmpI x.1 y.1
theorem ltOf_cmpA (x y : Int × Int) : ltOf cmpA x y = antLt x y := by
  rw [Bool.eq_iff_iff, antLt_iff]
  unfold ltOf
  rw [decide_eq_true_eq]
  unfold cmpA cmpI
  split <;> split <;> (try split) <;> (try split) <;> omega
theorem swoA : SWO (ltOf cmpA) where
  irrefl x := by rw [ltOf_cmpA]; simp [antLt]
  trans x y z h1 h2 := by rw [ltOf_cmpA, antLt_iff] at *; omega
  ntrans x y z h1 h2 := by
    rw [ltOf_cmpA] at *
    have h3 : ¬ antLt x y = true := by rw [h1]; decide
    have h4 : ¬ antLt y z = true := by rw [h2]; decide
    rw [← Bool.not_eq_true]
    rw [antLt_iff] at *
    omega

set_option maxRecDepth 100000 in
set_option maxHeartbeats 1000000 in
theorem compareAnts_any (x y : Int × Int) (W : World) :
    Calls Try.prog 47 #[.agg #[.int .i64 x.1, .int .i64 x.2], .agg #[.int .i64 y.1, .int .i64 y.2]] W fun e w' => e = .returned (.int .i64 (cmpA x y)) ∧ ∃ q os', w' = grow (W.drewN q) os' := by
  obtain ⟨x1, x2⟩ := x
  obtain ⟨y1, y2⟩ := y
  have HV : Hid (cmpA (x1, x2) (y1, y2) = orV (cmpI x1 y1) (cmpI x2 y2)) := rfl
  simp only
  go_enter Try.func47, Try.ntmps47
  go_wp2
  go_region_held3 (fun w' => w'.cell? ⟨W.heap.size, 0, none⟩ = some (.int .i64 x1) ∧ w'.cell? ⟨W.heap.size, 1, none⟩ = some (.int .i64 x2) ∧ w'.cell? ⟨W.heap.size + 1, 0, none⟩ = some (.int .i64 y1) ∧ w'.cell? ⟨W.heap.size + 1, 1, none⟩ = some (.int .i64 y2))
    (first | go_keep | (simp [go_sem]; done))
    (first
      | (go_at_call 64; refine (compare_any _ _ _).mono ?_; rintro e w' ⟨rfl, rfl⟩)
      | (go_at_call 63; refine (or_any _ _ (cmpI x1 y1) (cmpI x2 y2) _ (by simp [go_sem]) (by simp [go_sem])).mono ?_; rintro e w' ⟨rfl, rfl⟩))
  all_goals (
    go_wp2
    go_ret
    exact ⟨ret_int HV.out.symm, 1, _, grow3 _ _ _ _⟩)

theorem enc_len (x : Int × Int) : (encP x).length = 2 := rfl
theorem cmpLays (blk off size : Nat) (w : World) : CmpLays Try.prog 47 #[] encP 2 cmpA blk off size w :=
  fun _ _ _ _ x y => compareAnts_any x y _

theorem mergeA (l : List (Int × Int)) : (l.toArray.toList.mergeSort fun x y => !ltOf cmpA y x) = srtA l := by
  have e : (fun x y => !ltOf cmpA y x) = antLe := by
    funext x y
    rw [ltOf_cmpA]; rfl
  rw [e]; rfl

theorem sort_any {w : World} {B n c : Nat} {A : Option Addr} {e : TypeId} {l : List (Int × Int)} (hll : l.length ≤ 65536) (h : SlOwn pairS w B e (.slice A n c) l) :
    Calls Try.prog 46 #[.slice A n c, .func (.func 47) #[] #[]] w fun e' w' => e' = .returned (.tuple #[]) ∧ SlOwn pairS w' B e (.slice A n c) (srtA l) ∧ Below B w w' := by
  have hlt : l.length ≤ maxLen := by
    rcases h.2 with ⟨_, h0⟩ | ⟨g, cap, cur, hv, _, _, hnc, hm, _⟩
    · omega
    · exact Nat.le_trans hnc hm
  obtain ⟨A', c', hv, _, _⟩ := h.form
  injection hv with e1 e2 e3
  subst e1; subst e2; subst e3
  rcases h.2 with ⟨hv, h0⟩ | ⟨g, cap, cur, hv, _, hg, _⟩
  · injection hv with e1 e2 e3
    have hl : l = [] := List.eq_nil_of_length_eq_zero h0
    subst e1; subst hl; subst e3
    refine (AnyF.slices_SortFunc_none sortAnt none 0 _ w).mono ?_
    rintro e' w' ⟨rfl, rfl⟩
    exact ⟨rfl, by rw [srtA_nil]; exact h, Below.refl _ _⟩
  · injection hv with e1 e2 e3
    subst e1
    obtain ⟨hH, hg2, hB, _⟩ := own_holds h
    have hs : l.toArray.size = l.length := by simp
    have eg : ∀ args w, (callFunc 47 args).run Try.prog w = .ok (.enter 47 args) w := enters_of Try.func47 (by kernel_rfl) rfl
    have hcon := AnyQ.slices_SortFunc_total sortAnt 2 Try.isAgg42 Try.sizeOf42 encP encP_len encP_one cmpA swoA 47 #[] g 0 c l.toArray w eg (cmpLays g 0 l.toArray.size w) hH hg2 (by rw [hs]; omega) (fun x y h1 h2 => by
      rw [ltOf_cmpA] at h1 h2
      exact antLe_anti x y (by unfold antLe; rw [h2]; rfl) (by unfold antLe; rw [h1]; rfl))
    rw [mergeA] at hcon
    rw [hs] at hcon
    refine Calls.mono hcon ?_
    rintro e' w' ⟨rfl, m, os, rfl⟩
    have := sorted_own h (srtA l).toArray (by simp [srtA_len]) m os
    exact ⟨rfl, by simpa using this.1, this.2⟩

end Go.Proofs.Ythfacfoclekcbaa
