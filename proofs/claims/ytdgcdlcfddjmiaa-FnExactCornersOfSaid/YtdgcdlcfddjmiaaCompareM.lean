/- How meetings are compared; slices.SortFunc at a row of meetings that the call owns. -/
import Derived.Test.YtdgcdlcfddjmiaaShelfM
import Derived.Test.YtdgcdlcfddjmiaaBridgeS
import Derived.Test.YtdgcdlcfddjmiaaCmp
namespace Go.Proofs.Ytdgcdlcfddjmiaa
open Go.RowKit Go.Shelf Go.Lib Go.Sort

def cmpM (x y : Int × Int × Int) : Int := if cmpI x.1 y.1 = 0 then cmpI x.2.1 y.2.1 else cmpI x.1 y.1
theorem ltOf_cmpM (x y : Int × Int × Int) : ltOf cmpM x y = mLt x y := by
  rw [Bool.eq_iff_iff, mLt_iff]
  unfold ltOf
  rw [decide_eq_true_eq]
  unfold cmpM cmpI
  split <;> split <;> (try split) <;> (try split) <;> omega
theorem swoM : SWO (ltOf cmpM) where
  irrefl x := by rw [ltOf_cmpM, mLt_no]; omega
  trans x y z h1 h2 := by rw [ltOf_cmpM, mLt_iff] at *; omega
  ntrans x y z h1 h2 := by rw [ltOf_cmpM, mLt_no] at *; omega

set_option maxRecDepth 100000 in
set_option maxHeartbeats 1000000 in
theorem compareMeetings_any (x y : Int × Int × Int) (W : World) :
    Calls Try.prog 59 #[.agg #[.int .i64 x.1, .int .i64 x.2.1, .int .i64 x.2.2], .agg #[.int .i64 y.1, .int .i64 y.2.1, .int .i64 y.2.2]] W fun e w' => e = .returned (.int .i64 (cmpM x y)) ∧ ∃ q os', w' = grow (W.drewN q) os' := by
  obtain ⟨x1, x2, x3⟩ := x
  obtain ⟨y1, y2, y3⟩ := y
  have HV : Hid (cmpM (x1, x2, x3) (y1, y2, y3) = orV (cmpI x1 y1) (cmpI x2 y2)) := rfl
  simp only
  go_enter Try.func59, Try.ntmps59
  go_wp2
  go_region_held3 (fun w' => w'.cell? ⟨W.heap.size, 0, none⟩ = some (.int .i64 x1) ∧ w'.cell? ⟨W.heap.size, 1, none⟩ = some (.int .i64 x2) ∧ w'.cell? ⟨W.heap.size + 1, 0, none⟩ = some (.int .i64 y1) ∧ w'.cell? ⟨W.heap.size + 1, 1, none⟩ = some (.int .i64 y2))
    (first | go_keep | (simp [go_sem]; done))
    (first
      | (go_at_call 89; refine (compare_any _ _ _).mono ?_; rintro e w' ⟨rfl, rfl⟩)
      | (go_at_call 88; refine (or_any _ _ (cmpI x1 y1) (cmpI x2 y2) _ (by simp [go_sem]) (by simp [go_sem])).mono ?_; rintro e w' ⟨rfl, rfl⟩))
  all_goals (
    go_wp2
    go_ret
    exact ⟨ret_int HV.out.symm, 1, _, grow3 _ _ _ _⟩)

theorem cmpLaysM (blk off size : Nat) (w : World) : CmpLays Try.prog 59 #[] tripS.cells tripS.size cmpM blk off size w :=
  fun _ _ _ _ x y => compareMeetings_any x y _

theorem sortMeet_any {w : World} {B n c : Nat} {A : Option Addr} {e : TypeId} {l : List (Int × Int × Int)} (hll : l.length ≤ 65536) (hd : mDist l) (h : SlOwn tripS w B e (.slice A n c) l) :
    Calls Try.prog 58 #[.slice A n c, .func (.func 59) #[] #[]] w fun e' w' => e' = .returned (.tuple #[]) ∧ SlOwn tripS w' B e (.slice A n c) (mAllS l) ∧ Below B w w' := by
  have hlt : l.length ≤ maxLen := by
    rcases h.2 with ⟨_, h0⟩ | ⟨g, cap, cur, hv, _, _, hnc, hm, _⟩
    · omega
    · exact Nat.le_trans hnc hm
  obtain ⟨A', c', hv, _, _⟩ := h.form
  injection hv with e1 e2 e3
  subst e1; subst e2; subst e3
  rcases h.2 with ⟨hv, h0⟩ | ⟨g, cap, cur, hv, _, hg, _⟩
  · injection hv with e1 e2 e3
    have hl : l = [] := List.eq_nil_of_length_eq_zero h0
    subst e1; subst hl; subst e3
    refine (AnyF.slices_SortFunc_none sortMeet none 0 _ w).mono ?_
    rintro e' w' ⟨rfl, rfl⟩
    exact ⟨rfl, h, Below.refl _ _⟩
  · injection hv with e1 e2 e3
    subst e1
    obtain ⟨hH, hg2, hB, _⟩ := own_holdsS h
    have hs : l.toArray.size = l.length := by simp
    have eg : ∀ args w, (callFunc 59 args).run Try.prog w = .ok (.enter 59 args) w := enters_of Try.func59 (by kernel_rfl) rfl
    have hcon := AnyQ.slices_SortFunc sortMeet tripS.size Try.isAgg42 Try.sizeOf42 tripS.cells tripS.len tripS.one cmpM swoM 59 #[] g 0 c l.toArray w eg (cmpLaysM g 0 l.toArray.size w) hH hg2 (by rw [hs]; omega)
    rw [hs] at hcon
    refine Calls.mono hcon ?_
    rintro e' w' ⟨rfl, d', m, os, hp, hso, rfl⟩
    have hds : d'.size = l.length := by rw [hp.1, hs]
    have hperm : d'.toList.Perm l := by
      have h3 := hp.2.2
      have e1 : d'.extract 0 l.length = d' := by rw [← hds]; exact Array.extract_size
      have e2 : l.toArray.extract 0 l.length = l.toArray := by rw [← hs]; exact Array.extract_size
      rw [e1, e2] at h3
      simpa using h3
    have hsrt : mSrt d'.toList := by
      unfold mSrt
      rw [List.pairwise_iff_getElem]
      intro i j hi hj hij
      have hi' : i < d'.size := by simpa using hi
      have hj' : j < d'.size := by simpa using hj
      have := hso i j (Nat.zero_le _) hij (by omega)
      rw [getElem!_pos d' j hj', getElem!_pos d' i hi', ltOf_cmpM] at this
      simpa using this
    have hu := mSrt_unique hd hsrt hperm (mAllS_srt l) (mAllS_perm l)
    have := sorted_ownS h d' hds m os
    rw [hu] at this
    exact ⟨rfl, this.1, this.2⟩
end Go.Proofs.Ytdgcdlcfddjmiaa
