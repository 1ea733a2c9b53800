/- The program's ghosts: closures; how runners are compared by where their ghosts are; runners in the order of their ghosts. -/
import Derived.Test.YtlepdphdflpoaaaGhoS
import Derived.Test.YtlepdphdflpoaaaBridgeF
import Derived.Test.YtlepdphdflpoaaaShelfR
import Derived.Test.YtlepdphdflpoaaaMiddle
namespace Go.Proofs.Ytlepdphdflpoaaa
open Go.RowKit Go.Shelf Go.Lib Go.Sort

/-- what only grows, is a growth -/
theorem grown_of {w w' : World} (hb : RowKit.Below w.heap.size w w') (hd : w.drawn ≤ w'.drawn) : ∃ q os', w' = grow (w.drewN q) os' := by
  refine ⟨w'.drawn - w.drawn, w'.heap.extract w.heap.size w'.heap.size, ?_⟩
  obtain ⟨heap, tape, drawn, os, output⟩ := w
  obtain ⟨heap', tape', drawn', os', output'⟩ := w'
  obtain ⟨h1, h2, h3, h4, h5⟩ := hb
  simp only at h1 h2 h3 h4 h5 hd
  subst h1; subst h2; subst h3
  unfold grow World.drewN
  simp only [World.mk.injEq, true_and, and_true]
  refine ⟨?_, by omega⟩
  apply Array.ext_getElem?
  intro i
  by_cases hi : i < heap.size
  · rw [Array.getElem?_append_left hi, h5 i hi]
  · rw [Array.getElem?_append_right (by omega), Array.getElem?_extract]
    by_cases hi2 : i < heap'.size
    · rw [if_pos (by omega)]
      congr 1
      omega
    · rw [if_neg (by omega), Array.getElem?_eq_none (by omega)]

/-- a runner's numbers are in their limits -/
def rnOk (x : Int × Int) : Prop := 0 ≤ x.1 ∧ x.1 ≤ 1000 ∧ -9 ≤ x.2 ∧ x.2 ≤ 9
theorem ghostOf_any (a p : Int) (w : World) :
    Calls Try.prog 86 #[.agg #[.int .i64 a, .int .i64 p]] w fun e w' => ∃ g, e = .returned (.func (.func 97) #[] #[.pointer (some ⟨g, 0, none⟩)]) ∧ w'.cell? ⟨g, 0, none⟩ = some (.int .i64 a) ∧ w'.cell? ⟨g, 1, none⟩ = some (.int .i64 p) ∧ RowKit.Below w.heap.size w w' ∧ w.drawn ≤ w'.drawn := by
  go_enter Try.func86, Try.ntmps86
  go_wp2
  go_ret
  exact ⟨_, rfl, by simp, by simp, (Below.refl _ _).alloc (Nat.le_refl _) _, Nat.le_refl _⟩

set_option maxRecDepth 100000 in
set_option maxHeartbeats 1000000 in
theorem ghostAt_any (x : Int × Int) (n d : Int) (g : Nat) (w : World) (hx : rnOk x) (ht : timB n d = true) (h0 : w.cell? ⟨g, 0, none⟩ = some (.int .i64 x.1)) (h1 : w.cell? ⟨g, 1, none⟩ = some (.int .i64 x.2)) :
    Calls Try.prog 97 #[.agg #[.int .i64 n, .int .i64 d], .pointer (some ⟨g, 0, none⟩)] w fun e w' => e = .returned (.agg #[.int .i64 (lowP (keyR n d x).1 d).1, .int .i64 (lowP (keyR n d x).1 d).2]) ∧ RowKit.Below w.heap.size w w' ∧ w.drawn ≤ w'.drawn := by
  have hti := (timB_iff n d).1 ht
  have hk := key_bound (N := n) (D := d) hti.1 hti.2.1 hti.2.2.1 hti.2.2.2.1 hx
  obtain ⟨x1, x2⟩ := x
  unfold keyR
  simp only at hk h0 h1 ⊢
  have HL := Lib.hid (fun w => lowest_dr (x1 * d + x2 * n) d w (by omega) (by omega) (by omega) (by omega))
  have hw1 : IntKind.i64.wrap (x1 * d) = x1 * d := IntWalk.i64_in _ (by omega)
  have hw2 : IntKind.i64.wrap (x2 * n) = x2 * n := IntWalk.i64_in _ (by omega)
  have hw3 : IntKind.i64.wrap (x1 * d + x2 * n) = x1 * d + x2 * n := IntWalk.i64_in _ (by omega)
  have hgl : g < w.heap.size := World.block_lt_of_cell? _ _ h0
  clear hti hk hx ht
  generalize (lowP (x1 * d + x2 * n) d).1 = a at *
  generalize (lowP (x1 * d + x2 * n) d).2 = b at *
  go_enter Try.func97, Try.ntmps97
  go_wp2_with fail
  refine (HL.out _).mono ?_
  rintro e w1 ⟨rfl, hb, hdr⟩
  obtain ⟨s3, r0, r1, f0, f1⟩ := ((RZ.start2 w (Obj.cells #[Value.int IntKind.i64 n, Value.int IntKind.i64 d] 32) 32).below hb).parts
  have HB := Lib.hid ((((Below.refl _ w).alloc (Nat.le_refl _) _).alloc (by simp) _).trans (hb.mono (by simp; omega)))
  have HDR : Hid (w.drawn ≤ w1.drawn) := hdr
  clear hb hdr
  go_wp2
  exact bodyPost_ret (v := .agg #[.int .i64 a, .int .i64 b]) (by simp [results, Try.results97, go_sem, r0, r1]) rfl ⟨rfl, (HB.out.setCell (by simp) _).setCell (by simp) _, HDR.out⟩

/-! ### how runners are compared -/
def cmpR (n d : Int) (x y : Int × Int) : Int := orV (cmpI (keyR n d x).1 (keyR n d y).1) (cmpI x.2 y.2)
theorem cmpF_low {a b D : Int} (hD : 0 < D) : cmpF (lowP a D) (lowP b D) = cmpI a b := by
  unfold cmpF cmpI
  have h1 := lowP_lt (n1 := a) (n2 := b) hD
  have h2 := lowP_lt (n1 := b) (n2 := a) hD
  by_cases h : a < b
  · rw [if_pos (h1.2 h), if_pos h]
  · rw [if_neg (fun hh => h (h1.1 hh)), if_neg h]
    by_cases h' : b < a
    · rw [if_pos (h2.2 h'), if_pos h']
    · rw [if_neg (fun hh => h' (h2.1 hh)), if_neg h']
theorem ltOf_cmpR (n d : Int) (x y : Int × Int) : ltOf (cmpR n d) x y = antLt (keyR n d x) (keyR n d y) := by
  rw [Bool.eq_iff_iff, antLt_iff]
  unfold ltOf
  rw [decide_eq_true_eq]
  unfold cmpR orV cmpI
  have e1 : (keyR n d x).2 = x.2 := rfl
  have e2 : (keyR n d y).2 = y.2 := rfl
  rw [e1, e2]
  split <;> split <;> (try split) <;> (try split) <;> omega

set_option maxRecDepth 100000 in
set_option maxHeartbeats 4000000 in
theorem orderBehind1_any (x y : Int × Int) (n d : Int) (gt : Nat) (W : World) (hx : rnOk x) (hy : rnOk y) (ht : timB n d = true) (h0 : W.cell? ⟨gt, 0, none⟩ = some (.int .i64 n)) (h1 : W.cell? ⟨gt, 1, none⟩ = some (.int .i64 d)) :
    Calls Try.prog 89 #[.agg #[.int .i64 x.1, .int .i64 x.2], .agg #[.int .i64 y.1, .int .i64 y.2], .pointer (some ⟨gt, 0, none⟩)] W fun e w' => e = .returned (.int .i64 (cmpR n d x y)) ∧ ∃ q os', w' = grow (W.drewN q) os' := by
  have HGX : Hid (∀ g w, w.cell? ⟨g, 0, none⟩ = some (.int .i64 x.1) → w.cell? ⟨g, 1, none⟩ = some (.int .i64 x.2) → Calls Try.prog 97 #[.agg #[.int .i64 n, .int .i64 d], .pointer (some ⟨g, 0, none⟩)] w fun e w' => e = .returned (.agg #[.int .i64 (lowP (keyR n d x).1 d).1, .int .i64 (lowP (keyR n d x).1 d).2]) ∧ RowKit.Below w.heap.size w w' ∧ w.drawn ≤ w'.drawn) := fun g w a b => ghostAt_any x n d g w hx ht a b
  have HGY : Hid (∀ g w, w.cell? ⟨g, 0, none⟩ = some (.int .i64 y.1) → w.cell? ⟨g, 1, none⟩ = some (.int .i64 y.2) → Calls Try.prog 97 #[.agg #[.int .i64 n, .int .i64 d], .pointer (some ⟨g, 0, none⟩)] w fun e w' => e = .returned (.agg #[.int .i64 (lowP (keyR n d y).1 d).1, .int .i64 (lowP (keyR n d y).1 d).2]) ∧ RowKit.Below w.heap.size w w' ∧ w.drawn ≤ w'.drawn) := fun g w a b => ghostAt_any y n d g w hy ht a b
  have hti := (timB_iff n d).1 ht
  have hd0 : 0 < d := by omega
  have HCM : Hid (∀ w, Calls Try.prog 77 #[.agg #[.int .i64 (lowP (keyR n d x).1 d).1, .int .i64 (lowP (keyR n d x).1 d).2], .agg #[.int .i64 (lowP (keyR n d y).1 d).1, .int .i64 (lowP (keyR n d y).1 d).2]] w fun e w' => e = .returned (.int .i64 (cmpI (keyR n d x).1 (keyR n d y).1)) ∧ RowKit.Below w.heap.size w w' ∧ w.drawn ≤ w'.drawn) := fun w => by
    have kx := key_bound (N := n) (D := d) hti.1 hti.2.1 hti.2.2.1 hti.2.2.2.1 hx
    have ky := key_bound (N := n) (D := d) hti.1 hti.2.1 hti.2.2.1 hti.2.2.2.1 hy
    have sm : ∀ k : Int, -9000000 ≤ k → k ≤ 10000000 → smallF (lowP k d) := fun k a b => by
      have h1 := lowP_num_abs (num := k) hd0 10000000 (by omega) (by omega)
      have h2 := lowP_den_le (num := k) hd0
      have h3 := lowP_pos (num := k) hd0
      unfold smallF; omega
    have := cmpMoments_any (lowP (keyR n d x).1 d) (lowP (keyR n d y).1 d) w (sm _ (by unfold keyR; simp only; omega) (by unfold keyR; simp only; omega)) (sm _ (by unfold keyR; simp only; omega) (by unfold keyR; simp only; omega))
    rw [cmpF_low hd0] at this
    refine this.mono fun _ _ ⟨he, o1, o2, hw⟩ => ⟨he, ?_, ?_⟩
    · rw [hw]; exact ((Below.refl _ _).alloc (Nat.le_refl _) _).alloc (by simp) _
    · rw [hw]; exact Nat.le_refl _
  have HV : Hid (cmpR n d x y = orV (cmpI (keyR n d x).1 (keyR n d y).1) (cmpI x.2 y.2)) := rfl
  have hgl : gt < W.heap.size := World.block_lt_of_cell? _ _ h0
  clear hti hd0 hx hy ht
  generalize (lowP (keyR n d x).1 d).1 = u1 at *
  generalize (lowP (keyR n d x).1 d).2 = u2 at *
  generalize (lowP (keyR n d y).1 d).1 = v1 at *
  generalize (lowP (keyR n d y).1 d).2 = v2 at *
  generalize cmpI (keyR n d x).1 (keyR n d y).1 = z1 at *
  generalize cmpR n d x y = Z at *
  obtain ⟨x1, x2⟩ := x
  obtain ⟨y1, y2⟩ := y
  simp only at HGX HGY HV ⊢
  obtain ⟨W2, hW2⟩ : ∃ X, X = (W.alloc (Obj.cells #[Value.int IntKind.i64 x1, Value.int IntKind.i64 x2] 64)).alloc (Obj.cells #[Value.int IntKind.i64 y1, Value.int IntKind.i64 y2] 64) := ⟨_, rfl⟩
  have a0 : W2.cell? ⟨W.heap.size, 0, none⟩ = some (.int .i64 x1) := by rw [hW2]; simp [go_sem]
  have a1 : W2.cell? ⟨W.heap.size, 1, none⟩ = some (.int .i64 x2) := by rw [hW2]; simp [go_sem]
  have b0 : W2.cell? ⟨W.heap.size + 1, 0, none⟩ = some (.int .i64 y1) := by rw [hW2]; simp [go_sem]
  have b1 : W2.cell? ⟨W.heap.size + 1, 1, none⟩ = some (.int .i64 y2) := by rw [hW2]; simp [go_sem]
  have c0 : W2.cell? ⟨gt, 0, none⟩ = some (.int .i64 n) := by rw [hW2]; exact alloc_some (alloc_some h0 _) _
  have c1 : W2.cell? ⟨gt, 1, none⟩ = some (.int .i64 d) := by rw [hW2]; exact alloc_some (alloc_some h1 _) _
  have HB2 : Hid (RowKit.Below W.heap.size W W2) := by show RowKit.Below _ _ _; rw [hW2]; exact ((Below.refl _ _).alloc (Nat.le_refl _) _).alloc (by simp) _
  have HD2 : Hid (W.drawn ≤ W2.drawn) := by show _ ≤ _; rw [hW2]; exact Nat.le_refl _
  have hs2 : W2.heap.size = W.heap.size + 2 := by rw [hW2]; simp
  go_enter Try.func89, Try.ntmps89
  go_wp2
  rw [← hW2]
  clear hW2 h0 h1
  have QB0 := Lib.hid HB2.out
  have QD0 := Lib.hid HD2.out
  go_region_held3 (fun w' => w'.cell? ⟨W.heap.size, 0, none⟩ = some (.int .i64 x1) ∧ w'.cell? ⟨W.heap.size, 1, none⟩ = some (.int .i64 x2) ∧ w'.cell? ⟨W.heap.size + 1, 0, none⟩ = some (.int .i64 y1) ∧ w'.cell? ⟨W.heap.size + 1, 1, none⟩ = some (.int .i64 y2) ∧ w'.cell? ⟨gt, 0, none⟩ = some (.int .i64 n) ∧ w'.cell? ⟨gt, 1, none⟩ = some (.int .i64 d))
    (first | exact ⟨a0, a1, b0, b1, c0, c1⟩ | exact ⟨alloc_some a0 _, alloc_some a1 _, alloc_some b0 _, alloc_some b1 _, alloc_some c0 _, alloc_some c1 _⟩ | go_keep)
    (first
      | (go_at_call 86; with_reducible refine (ghostOf_any x1 x2 W2.drew).mono ?_; rintro e q1 ⟨gx, rfl, gx0, gx1, hbx, hdx⟩; have hbw := below_drew hbx; have a0 := Below.cell_some hbw a0; have a1 := Below.cell_some hbw a1; have b0 := Below.cell_some hbw b0; have b1 := Below.cell_some hbw b1; have c0 := Below.cell_some hbw c0; have c1 := Below.cell_some hbw c1; have QB1 := Lib.hid (QB0.out.trans (hbw.mono QB0.out.size)); have QD1 : Hid (W.drawn ≤ q1.drawn) := Nat.le_trans QD0.out (Nat.le_trans (Nat.le_succ _) hdx); clear hbx hbw hdx)
      | (go_at_call 97; with_reducible refine (HGX.out gx q1 gx0 gx1).mono ?_; rintro e q2 ⟨rfl, hbw, hdx⟩; have a0 := Below.cell_some hbw a0; have a1 := Below.cell_some hbw a1; have b0 := Below.cell_some hbw b0; have b1 := Below.cell_some hbw b1; have c0 := Below.cell_some hbw c0; have c1 := Below.cell_some hbw c1; have QB2 := Lib.hid (QB1.out.trans (hbw.mono QB1.out.size)); have QD2 := Lib.hid (Nat.le_trans QD1.out hdx); clear hbw hdx)
      | (go_at_call 86; with_reducible refine (ghostOf_any y1 y2 q2).mono ?_; rintro e q3 ⟨gy, rfl, gy0, gy1, hbw, hdx⟩; have a0 := Below.cell_some hbw a0; have a1 := Below.cell_some hbw a1; have b0 := Below.cell_some hbw b0; have b1 := Below.cell_some hbw b1; have c0 := Below.cell_some hbw c0; have c1 := Below.cell_some hbw c1; have QB3 := Lib.hid (QB2.out.trans (hbw.mono QB2.out.size)); have QD3 := Lib.hid (Nat.le_trans QD2.out hdx); clear hbw hdx)
      | (go_at_call 97; with_reducible refine (HGY.out gy q3 gy0 gy1).mono ?_; rintro e q4 ⟨rfl, hbw, hdx⟩; have a0 := Below.cell_some hbw a0; have a1 := Below.cell_some hbw a1; have b0 := Below.cell_some hbw b0; have b1 := Below.cell_some hbw b1; have c0 := Below.cell_some hbw c0; have c1 := Below.cell_some hbw c1; have QB4 := Lib.hid (QB3.out.trans (hbw.mono QB3.out.size)); have QD4 := Lib.hid (Nat.le_trans QD3.out hdx); clear hbw hdx)
      | (go_at_call 77; with_reducible refine (HCM.out q4).mono ?_; rintro e q5 ⟨rfl, hbw, hdx⟩; have a0 := Below.cell_some hbw a0; have a1 := Below.cell_some hbw a1; have b0 := Below.cell_some hbw b0; have b1 := Below.cell_some hbw b1; have c0 := Below.cell_some hbw c0; have c1 := Below.cell_some hbw c1; have QB5 := Lib.hid (QB4.out.trans (hbw.mono QB4.out.size)); have QD5 := Lib.hid (Nat.le_trans QD4.out hdx); clear hbw hdx)
      | (go_at_call 91; with_reducible refine (compare_any x2 y2 q5).mono ?_; rintro e q6 ⟨rfl, rfl⟩)
      | (go_at_call 90; with_reducible refine (or_any _ _ z1 (cmpI x2 y2) _ (by simp [go_sem]) (by simp [go_sem])).mono ?_; rintro e q7 ⟨rfl, rfl⟩))
  go_wp2
  go_ret
  exact ⟨ret_int HV.out.symm, grown_of (QB5.out.alloc QB5.out.size _) QD5.out⟩

/-! ### runners in the order of their ghosts -/
structure Rnr where
  val : Int × Int
  ok : rnOk val
instance : Inhabited Rnr := ⟨⟨(0, 0), by unfold rnOk; simp only; omega⟩⟩
def rnrS : Shape Rnr := ⟨2, fun x => [.int .i64 x.val.1, .int .i64 x.val.2], fun _ => rfl, fun _ u hu => by simp at hu; rcases hu with rfl | rfl <;> rfl, by omega⟩
theorem rnr_row : ∀ lf : List Rnr, rnrS.row lf = pairS.row (lf.map (·.val))
  | [] => rfl
  | x :: lf => by rw [Shape.row_cons, rnr_row lf]; rfl
theorem own_rnr {w : World} {B : Nat} {e : TypeId} {v : Value} {lf : List Rnr} : SlOwn rnrS w B e v lf ↔ SlOwn pairS w B e v (lf.map (·.val)) := by
  unfold SlOwn
  rw [rnr_row, List.length_map]
  exact Iff.rfl
theorem lift_rnr : ∀ l : List (Int × Int), (∀ x, x ∈ l → rnOk x) → ∃ lf : List Rnr, lf.map (fun x => x.val) = l
  | [], _ => ⟨[], rfl⟩
  | x :: l, h => by
    obtain ⟨lf, hl⟩ := lift_rnr l (fun y hy => h y (List.mem_cons_of_mem x hy))
    exact ⟨⟨x, h x List.mem_cons_self⟩ :: lf, by rw [List.map_cons, hl]⟩
def cmpRr (n d : Int) (x y : Rnr) : Int := cmpR n d x.val y.val
theorem ltOf_cmpRr (n d : Int) (x y : Rnr) : ltOf (cmpRr n d) x y = antLt (keyR n d x.val) (keyR n d y.val) := by
  rw [← ltOf_cmpR]; rfl
theorem swoRr (n d : Int) : SWO (ltOf (cmpRr n d)) where
  irrefl x := by rw [ltOf_cmpRr]; simp [antLt]
  trans x y z h1 h2 := by rw [ltOf_cmpRr, antLt_iff] at *; omega
  ntrans x y z h1 h2 := by
    rw [ltOf_cmpRr] at *
    have h3 : ¬ antLt (keyR n d x.val) (keyR n d y.val) = true := by rw [h1]; decide
    have h4 : ¬ antLt (keyR n d y.val) (keyR n d z.val) = true := by rw [h2]; decide
    rw [← Bool.not_eq_true]
    rw [antLt_iff] at *
    omega

theorem sortRr_any {w : World} {B n c : Nat} {A : Option Addr} {e : TypeId} {l : List Rnr} (N D : Int) (gt : Nat) (hgB : gt < B) (ht : timB N D = true) (h0 : w.cell? ⟨gt, 0, none⟩ = some (.int .i64 N)) (h1 : w.cell? ⟨gt, 1, none⟩ = some (.int .i64 D)) (hll : l.length ≤ 65536) (h : SlOwn rnrS w B e (.slice A n c) l) :
    Calls Try.prog 88 #[.slice A n c, .func (.func 89) #[] #[.pointer (some ⟨gt, 0, none⟩)]] w fun e' w' => e' = .returned (.tuple #[]) ∧ ∃ d : List Rnr, SlOwn rnrS w' B e (.slice A n c) d ∧ d.Perm l ∧ (d.Pairwise fun a b => antLe (keyR N D a.val) (keyR N D b.val) = true) ∧ RowKit.Below B w w' := by
  have hlt : l.length ≤ maxLen := by
    rcases h.2 with ⟨_, h0⟩ | ⟨g, cap, cur, hv, _, _, hnc, hm, _⟩
    · omega
    · exact Nat.le_trans hnc hm
  obtain ⟨A', c', hv, _, _⟩ := h.form
  injection hv with e1 e2 e3
  subst e1; subst e2; subst e3
  rcases h.2 with ⟨hv, h0⟩ | ⟨g, cap, cur, hv, _, hg, _⟩
  · injection hv with e1 e2 e3
    have hl : l = [] := List.eq_nil_of_length_eq_zero h0
    subst e1; subst hl; subst e3
    refine (AnyF.slices_SortFunc_none sortRunner none 0 _ w).mono ?_
    rintro e' w' ⟨rfl, rfl⟩
    exact ⟨rfl, [], h, List.Perm.refl _, by simp, Below.refl _ _⟩
  · injection hv with e1 e2 e3
    subst e1
    obtain ⟨hH, hg2, hB, _⟩ := own_holdsS h
    have hs : l.toArray.size = l.length := by simp
    have eg : ∀ args w, (callFunc 89 args).run Try.prog w = .ok (.enter 89 args) w := enters_of Try.func89 (by kernel_rfl) rfl
    have hcl : CmpLays Try.prog 89 #[.pointer (some ⟨gt, 0, none⟩)] rnrS.cells rnrS.size (cmpRr N D) g 0 l.toArray.size w := fun m os dk hdk x y => by
      have hbw := (sorted_ownS h dk (by rw [hdk, hs]) m os).2
      exact orderBehind1_any x.val y.val N D gt _ x.ok y.ok ht ((hbw.cell (p := ⟨gt, 0, none⟩) hgB).trans h0) ((hbw.cell (p := ⟨gt, 1, none⟩) hgB).trans h1)
    have hcon := AnyQ.slices_SortFunc sortRunner rnrS.size Try.isAgg64 Try.sizeOf64 rnrS.cells rnrS.len rnrS.one (cmpRr N D) (swoRr N D) 89 #[.pointer (some ⟨gt, 0, none⟩)] g 0 c l.toArray w eg hcl hH hg2 (by rw [hs]; omega)
    rw [hs] at hcon
    refine Calls.mono hcon ?_
    rintro e' w' ⟨rfl, d', m, os, hp, hso, rfl⟩
    have hds : d'.size = l.length := by rw [hp.1, hs]
    have hperm : d'.toList.Perm l := by
      have h3 := hp.2.2
      have e1 : d'.extract 0 l.length = d' := by rw [← hds]; exact Array.extract_size
      have e2 : l.toArray.extract 0 l.length = l.toArray := by rw [← hs]; exact Array.extract_size
      rw [e1, e2] at h3
      simpa using h3
    have hsrt : d'.toList.Pairwise fun a b => antLe (keyR N D a.val) (keyR N D b.val) = true := by
      rw [List.pairwise_iff_getElem]
      intro i j hi hj hij
      have hi' : i < d'.size := by simpa using hi
      have hj' : j < d'.size := by simpa using hj
      have := hso i j (Nat.zero_le _) hij (by omega)
      rw [getElem!_pos d' j hj', getElem!_pos d' i hi', ltOf_cmpRr] at this
      unfold antLe
      simp only [Array.getElem_toList]
      rw [this]; rfl
    have := sorted_ownS h d' hds m os
    exact ⟨rfl, d'.toList, this.1, hperm, hsrt, this.2⟩
theorem sortR_any {w : World} {B n c : Nat} {A : Option Addr} {e : TypeId} {l : List (Int × Int)} (N D : Int) (gt : Nat) (hgB : gt < B) (ht : timB N D = true) (h0 : w.cell? ⟨gt, 0, none⟩ = some (.int .i64 N)) (h1 : w.cell? ⟨gt, 1, none⟩ = some (.int .i64 D)) (hP : ∀ x, x ∈ l → rnOk x) (hll : l.length ≤ 65536) (h : SlOwn pairS w B e (.slice A n c) l) :
    Calls Try.prog 88 #[.slice A n c, .func (.func 89) #[] #[.pointer (some ⟨gt, 0, none⟩)]] w fun e' w' => e' = .returned (.tuple #[]) ∧ ∃ d : List (Int × Int), SlOwn pairS w' B e (.slice A n c) d ∧ d.Perm l ∧ ((d.map (keyR N D)).Pairwise fun a b => antLe a b = true) ∧ RowKit.Below B w w' := by
  obtain ⟨lf, hlf⟩ := lift_rnr l hP
  subst hlf
  refine (sortRr_any N D gt hgB ht h0 h1 (by simpa using hll) (own_rnr.2 h)).mono ?_
  rintro e' w' ⟨rfl, d, ho, hp, hs, hb⟩
  exact ⟨rfl, d.map (·.val), own_rnr.1 ho, hp.map _, by rw [List.pairwise_map, List.pairwise_map]; exact hs, hb⟩

set_option maxRecDepth 100000 in
set_option maxHeartbeats 1000000 in
theorem cloneR_any (A : Option Addr) (c : Nat) (l : List (Int × Int)) (w : World) (hn : (l.length : Int) ≤ 65536) (hA : AntsAt w A l) :
    Calls Try.prog 87 #[.slice A l.length c] w fun e w' => ∃ A' n' c', e = .returned (.slice A' n' c') ∧ n' = l.length ∧ SlOwn pairS w' w.heap.size 64 (.slice A' n' c') l ∧ RowKit.Below w.heap.size w w' := by
  obtain ⟨i0, hi, hz0, hz1, hz2⟩ := info_parts runInfo
  cases A with
  | none =>
    have hl : l = [] := by
      rcases hA with h | ⟨_, _, h, _⟩
      · exact h
      · cases h
    subst hl
    have he : ∀ w : World, (binOp .eql 25 (.slice none 0 c) (.slice none 0 0)).run Try.prog w = .ok (.bool true) w := fun w => by kernel_rfl
    simp only [List.length_nil]
    go_enter Try.func87, Try.ntmps87
    go_wp2
    go_ret
    exact ⟨none, 0, 0, rfl, rfl, SlOwn.nil pairS _ _ _, Below.refl _ _⟩
  | some ad =>
    have HA := Lib.hid (antsAt_sl hA)
    have he : ∀ w : World, (binOp .eql 25 (.slice (some ad) l.length c) (.slice none 0 0)).run Try.prog w = .ok (.bool false) w := fun w => by kernel_rfl
    clear hA
    go_enter Try.func87, Try.ntmps87
    go_wp2_with (at_builtin; go_must (refine wpList_append_slsv pairS _ rfl _ _ 25 rfl w.heap.size 64 i0 _ 16 Try.underlying25 hi hz0 hz1 hz2 rfl (by decide) _ [] rfl (own_empty pairS w _) _ l.length c l rfl rfl (HA.out.alloc _) (by simp; omega) (by simp) ?_); intro A7 n7 k7 w7 hn7 ho7 hb7)
    go_ret
    exact ⟨_, _, _, rfl, rfl, by have e7 : n7 = l.length := (by simpa using hn7); rw [← e7]; simpa using ho7, ((Below.refl _ _).alloc (Nat.le_refl _) _).trans hb7⟩

/-- append inside a region that draws its order; where the new row lies -/
theorem step_append_slsw {α : Type} (S : Shape α) {P : Program} (w : World) {ops : Array Oper} {o : Oper} {a : Act} {K : Act → World → Prop} {Q : Exit → Act → World → Prop} {E : Prop} (hgd : o.guard = none) (s x : Operand) (t : TypeId)
    (ho : o.op = .call { callee := .builtin .append, args := #[s, x], argTypes := #[t, t] })
    (B : Nat) (e : TypeId) (i : TypeInfo) (z : Value) (bytes : Nat) (ht : P.underlying t = some (.slice e)) (hi : P.info? e = some i) (hz : i.zero = some z)
    (hsize : i.size = S.size) (hby : i.bytes = bytes) (hzs : z.cells.size = S.size) (hB64 : bytes ≤ 64)
    (v : Value) (l : List α) (hs : a.eval s = v) (hown : SlOwn S w B e v l)
    (ad : Addr) (n c : Nat) (m : List α) (hx : a.eval x = .slice (some ad) n c) (hn : n = m.length) (hm : SlAt S w (some ad) m)
    (hlen : l.length + m.length ≤ 1048576) (hbase : B ≤ w.heap.size)
    (h : ∀ A' n' c' w', SlOwn S w' B e (.slice A' n' c') (l ++ m) → w.grownBy w' v.ownBlock → ((Value.slice A' n' c').ownBlock = v.ownBlock ∨ (Value.slice A' n' c').ownBlock = some w.heap.size) → K (a.put o.dst (.slice A' n' c')) w') :
    if Region.wanted o (yielded ops a.tmps) = true then Oper.wp P o a w K Q else E := by
  subst hn
  have hw : Region.wanted o (yielded ops a.tmps) = true := by simp [Region.wanted, hgd]
  rw [if_pos hw]
  obtain ⟨v', w', hr, h2, h3, _, h5⟩ := run_append_own_at (P := P) w B t o.type e i z S.size bytes ht hi hz hsize hby hzs S.pos v l.length (S.row l) hown ad m.length c (S.row m) (S.row_length m) hm.cells_at (S.row_oneCell m)
    (by unfold maxLen; omega) (by have : (l.length + m.length) * bytes ≤ 1048576 * 64 := Nat.mul_le_mul hlen hB64; omega) hbase
  have h4 : SlOwn S w' B e v' (l ++ m) := by
    show World.ownsRow _ _ _ _ _ _ _
    rw [List.length_append, S.row_append]
    exact h2
  obtain ⟨A', c', rfl, _, _⟩ := h4.form
  unfold Oper.wp execOp
  simp only [ho, resolve, invoke, builtin, Sem.run_bind, Sem.run_pure, Result.andThen_ok, List.map_toArray, List.map_cons, List.map_nil, hs, hx, hr]
  exact h A' _ c' w' h4 h3 h5

set_option maxRecDepth 100000 in
set_option maxHeartbeats 1000000 in
/-- what orderBehind returns -/
theorem orderBehind_any (A : Option Addr) (c : Nat) (l : List (Int × Int)) (n d : Int) (w : World) (hg : rnnB l = true) (ht : timB n d = true) (hA : AntsAt w A l) :
    Calls Try.prog 73 #[.slice A l.length c, .agg #[.int .i64 n, .int .i64 d]] w fun e w' => ∃ A' n' c' m, e = .returned (.slice A' n' c') ∧ n' = l.length ∧ SlOwn pairS w' w.heap.size 64 (.slice A' n' c') m ∧ m.Perm l ∧ m.map (keyR n d) = ghL n d l ∧ RowKit.Below w.heap.size w w' := by
  have HA := Lib.hid (hA.alloc (Obj.cells #[Value.int IntKind.i64 n, Value.int IntKind.i64 d] 32))
  have hl12 := rnn_len hg
  have HRN : Hid (∀ x, x ∈ l → rnOk x) := fun x hx => rnn_mem hg hx
  have HT := Lib.hid ht
  clear hA hg ht
  go_enter Try.func73, Try.ntmps73
  go_wp2_with fail
  refine (cloneR_any A c l _ (by omega) HA.out).mono ?_
  rintro e w1 ⟨A1, n1, c1, rfl, hn1, ho1, hb1⟩
  have HN1 := Lib.hid hn1
  have c0 : w1.cell? ⟨w.heap.size, 0, none⟩ = some (.int .i64 n) := by rw [hb1.cell (p := ⟨w.heap.size, 0, none⟩) (by simp)]; simp
  have c1' : w1.cell? ⟨w.heap.size, 1, none⟩ = some (.int .i64 d) := by rw [hb1.cell (p := ⟨w.heap.size, 1, none⟩) (by simp)]; simp
  have HO1 : Hid (SlOwn pairS w1 (w.heap.size + 1) 64 (.slice A1 n1 c1) l) := by show SlOwn _ _ _ _ _ _; simpa using ho1
  have HB1 := Lib.hid (((Below.refl _ w).alloc (Nat.le_refl _) (Obj.cells #[Value.int IntKind.i64 n, Value.int IntKind.i64 d] 32)).trans (hb1.mono (by simp)))
  clear ho1 hb1 hn1
  go_wp2_with fail
  refine (sortR_any n d w.heap.size (Nat.lt_succ_self _) HT.out c0 c1' HRN.out (by omega) HO1.out).mono ?_
  rintro e w2 ⟨rfl, m, ho2, hp2, hs2, hb2⟩
  go_wp2
  go_ret
  exact ⟨_, _, _, m, rfl, HN1.out, SlOwn.base ho2 (Nat.le_succ _), hp2, ghL_of hp2 hs2, HB1.out.trans (hb2.mono (Nat.le_succ _))⟩
end Go.Proofs.Ytlepdphdflpoaaa
