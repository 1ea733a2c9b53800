/- How far ants are shifted around a circle: ShiftInRound on both sides. -/
import Derived.Test.YtdoikeglaolipaaIsCirc
import Derived.Test.YtdoikeglaolipaaAround
import Derived.Test.YtdoikeglaolipaaCount
namespace Go.Proofs.Ytdoikeglaolipaa
open Go.RowKit

theorem after_any (a y L t : Int) (w : World) (hy : y = -1 ∨ y = 1) (ha0 : -1000000 ≤ a) (ha1 : a ≤ 1000000) (ht0 : 0 ≤ t) (ht1 : t ≤ 1000000) :
    Calls Try.prog 63 #[.agg #[.int .i64 a, .int .i64 y, .int .i64 L], .int .i64 t] w fun e w' => e = .returned (.agg #[.int .i64 (a + y * t), .int .i64 y]) ∧ Below w.heap.size w w' := by
  have hw1 : IntKind.i64.wrap (y * t) = y * t := IntWalk.i64_in _ (by rcases hy with rfl | rfl <;> omega)
  have hw2 : IntKind.i64.wrap (a + y * t) = a + y * t := IntWalk.i64_in _ (by rcases hy with rfl | rfl <;> omega)
  go_enter Try.func63, Try.ntmps63
  go_wp2
  exact bodyPost_ret (v := .agg #[.int .i64 (a + y * t), .int .i64 y]) (by simp [results, Try.results63, go_sem]) rfl ⟨rfl, ((Below.refl _ _).alloc (Nat.le_refl _) _).alloc (by simp) _⟩

theorem roundsTo_b (x L : Int) (w : World) (hx0 : -1000000 ≤ x) (hx1 : x ≤ 1000000) (hL : 2 ≤ L) (hL1 : L ≤ 1000000) :
    Calls Try.prog 50 #[.int .i64 x, .int .i64 L] w fun e w' => e = .returned (.int .i64 (x / L)) ∧ Below w.heap.size w w' :=
  (roundsTo_any x L w hx0 hx1 hL hL1).mono fun _ _ ⟨he, hw⟩ => ⟨he, hw ▸ Below.refl _ _⟩

theorem around_b (x L : Int) (w : World) (hx0 : -1000000 ≤ x) (hx1 : x ≤ 1000000) (hL : 0 < L) (hL1 : L ≤ 1000000) :
    Calls Try.prog 64 #[.int .i64 x, .int .i64 L] w fun e w' => e = .returned (.int .i64 (x % L)) ∧ Below w.heap.size w w' :=
  (around_any x L w hx0 hx1 hL hL1).mono fun _ _ ⟨he, hw⟩ => ⟨he, hw ▸ Below.refl _ _⟩

/-- the ghosts' rounds, one after the other -/
def shAll (L t : Int) (l : List (Int × Int)) : Int := l.foldl (fun s p => s + (p.1 + p.2 * t) / L) 0
theorem shAll_snoc (L t : Int) (l : List (Int × Int)) (k : Nat) (x : Int × Int) (hx : l[k]? = some x) : shAll L t (l.take (k + 1)) = shAll L t (l.take k) + (x.1 + x.2 * t) / L := by
  obtain ⟨hk, rfl⟩ := List.getElem?_eq_some_iff.1 hx
  unfold shAll
  rw [List.take_succ_eq_append_getElem hk, List.foldl_append]
  rfl
def rAll (l : List (Int × Int)) : Int := l.foldl (fun n p => if 0 < p.2 then n + 1 else n) 0
theorem rAll_snoc (l : List (Int × Int)) (k : Nat) (x : Int × Int) (hx : l[k]? = some x) : rAll (l.take (k + 1)) = if 0 < x.2 then rAll (l.take k) + 1 else rAll (l.take k) := by
  obtain ⟨hk, rfl⟩ := List.getElem?_eq_some_iff.1 hx
  unfold rAll
  rw [List.take_succ_eq_append_getElem hk, List.foldl_append]
  rfl
theorem rAll_bounds (l : List (Int × Int)) : ∀ k, k ≤ l.length → 0 ≤ rAll (l.take k) ∧ rAll (l.take k) ≤ k := by
  intro k
  induction k with
  | zero => intro _; simp [rAll]
  | succ k ih =>
    intro hk
    obtain ⟨h1, h2⟩ := ih (by omega)
    rw [rAll_snoc l k _ (List.getElem?_eq_getElem hk)]
    split <;> omega
theorem ciB_way {L : Int} {l : List (Int × Int)} (h : ciB L l = true) {k : Nat} {x : Int × Int} (hx : l[k]? = some x) : 0 ≤ x.1 ∧ x.1 ≤ L - 2 ∧ (x.2 = -1 ∨ x.2 = 1) := by
  have h1 := good_ant (ciB_good h) hx
  have h2 := ciB_ant h (List.getElem?_eq_some_iff.1 hx).1
  rw [getD_of hx] at h2
  exact ⟨h1.1, h2.2, h1.2.2.2⟩
theorem shAll_bounds {L : Int} {l : List (Int × Int)} (h : ciB L l = true) (t : Int) (h0 : 0 ≤ t) (h1 : t ≤ 20000) : ∀ k, k ≤ l.length → -(25000 * k) ≤ shAll L t (l.take k) ∧ shAll L t (l.take k) ≤ 25000 * k := by
  have hl := ciB_len h
  intro k
  induction k with
  | zero => intro _; simp [shAll]
  | succ k ih =>
    intro hk
    obtain ⟨h3, h4⟩ := ih (by omega)
    have hx : l[k]? = some l[k] := List.getElem?_eq_getElem hk
    have hw := ciB_way h hx
    rw [shAll_snoc L t l k _ hx]
    have hb := ediv_bound (l[k].1 + l[k].2 * t) L 25000 hl.1 (by rcases hw.2.2 with e | e <;> rw [e] <;> omega) (by rcases hw.2.2 with e | e <;> rw [e] <;> omega) (by omega)
    omega
theorem shAll_round {L : Int} {l : List (Int × Int)} (h : ciB L l = true) : ∀ k, k ≤ l.length → shAll L L (l.take k) = 2 * rAll (l.take k) - k := by
  have hl := ciB_len h
  intro k
  induction k with
  | zero => intro _; simp [shAll, rAll]
  | succ k ih =>
    intro hk
    have h3 := ih (by omega)
    have hx : l[k]? = some l[k] := List.getElem?_eq_getElem hk
    obtain ⟨w0, w1, hw⟩ := ciB_way h hx
    rw [shAll_snoc L L l k _ hx, rAll_snoc l k _ hx, h3]
    have hz : l[k].1 / L = 0 := Int.ediv_eq_zero_of_lt w0 (by omega)
    rw [Int.add_mul_ediv_right _ _ (by omega), hz]
    rcases hw with e | e <;> rw [e]
    · rw [if_neg (by omega)]; omega
    · rw [if_pos (by omega)]; omega

set_option maxRecDepth 100000 in
set_option maxHeartbeats 1000000 in
theorem shiftAfter_any (L : Int) (A : Option Addr) (c : Nat) (l : List (Int × Int)) (t : Int) (w : World) (hg : ciB L l = true) (ht0 : 0 ≤ t) (ht1 : t ≤ 20000) (hA : AntsAt w A l) :
    Calls Try.prog 51 #[.agg #[.int .i64 L, .slice A l.length c], .int .i64 t] w fun e w' => e = .returned (.int .i64 (shAll L t l)) ∧ Below w.heap.size w w' := by
  have HA := Lib.hid (hA.alloc (Obj.cells #[Value.int IntKind.i64 L, Value.slice A l.length c] 28))
  have hl := ciB_len hg
  have hn : (l.length : Int) ≤ 16 := by omega
  have HG := Lib.hid hg
  have HL := Lib.hid hl
  clear hA hg hl
  go_enter Try.func51, Try.ntmps51
  go_wp2_with fail
  refine (ghostsOf_any L A c l _ hn HA.out).mono ?_
  rintro e w2 ⟨A2, c2, rfl, ho, hb2⟩
  have HO := Lib.hid ho.sl
  have d0 : w2.cell? ⟨w.heap.size, 0, none⟩ = some (.int .i64 L) := by rw [hb2.cell (p := ⟨w.heap.size, 0, none⟩) (by simp)]; simp
  have HB2 := Lib.hid (((Below.refl _ w).alloc (Nat.le_refl _) _).trans (hb2.mono (by simp)))
  clear hb2 ho
  go_wp2
  go_loopw [5, 11] (fun s i wr => ∃ k : Nat, k ≤ l.length ∧ i = .int .i64 k ∧ s = .int .i64 (shAll L t (l.take k)) ∧ Below w2.heap.size w2 wr)
    (fun _ i _ => l.length - (intOf i).toNat)
  case atStart => exact ⟨0, Nat.zero_le _, rfl, rfl, Below.refl _ _⟩
  case round =>
    obtain ⟨k, hk, rfl, rfl, hbr⟩ := hrel
    have HBr := Lib.hid hbr
    have HOr := Lib.hid (HO.out.below hbr)
    have c0 := Below.cell_some hbr d0
    clear hbr
    by_cases hlt : k < l.length
    · obtain ⟨b, off, rfl, l0, hc⟩ := HOr.out.trip_at (show k < (gsOf L l).length by simpa [gsOf] using hlt)
      have hx : l[k]? = some (l.getD k (0, 0)) := by rw [List.getD_eq_getElem?_getD, List.getElem?_eq_getElem hlt]; rfl
      have hgx : (gsOf L l)[k]? = some ((l.getD k (0, 0)).1, (l.getD k (0, 0)).2, L) := by unfold gsOf; rw [List.getElem?_map, hx]; rfl
      obtain ⟨a0, a1, a2⟩ := hc k _ hgx
      have hm := shAll_snoc L t l k _ hx
      obtain ⟨b1, b2⟩ := shAll_bounds HG.out t ht0 ht1 k hk
      obtain ⟨x0, x1, xw⟩ := ciB_way HG.out hx
      clear hc hx hgx
      generalize l.getD k (0, 0) = x at *
      obtain ⟨p, y⟩ := x
      simp only at a0 a1 a2 hm x0 x1 xw
      have hl := HL.out
      have HAF : Hid (∀ w, Calls Try.prog 63 #[.agg #[.int .i64 p, .int .i64 y, .int .i64 L], .int .i64 t] w fun e w' => e = .returned (.agg #[.int .i64 (p + y * t), .int .i64 y]) ∧ Below w.heap.size w w') := fun w => after_any p y L t w xw (by omega) (by omega) (by omega) (by omega)
      have hz0 : -25000 ≤ p + y * t ∧ p + y * t ≤ 25000 := by rcases xw with rfl | rfl <;> omega
      have hq := ediv_bound (p + y * t) L 25000 hl.1 (by omega) (by omega) (by omega)
      have hfd : ∀ w : World, (Instr.field 59 (.agg #[.int .i64 (p + y * t), .int .i64 y]) 0).run Try.prog w = .ok (.int .i64 (p + y * t)) w := fun _ => by kernel_rfl
      have HRD : Hid (∀ w, Calls Try.prog 50 #[.int .i64 (p + y * t), .int .i64 L] w fun e w' => e = .returned (.int .i64 ((p + y * t) / L)) ∧ Below w.heap.size w w') := fun w => roundsTo_b _ L w (by omega) (by omega) hl.1 (by omega)
      have HM := Lib.hid hm
      clear hm
      generalize p + y * t = z at *
      generalize z / L = q at *
      generalize shAll L t (l.take k) = s at *
      have hw : IntKind.i64.wrap (s + q) = s + q := IntWalk.i64_in _ (by omega)
      clear hl hz0 x0 x1 xw
      have f0 := Ext.cell (p := ⟨wr.heap.size, 0, none⟩) (v := .int .i64 p) (W := (wr.alloc (Obj.cells #[Value.int IntKind.i64 p, Value.int IntKind.i64 y, Value.int IntKind.i64 L] 76))) (by simp)
      have f1 := Ext.cell (p := ⟨wr.heap.size, 1, none⟩) (v := .int .i64 y) (W := (wr.alloc (Obj.cells #[Value.int IntKind.i64 p, Value.int IntKind.i64 y, Value.int IntKind.i64 L] 76))) (by simp)
      have f2 := Ext.cell (p := ⟨wr.heap.size, 2, none⟩) (v := .int .i64 L) (W := (wr.alloc (Obj.cells #[Value.int IntKind.i64 p, Value.int IntKind.i64 y, Value.int IntKind.i64 L] 76))) (by simp)
      have f3 := Ext.old (o := (Obj.cells #[Value.int IntKind.i64 p, Value.int IntKind.i64 y, Value.int IntKind.i64 L] 76)) c0
      go_wp2
      refine wp_region_ext (by kernel_rfl) (by kernel_rfl) ?_
      repeat (first | go_big_quiet_skip | (go_big_quiet_want; go_big_quiet_op; first | go_big_quiet_on | (apply Exists.intro; refine ⟨fun _ => ?_, ?_⟩; (first | (go_at_call 63; exact Ext.call (HAF.out _)) | (go_at_call 50; exact Ext.call (HRD.out _))); go_big_quiet_on)))
      refine wpQuiet_nil ?_
      rintro _ ⟨x, rfl⟩
      go_wp2
      go_roundw
      case rel => exact ⟨k + 1, by omega, by go_num, by rw [HM.out], HBr.out.trans (((Below.refl _ _).alloc (Nat.le_refl _) _).trans (x.h.mono (by simp)) |>.mono HBr.out.size)⟩
      case measure => simp [intOf]; omega
    · obtain rfl : k = l.length := by omega
      have HE : Hid (l.take l.length = l) := List.take_length
      go_wp2
      go_ret
      exact ⟨ret_int (by rw [HE.out]), HB2.out.trans (HBr.out.mono HB2.out.size)⟩

/-- what ShiftInRound returns -/
def siOk (L : Int) (l : List (Int × Int)) : Bool := ciB L l && !(((l.length : Nat) : Int) == 0)
def siV (L : Int) (l : List (Int × Int)) : Int := if siOk L l then (2 * rAll l - l.length) % l.length else 0
theorem rAll_all (l : List (Int × Int)) : 0 ≤ rAll l ∧ rAll l ≤ l.length := by
  have := rAll_bounds l l.length (Nat.le_refl _)
  rwa [List.take_length] at this

end Go.Proofs.Ytdoikeglaolipaa
