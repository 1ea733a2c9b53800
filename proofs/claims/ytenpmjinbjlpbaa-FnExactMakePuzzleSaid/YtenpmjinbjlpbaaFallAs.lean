/- When ghosts fall: the contracts of impl.ghostsThatFallAs, (ghost).fallTime, impl.numbersOf at it. -/
import Derived.Test.YtenpmjinbjlpbaaFalls0
import Derived.Test.YtenpmjinbjlpbaaConcat
namespace Go.Proofs.Ytenpmjinbjlpbaa
open Go.RowKit

def fallAs (L : Int) (l : List (Int × Int)) : List (Int × Int × Int) := way (-1) (gsOf L l) ++ way 1 (gsOf L l)
def ft (g : Int × Int × Int) : Int := if g.2.1 = -1 then g.1 else g.2.2 - g.1
def fallsOf (L : Int) (l : List (Int × Int)) : List Int := (fallAs L l).map ft
theorem fallAs_len {L : Int} {l : List (Int × Int)} (hg : goodB L l = true) : (fallAs L l).length = l.length := by
  have := ways_sum hg
  unfold nL at this
  unfold fallAs
  rw [List.length_append]
  omega
theorem fallsOf_len {L : Int} {l : List (Int × Int)} (hg : goodB L l = true) : (fallsOf L l).length = l.length := by
  unfold fallsOf
  rw [List.length_map, fallAs_len hg]
/-- every ghost of a rod is a good one -/
def GoodGhost (g : Int × Int × Int) : Prop := 0 ≤ g.1 ∧ g.1 ≤ g.2.2 ∧ 2 ≤ g.2.2 ∧ g.2.2 ≤ 1000 ∧ (g.2.1 = -1 ∨ g.2.1 = 1)
theorem gsOf_good {L : Int} {l : List (Int × Int)} (hg : goodB L l = true) : ∀ g ∈ gsOf L l, GoodGhost g ∧ g.2.2 = L := by
  intro g hm
  unfold gsOf at hm
  obtain ⟨p, hp, rfl⟩ := List.mem_map.1 hm
  obtain ⟨k, hk⟩ := List.getElem?_of_mem hp
  obtain ⟨a, b, _, d⟩ := good_ant hg hk
  obtain ⟨e, f, _⟩ := good_hdr hg
  exact ⟨⟨a, b, e, f, d⟩, rfl⟩
theorem way_mem {y : Int} {l : List (Int × Int × Int)} {g : Int × Int × Int} (h : g ∈ way y l) : g ∈ l ∧ g.2.1 = y := by
  unfold way at h
  have := List.mem_filter.1 h
  exact ⟨this.1, by simpa using this.2⟩
theorem fallAs_good {L : Int} {l : List (Int × Int)} (hg : goodB L l = true) : ∀ g ∈ fallAs L l, GoodGhost g := by
  intro g hm
  unfold fallAs at hm
  rcases List.mem_append.1 hm with h | h <;> exact (gsOf_good hg g (way_mem h).1).1
theorem fallAs_good2 {L : Int} {l : List (Int × Int)} (hg : goodB L l = true) : ∀ g ∈ fallAs L l, GoodGhost g ∧ g.2.2 = L := by
  intro g hm
  unfold fallAs at hm
  rcases List.mem_append.1 hm with h | h <;> exact (gsOf_good hg g (way_mem h).1)
theorem ft_bounds {g : Int × Int × Int} (h : GoodGhost g) : 0 ≤ ft g ∧ ft g ≤ 1000 := by
  obtain ⟨a, b, c, d, e⟩ := h
  unfold ft
  split <;> omega

theorem fallTime_any (a y L : Int) (hg : GoodGhost (a, y, L)) (w : World) :
    Calls Try.prog 83 #[.agg #[.int .i64 a, .int .i64 y, .int .i64 L]] w fun e w' => e = .returned (.int .i64 (ft (a, y, L))) ∧ Below w.heap.size w w' := by
  obtain ⟨h1, h2, h3, h4, h5⟩ := hg
  simp only at h1 h2 h3 h4 h5
  rcases h5 with rfl | rfl
  · go_enter Try.func83, Try.ntmps83
    go_wp2_with fail
    refine (goesLeft_at a (-1) L true rfl _).mono ?_
    rintro e w1 ⟨rfl, hb⟩
    have hz : w.heap.size < w1.heap.size := by have := hb.size; simp at this; omega
    have c0 : w1.cell? ⟨w.heap.size, 0, none⟩ = some (.int .i64 a) := by rw [hb.cell (p := ⟨w.heap.size, 0, none⟩) (by simp)]; simp
    go_wp2
    go_ret
    exact ⟨ret_int rfl, ((Below.refl _ w).alloc (Nat.le_refl _) _).trans (hb.mono (by simp))⟩
  · go_enter Try.func83, Try.ntmps83
    go_wp2_with fail
    refine (goesLeft_at a 1 L false rfl _).mono ?_
    rintro e w1 ⟨rfl, hb⟩
    have hz : w.heap.size < w1.heap.size := by have := hb.size; simp at this; omega
    have c0 : w1.cell? ⟨w.heap.size, 0, none⟩ = some (.int .i64 a) := by rw [hb.cell (p := ⟨w.heap.size, 0, none⟩) (by simp)]; simp
    have c2 : w1.cell? ⟨w.heap.size, 2, none⟩ = some (.int .i64 L) := by rw [hb.cell (p := ⟨w.heap.size, 2, none⟩) (by simp)]; simp
    go_wp2
    go_ret
    exact ⟨ret_int rfl, ((Below.refl _ w).alloc (Nat.le_refl _) _).trans (hb.mono (by simp))⟩

theorem intInfo : (Try.prog.info? 3).map (fun i => (i.zero, i.size, i.bytes)) = some (some (.int .i64 0), intS.size, 8) := by kernel_rfl

set_option maxRecDepth 100000 in
set_option maxHeartbeats 1000000 in
theorem numbersOf_fallTime (A : Option Addr) (c : Nat) (m : List (Int × Int × Int)) (w : World) (hn : (m.length : Int) ≤ 1000) (hg : ∀ g ∈ m, GoodGhost g) (hA : SlAt tripS w A m) :
    Calls Try.prog 89 #[.slice A m.length c, .func (.func 83) #[] #[]] w fun e w' => ∃ A' c', e = .returned (.slice A' (m.map ft).length c') ∧ SlOwn intS w' w.heap.size 3 (.slice A' (m.map ft).length c') (m.map ft) ∧ Below w.heap.size w w' := by
  obtain ⟨i0, hi, hz0, hz1, hz2⟩ := info_parts intInfo
  have HA := Lib.hid hA
  have HG := Lib.hid hg
  clear hA hg
  go_enter Try.func89, Try.ntmps89
  go_wp2_with (at_make; refine wpList_make_own _ rfl _ _ _ rfl w.heap.size 3 i0 _ 1 Try.underlying22 hi hz0 hz1 .i64 .i64 _ m.length rfl rfl rfl (by rw [hz2]; omega) (by unfold maxLen; omega) (Nat.le_refl _) ?_; intro w1 hown hg1)
  have HB1 := Lib.hid ((Below.refl w.heap.size w).grown hg1 (Nat.le_refl _) (by simp))
  have HO1 : Hid (SlOwn intS w1 w.heap.size 3 (.slice (some ⟨w.heap.size, 0, none⟩) 0 m.length) ((m.take 0).map ft)) := hown
  clear hg1 hown
  go_loopw [5, 13] (fun v i wr => ∃ k : Nat, k ≤ m.length ∧ i = .int .i64 k ∧ Below w.heap.size w wr ∧ SlOwn intS wr w.heap.size 3 v ((m.take k).map ft))
    (fun _ i _ => m.length - (intOf i).toNat)
  case atStart => exact ⟨0, Nat.zero_le _, rfl, HB1.out, HO1.out⟩
  case round =>
    obtain ⟨k, hk, rfl, hb, hown⟩ := hrel
    have HB := Lib.hid hb
    have hs := hb.size
    have HAr := Lib.hid (HA.out.below hb)
    clear hb
    obtain ⟨A3, k3, rfl, hat, hin⟩ := hown.form
    have hlen : ((m.take k).map ft).length = k := by simp; omega
    rw [hlen] at hown
    have HOW := Lib.hid hown
    have HLEN := Lib.hid hlen
    clear hown hat hin hlen
    by_cases hlt : k < m.length
    · obtain ⟨b, off, rfl, l0, hc⟩ := HAr.out.trip_at hlt
      have hx : m[k]? = some (m[k]'hlt) := List.getElem?_eq_getElem hlt
      obtain ⟨a0, a1, a2⟩ := hc k _ hx
      have hgood := HG.out _ (List.getElem_mem hlt)
      have HT : Hid ((m.take (k + 1)).map ft = (m.take k).map ft ++ [ft (m[k]'hlt)]) := by
        show _ = _
        rw [List.take_succ_eq_append_getElem hlt, List.map_append]; rfl
      clear hc hx
      generalize m[k]'hlt = x at *
      obtain ⟨x1, x2, x3⟩ := x
      simp only at a0 a1 a2
      have HGG := Lib.hid hgood
      clear hgood
      go_wp2_with fail
      refine (fallTime_any x1 x2 x3 HGG.out _).mono ?_
      rintro e w3 ⟨rfl, hb3⟩
      have HB3 := Lib.hid (((Below.refl _ wr).alloc (Nat.le_refl _) _).trans (hb3.mono (by simp)))
      clear hb3
      go_wp2_with (at_builtin; refine wpList_append_sl intS _ rfl _ _ 22 rfl w.heap.size 3 i0 _ 8 Try.underlying22 hi hz0 hz1 hz2 rfl (by decide) _ _ rfl ((HOW.out.below HB3.out).below ((Below.refl _ _).alloc (Nat.le_refl _) _)) w3.heap.size (ft (x1, x2, x3)) #[.int .i64 (ft (x1, x2, x3))] _ _ rfl (heap_new rfl) rfl (by have := HLEN.out; omega) (by have := HB3.out.size; simp; omega) ?_; intro A5 k5 w5 hown5 hb5 hg5)
      go_roundw
      case rel =>
        refine ⟨k + 1, by omega, by go_num, ?_, ?_⟩
        · exact HB.out.trans ((HB3.out.mono hs).trans (((Below.refl _ _).alloc (by have := HB3.out.size; omega) _).trans hb5))
        · rw [HT.out]; have h5 := hown5; rw [List.length_append, HLEN.out] at h5; simpa using h5
      case measure => simp [intOf]; omega
    · obtain rfl : k = m.length := by omega
      rw [List.take_length] at HOW
      go_wp2
      go_ret
      exact ⟨A3, k3, by simp, by simpa using HOW.out, HB.out⟩

set_option maxRecDepth 100000 in
set_option maxHeartbeats 1000000 in
theorem fallAs_any (L : Int) (A : Option Addr) (c : Nat) (l : List (Int × Int)) (w : World) (hn : (l.length : Int) ≤ 16) (hA : AntsAt w A l) :
    Calls Try.prog 82 #[.agg #[.int .i64 L, .slice A l.length c]] w fun e w' => ∃ A' c', e = .returned (.slice A' (fallAs L l).length c') ∧ SlOwn tripS w' w.heap.size 102 (.slice A' (fallAs L l).length c') (fallAs L l) ∧ Below w.heap.size w w' := by
  have HA := Lib.hid (hA.alloc (Obj.cells #[Value.int IntKind.i64 L, Value.slice A l.length c] 47))
  clear hA
  have hnl : ((way (-1) (gsOf L l)).length : Int) ≤ 16 := by have := way_len (-1) (gsOf L l); rw [gsOf_len] at this; omega
  have hnr : ((way 1 (gsOf L l)).length : Int) ≤ 16 := by have := way_len 1 (gsOf L l); rw [gsOf_len] at this; omega
  obtain ⟨W, hW⟩ : ∃ W, W = w.alloc (Obj.cells #[Value.int IntKind.i64 L, Value.slice A l.length c] 47) := ⟨_, rfl⟩
  have hWs : W.heap.size = w.heap.size + 1 := by rw [hW]; simp
  have c0 : W.cell? ⟨w.heap.size, 0, none⟩ = some (.int .i64 L) := by rw [hW]; simp
  have c1 : W.cell? ⟨w.heap.size, 1, none⟩ = some (.slice A l.length c) := by rw [hW]; simp
  have HBW : Hid (Below w.heap.size w W) := by show Below _ _ _; rw [hW]; exact (Below.refl _ _).alloc (Nat.le_refl _) _
  rw [← hW] at HA
  have HL : Hid (∀ X, Below W.heap.size W X → Calls Try.prog 76 #[.agg #[.int .i64 L, .slice A l.length c], .func (.func 77) #[] #[]] X fun e w' => ∃ A' c', e = .returned (.slice A' (way (-1) (gsOf L l)).length c') ∧ SlAt tripS w' A' (way (-1) (gsOf L l)) ∧ Below X.heap.size X w') :=
    fun X hb => (thatL_any L A c l X hn (HA.out.below hb)).mono fun e w' ⟨A', c', he, ho, hw⟩ => ⟨A', c', he, ho.sl, hw⟩
  have HR : Hid (∀ X, Below W.heap.size W X → Calls Try.prog 76 #[.agg #[.int .i64 L, .slice A l.length c], .func (.func 78) #[] #[]] X fun e w' => ∃ A' c', e = .returned (.slice A' (way 1 (gsOf L l)).length c') ∧ SlAt tripS w' A' (way 1 (gsOf L l)) ∧ Below X.heap.size X w') :=
    fun X hb => (thatR_any L A c l X hn (HA.out.below hb)).mono fun e w' ⟨A', c', he, ho, hw⟩ => ⟨A', c', he, ho.sl, hw⟩
  have HD : Hid (Below W.heap.size W W.drew) := (Below.refl _ _).drew
  go_enter Try.func82, Try.ntmps82
  go_wp2
  rw [← hW]
  have HWE := Lib.hid hW
  clear hW
  go_region_held3 (fun w' => w'.cell? ⟨w.heap.size, 0, none⟩ = some (.int .i64 L) ∧ w'.cell? ⟨w.heap.size, 1, none⟩ = some (.slice A l.length c))
    (first
      | go_keep
      | exact ⟨Below.cell_some hbx c0, Below.cell_some hbx c1⟩
      | exact ⟨Below.cell_some hby d0, Below.cell_some hby d1⟩
      | exact ⟨Below.cell_some hbz (alloc_some e0 _), Below.cell_some hbz (alloc_some e1 _)⟩)
    (first
      | (go_at_call 76; (with_reducible refine (HL.out W.drew HD.out).mono ?_); rintro e w2 ⟨A2, k2, rfl, ha2, hbx0⟩; have hbx := below_drew hbx0; clear hbx0; have d0 := Below.cell_some hbx c0; have d1 := Below.cell_some hbx c1)
      | (go_at_call 76; (with_reducible refine (HR.out W.drew HD.out).mono ?_); rintro e w2 ⟨A2, k2, rfl, ha2, hbx0⟩; have hbx := below_drew hbx0; clear hbx0; have d0 := Below.cell_some hbx c0; have d1 := Below.cell_some hbx c1)
      | (go_at_call 76; (with_reducible refine (HL.out _ hbx).mono ?_); rintro e w3 ⟨A3, k3, rfl, ha3, hby⟩; have e0 := Below.cell_some hby d0; have e1 := Below.cell_some hby d1)
      | (go_at_call 76; (with_reducible refine (HR.out _ hbx).mono ?_); rintro e w3 ⟨A3, k3, rfl, ha3, hby⟩; have e0 := Below.cell_some hby d0; have e1 := Below.cell_some hby d1)
      | (go_at_call 90; refine (concatG_any _ _ A2 A3 k2 k3 (way (-1) (gsOf L l)) (way 1 (gsOf L l)) _ (by omega) (by omega) ((ha2.below hby).alloc _) (ha3.alloc _) (by simp) (by simp)).mono ?_; rintro e w4 ⟨A4, k4, rfl, ho4, hbz⟩)
      | (go_at_call 90; refine (concatG_any _ _ A3 A2 k3 k2 (way (-1) (gsOf L l)) (way 1 (gsOf L l)) _ (by omega) (by omega) (ha3.alloc _) ((ha2.below hby).alloc _) (by simp) (by simp)).mono ?_; rintro e w4 ⟨A4, k4, rfl, ho4, hbz⟩))
  all_goals go_wp2
  all_goals go_ret
  all_goals
    have b1 := HBW.out.trans (hbx.mono (by omega))
    have b2 := b1.trans (hby.mono b1.size)
    exact ⟨A4, k4, by simp [fallAs], (by have := ho4.base (B' := w.heap.size) (by have := b2.size; simp; omega); simpa [fallAs] using this), below_via b2 b2.size hbz⟩

end Go.Proofs.Ytenpmjinbjlpbaa
