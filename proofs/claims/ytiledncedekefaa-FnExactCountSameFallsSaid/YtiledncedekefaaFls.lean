/- Rods of told falls: what lists are falls, the model's stFalls and stOf. -/
import Derived.Test.YtiledncedekefaaStRod
import Derived.Test.YtiledncedekefaaPut
namespace Go.Proofs.Ytiledncedekefaa
open Go.RowKit

def flB (L : Int) (l m : List Int) : Bool := hdr L 0 && decide (l.length + m.length ≤ 16) && (rowB L l && rowB L m)
/-- the ants whose ghosts fall so, before they are put in order -/
def rawF (L : Int) (l m : List Int) : List (Int × Int) := l.map (fun t => (t, -1)) ++ m.map (fun t => (L - t, 1))
theorem rawF_len (L : Int) (l m : List Int) : (rawF L l m).length = l.length + m.length := by simp [rawF]
theorem flB_iff (L : Int) (l m : List Int) : flB L l m = true ↔ (2 ≤ L ∧ L ≤ 1000 ∧ L % 2 = 0) ∧ l.length + m.length ≤ 16 ∧ rowB L l = true ∧ rowB L m = true := by
  unfold flB
  rw [Bool.and_eq_true, Bool.and_eq_true, Bool.and_eq_true, hdr_iff]
  simp [and_assoc]
/-- what RodOfFalls returns -/
def rfV (L : Int) (l m : List Int) : List (Int × Int) := if flB L l m then srtA (rawF L l m) else []
def rfL (L : Int) (l m : List Int) : Int := if flB L l m then L else 0
theorem rfV_len (L : Int) (l m : List Int) : (rfV L l m).length ≤ 16 := by
  unfold rfV
  split
  · rename_i h
    rw [srtA_len, rawF_len]; exact ((flB_iff L l m).1 h).2.1
  · simp
theorem flB_false {L : Int} {l m : List Int} (h : flB L l m = false) : rfV L l m = [] ∧ rfL L l m = 0 := by unfold rfV rfL; rw [h]; exact ⟨rfl, rfl⟩

set_option maxHeartbeats 2000000 in
theorem stFalls_out (L : Int) (A B : Option Addr) (c d : Nat) (l m : List Int) (w : World) (hl : (l.length : Int) ≤ 1048576) (hm : (m.length : Int) ≤ 1048576) (h : ¬ ((2 ≤ L ∧ L ≤ 1000 ∧ L % 2 = 0) ∧ l.length + m.length ≤ 16)) :
    Calls Try.prog 88 #[.int .i64 L, .slice A l.length c, .slice B m.length d] w fun e w' => e = .returned (.bool false) ∧ Below w.heap.size w w' := by
  by_cases hr : 2 ≤ L ∧ L ≤ 1000
  · obtain ⟨h1, h2⟩ := hr
    have HR : Hid ((decide (2 ≤ L) && decide (L ≤ 1000)) = true) := by show (_ && _) = true; simp [h1, h2]
    by_cases hev : L % 2 = 0
    · have e1 : (L % 2 == 0) = true := by simpa using hev
      have e2 : (L % 2 != 0) = false := by simpa using hev
      have hs : ¬ (l.length + m.length ≤ 16) := fun hl => h ⟨⟨h1, h2, hev⟩, hl⟩
      clear h hev
      by_cases k1 : (16 : Int) < (l.length : Int)
      · go_enter Try.func88, Try.ntmps88
        go_wp2_with (go_at_call 80; refine (in_at _ _ _ true HR.out _).mono ?_; rintro e w' ⟨rfl, rfl⟩)
        go_ret
        exact ⟨ret_bool rfl, Below.refl _ _⟩
      · by_cases k2 : (16 : Int) < (m.length : Int)
        · go_enter Try.func88, Try.ntmps88
          go_wp2_with (go_at_call 80; refine (in_at _ _ _ true HR.out _).mono ?_; rintro e w' ⟨rfl, rfl⟩)
          go_ret
          exact ⟨ret_bool rfl, Below.refl _ _⟩
        · have k3 : (16 : Int) < (l.length : Int) + (m.length : Int) := by omega
          go_enter Try.func88, Try.ntmps88
          go_wp2_with (go_at_call 80; refine (in_at _ _ _ true HR.out _).mono ?_; rintro e w' ⟨rfl, rfl⟩)
          go_ret
          exact ⟨ret_bool rfl, Below.refl _ _⟩
    · have e1 : (L % 2 == 0) = false := by simpa using hev
      have e2 : (L % 2 != 0) = true := by simpa using hev
      clear h hev
      go_enter Try.func88, Try.ntmps88
      go_wp2_with (go_at_call 80; refine (in_at _ _ _ true HR.out _).mono ?_; rintro e w' ⟨rfl, rfl⟩)
      go_ret
      exact ⟨ret_bool rfl, Below.refl _ _⟩
  · have HR : Hid ((decide (2 ≤ L) && decide (L ≤ 1000)) = false) := by show (_ && _) = false; simp; omega
    clear h hr
    go_enter Try.func88, Try.ntmps88
    go_wp2_with (go_at_call 80; refine (in_at _ _ _ false HR.out _).mono ?_; rintro e w' ⟨rfl, rfl⟩)
    go_ret
    exact ⟨ret_bool rfl, Below.refl _ _⟩

/-- the j-th of two -/
def nth2 {α : Type} (a b : α) (j : Nat) : α := if j = 0 then a else b
set_option maxRecDepth 100000 in
set_option maxHeartbeats 4000000 in
theorem stFalls_in (L : Int) (A B : Option Addr) (c d : Nat) (l m : List Int) (w : World) (h1 : 2 ≤ L) (h2 : L ≤ 1000) (h3 : L % 2 = 0) (h4 : l.length + m.length ≤ 16) (hA : SlAt intS w A l) (hB : SlAt intS w B m) :
    Calls Try.prog 88 #[.int .i64 L, .slice A l.length c, .slice B m.length d] w fun e w' => e = .returned (.bool (rowB L l && rowB L m)) ∧ Below w.heap.size w w' := by
  have E1 : (L % 2 == 0) = true := by simpa using h3
  have E2 : (L % 2 != 0) = false := by simpa using h3
  have HR : Hid ((decide (2 ≤ L) && decide (L ≤ 1000)) = true) := by show (_ && _) = true; simp [h1, h2]
  have K1 : ¬ (16 : Int) < (l.length : Int) := by omega
  have K2 : ¬ (16 : Int) < (m.length : Int) := by omega
  have K3 : ¬ (16 : Int) < (l.length : Int) + (m.length : Int) := by omega
  have HA := Lib.hid hA
  have HB := Lib.hid hB
  clear h3 hA hB
  go_enter Try.func88, Try.ntmps88
  go_wp2_with (go_at_call 80; refine (in_at _ _ _ true HR.out _).mono ?_; rintro e w' ⟨rfl, rfl⟩)
  have HBW : Hid (Below w.heap.size w (w.alloc (Obj.cells #[.slice A l.length c, .slice B m.length d] 22))) := (Below.refl _ _).alloc (Nat.le_refl _) _
  have q0 : (w.alloc (Obj.cells #[.slice A l.length c, .slice B m.length d] 22)).cell? ⟨w.heap.size, 0, none⟩ = some (.slice A l.length c) := by simp
  have q1 : (w.alloc (Obj.cells #[.slice A l.length c, .slice B m.length d] 22)).cell? ⟨w.heap.size, 1, none⟩ = some (.slice B m.length d) := by simp
  generalize hW : w.alloc (Obj.cells #[.slice A l.length c, .slice B m.length d] 22) = W at *
  clear hW
  go_loop [41] (fun j => ∃ j0 : Nat, j0 ≤ 2 ∧ j = .int .i64 j0 ∧ (0 < j0 → rowB L l = true) ∧ (1 < j0 → rowB L m = true)) (fun j => 2 - (intOf j).toNat)
  case atStart => exact ⟨0, by omega, rfl, by omega, by omega⟩
  case round =>
    obtain ⟨j0, hj, rfl, hr0, hr1⟩ := hrel
    have HR0 := Lib.hid hr0
    have HR1 := Lib.hid hr1
    clear hr0 hr1
    by_cases hlt : j0 < 2
    · obtain ⟨X, cx, x, hcell, hX, hx, hxl⟩ : ∃ (X : Option Addr) (cx : Nat) (x : List Int), W.cell? ⟨w.heap.size, j0, none⟩ = some (.slice X x.length cx) ∧ SlAt intS W X x ∧ x = nth2 l m j0 ∧ x.length ≤ 16 := by
        rcases (by omega : j0 = 0 ∨ j0 = 1) with rfl | rfl
        · exact ⟨A, c, l, q0, HA.out.below HBW.out, rfl, by omega⟩
        · exact ⟨B, d, m, q1, HB.out.below HBW.out, rfl, by omega⟩
      have HX := Lib.hid hX
      have HXE := Lib.hid hx
      have hj2 : (j0 : Int) < 2 := by omega
      clear hX hx q0 q1
      go_wp2
      go_loop [47] (fun i => ∃ k : Nat, k ≤ x.length ∧ i = .int .i64 k ∧ ∀ j, j < k → numAt L x j = true)
        (fun i => x.length - (intOf i).toNat)
      case atStart => exact ⟨0, Nat.zero_le _, rfl, fun j hj => absurd hj (by omega)⟩
      case round =>
        obtain ⟨k, hk, rfl, hall⟩ := hrel
        have HALL := Lib.hid hall
        clear hall
        by_cases hlk : k < x.length
        · obtain ⟨b, off, rfl, l0, hc⟩ := HX.out.int_at hlk
          have a0 := hc k _ (List.getElem?_eq_getElem hlk)
          have hp := hc (k - 1) _ (List.getElem?_eq_getElem (show k - 1 < x.length by omega))
          have hok : numAt L x k = (decide (0 ≤ x[k]) && decide (x[k] ≤ L) && (x[k] % 2 == 0) && (k == 0 || decide (x[k - 1] < x[k]))) := by
            unfold numAt
            rw [List.getD_eq_getElem?_getD, List.getD_eq_getElem?_getD, List.getElem?_eq_getElem hlk, List.getElem?_eq_getElem (show k - 1 < x.length by omega)]
            rfl
          clear hc
          generalize x[k] = u at *
          generalize x[k - 1] = v at *
          have HOK := Lib.hid hok
          clear hok
          have hkl : (k : Int) < (x.length : Int) := by omega
          have HFALSE : Hid (numAt L x k = false → (rowB L l && rowB L m) = false) := fun hf => by
            have hf2 : rowB L x = false := all_no hlk hf
            rw [HXE.out] at hf2
            unfold nth2 at hf2
            split at hf2
            · rw [hf2]; rfl
            · rw [hf2]; simp
          by_cases h0 : 0 ≤ u ∧ u ≤ L
          · have HI : Hid ((decide (0 ≤ u) && decide (u ≤ L)) = true) := by show (_ && _) = true; simp; omega
            obtain ⟨i0, i1⟩ := h0
            by_cases h2' : u % 2 = 0
            · have e1 : (u % 2 == 0) = true := by simpa using h2'
              have e2 : (u % 2 != 0) = false := by simpa using h2'
              have HM := Lib.hid h2'
              clear h2'
              by_cases hk0 : 0 < k
              · have q1 : (0 : Int) < (k : Int) := by omega
                have q2 : (1 : Int) ≤ (k : Int) := by omega
                have q3 : ((k : Int) - 1).toNat = k - 1 := by omega
                have q4 : (k : Int) - 1 < (x.length : Int) := by omega
                by_cases h3 : u ≤ v
                · go_wp2_with (go_at_call 80; refine (in_at _ _ _ true HI.out _).mono ?_; rintro e w' ⟨rfl, rfl⟩)
                  go_ret
                  exact ⟨ret_bool (HFALSE.out (by rw [HOK.out]; simp; omega)).symm, HBW.out⟩
                · go_wp2_with (go_at_call 80; refine (in_at _ _ _ true HI.out _).mono ?_; rintro e w' ⟨rfl, rfl⟩)
                  go_round
                  case rel => exact ⟨k + 1, by omega, by go_num, below_succ HALL.out (by have := HM.out; rw [HOK.out]; simp; omega)⟩
                  case measure => simp [intOf]; omega
              · have q1 : ¬ (0 : Int) < (k : Int) := by omega
                clear hp
                go_wp2_with (go_at_call 80; refine (in_at _ _ _ true HI.out _).mono ?_; rintro e w' ⟨rfl, rfl⟩)
                go_round
                case rel => exact ⟨k + 1, by omega, by go_num, below_succ HALL.out (by have := HM.out; rw [HOK.out]; simp; omega)⟩
                case measure => simp [intOf]; omega
            · have e1 : (u % 2 == 0) = false := by simpa using h2'
              have e2 : (u % 2 != 0) = true := by simpa using h2'
              have HM := Lib.hid h2'
              clear h2' hp
              go_wp2_with (go_at_call 80; refine (in_at _ _ _ true HI.out _).mono ?_; rintro e w' ⟨rfl, rfl⟩)
              go_ret
              exact ⟨ret_bool (HFALSE.out (by have := HM.out; rw [HOK.out]; simp; omega)).symm, HBW.out⟩
          · have HI : Hid ((decide (0 ≤ u) && decide (u ≤ L)) = false) := by show (_ && _) = false; simp; omega
            have HM := Lib.hid h0
            clear h0 hp
            go_wp2_with (go_at_call 80; refine (in_at _ _ _ false HI.out _).mono ?_; rintro e w' ⟨rfl, rfl⟩)
            go_ret
            exact ⟨ret_bool (HFALSE.out (by have := HM.out; rw [HOK.out]; simp; omega)).symm, HBW.out⟩
        · have hkl : ¬ (k : Int) < (x.length : Int) := by omega
          have hrx : rowB L x = true := all_yes (fun j hj => HALL.out j (by omega))
          rw [HXE.out] at hrx
          have HRX := Lib.hid hrx
          clear hrx
          go_wp2
          go_round
          case rel =>
            refine ⟨j0 + 1, by omega, by go_num, fun _ => ?_, fun h => ?_⟩
            · rcases (by omega : j0 = 0 ∨ 0 < j0) with h0 | h0
              · have := HRX.out; rw [h0] at this; exact this
              · exact HR0.out h0
            · have h0 : j0 = 1 := by omega
              have := HRX.out; rw [h0] at this; exact this
          case measure => simp [intOf]; omega
    · have hj2 : ¬ (j0 : Int) < 2 := by omega
      have HV : Hid ((rowB L l && rowB L m) = true) := by show _ = _; rw [HR0.out (by omega), HR1.out (by omega)]; rfl
      go_wp2
      go_ret
      exact ⟨ret_bool HV.out.symm, HBW.out⟩
theorem stFalls_any (L : Int) (A B : Option Addr) (c d : Nat) (l m : List Int) (w : World) (hl : (l.length : Int) ≤ 1048576) (hm : (m.length : Int) ≤ 1048576) (hA : SlAt intS w A l) (hB : SlAt intS w B m) :
    Calls Try.prog 88 #[.int .i64 L, .slice A l.length c, .slice B m.length d] w fun e w' => e = .returned (.bool (flB L l m)) ∧ Below w.heap.size w w' := by
  by_cases h : (2 ≤ L ∧ L ≤ 1000 ∧ L % 2 = 0) ∧ l.length + m.length ≤ 16
  · have e : flB L l m = (rowB L l && rowB L m) := by
      unfold flB
      rw [(hdr_iff L 0).2 (by omega)]
      simp [h.2]
    rw [e]
    exact stFalls_in L A B c d l m w h.1.1 h.1.2.1 h.1.2.2 h.2 hA hB
  · have e : flB L l m = false := by
      cases hp : flB L l m with
      | false => rfl
      | true => exact absurd ⟨((flB_iff L l m).1 hp).1, ((flB_iff L l m).1 hp).2.1⟩ h
    rw [e]
    exact stFalls_out L A B c d l m w hl hm h
theorem stFalls_at (L : Int) (A B : Option Addr) (c d : Nat) (l m : List Int) (r : Bool) (hr : flB L l m = r) (w : World) (hl : (l.length : Int) ≤ 1048576) (hm : (m.length : Int) ≤ 1048576) (hA : SlAt intS w A l) (hB : SlAt intS w B m) :
    Calls Try.prog 88 #[.int .i64 L, .slice A l.length c, .slice B m.length d] w fun e w' => e = .returned (.bool r) ∧ Below w.heap.size w w' := by
  subst hr; exact stFalls_any L A B c d l m w hl hm hA hB
theorem SlOwn.sl_of {α : Type} {S : Shape α} {w : World} {B n c : Nat} {e : TypeId} {A : Option Addr} {l : List α} (h : SlOwn S w B e (.slice A n c) l) (_ : n = l.length) : SlAt S w A l := SlOwn.sl h
/-- two blocks of a rod each: the one that is returned, and the one that is built -/
structure TwoAt (w wr : World) (L : Int) (v : Value) : Prop where
  lt : w.heap.size + 1 < wr.heap.size
  z0 : wr.cell? ⟨w.heap.size, 0, none⟩ = some (.int .i64 0)
  z1 : wr.cell? ⟨w.heap.size, 1, none⟩ = some (.slice none 0 0)
  y0 : wr.frozen? ⟨w.heap.size, 0, none⟩ = false
  y1 : wr.frozen? ⟨w.heap.size, 1, none⟩ = false
  r0 : wr.cell? ⟨w.heap.size + 1, 0, none⟩ = some (.int .i64 L)
  r1 : wr.cell? ⟨w.heap.size + 1, 1, none⟩ = some v
  g0 : wr.frozen? ⟨w.heap.size + 1, 0, none⟩ = false
  g1 : wr.frozen? ⟨w.heap.size + 1, 1, none⟩ = false
theorem TwoAt.below {w wr W : World} {L : Int} {v : Value} (h : TwoAt w wr L v) (hb : Below wr.heap.size wr W) : TwoAt w W L v :=
  have h1 : w.heap.size < wr.heap.size := Nat.lt_of_succ_lt h.lt
  ⟨Nat.lt_of_lt_of_le h.lt hb.size, Below.cell_some hb h.z0, Below.cell_some hb h.z1, (hb.frozen (p := ⟨w.heap.size, 0, none⟩) h1).trans h.y0, (hb.frozen (p := ⟨w.heap.size, 1, none⟩) h1).trans h.y1,
    Below.cell_some hb h.r0, Below.cell_some hb h.r1, (hb.frozen (p := ⟨w.heap.size + 1, 0, none⟩) h.lt).trans h.g0, (hb.frozen (p := ⟨w.heap.size + 1, 1, none⟩) h.lt).trans h.g1⟩
theorem TwoAt.put {w W : World} {L : Int} {v : Value} (h : TwoAt w W L v) (u : Value) : TwoAt w (W.setCell ⟨w.heap.size + 1, 1, none⟩ u) L u :=
  ⟨by simpa [World.setCell] using h.lt, (World.cell?_setCell_other _ _ _ _ (by simp)).trans h.z0, (World.cell?_setCell_other _ _ _ _ (by simp)).trans h.z1, by simpa using h.y0, by simpa using h.y1,
    (World.cell?_setCell_other _ _ _ _ (by simp)).trans h.r0, World.cell?_setCell_same _ _ _ h.r1, by simpa using h.g0, by simpa using h.g1⟩
theorem TwoAt.parts {w wr : World} {L : Int} {v : Value} (h : TwoAt w wr L v) : wr.cell? ⟨w.heap.size, 0, none⟩ = some (.int .i64 0) ∧ wr.cell? ⟨w.heap.size, 1, none⟩ = some (.slice none 0 0) ∧ wr.frozen? ⟨w.heap.size, 0, none⟩ = false ∧ wr.frozen? ⟨w.heap.size, 1, none⟩ = false ∧
    wr.cell? ⟨w.heap.size + 1, 0, none⟩ = some (.int .i64 L) ∧ wr.cell? ⟨w.heap.size + 1, 1, none⟩ = some v ∧ wr.frozen? ⟨w.heap.size + 1, 0, none⟩ = false ∧ wr.frozen? ⟨w.heap.size + 1, 1, none⟩ = false :=
  ⟨h.z0, h.z1, h.y0, h.y1, h.r0, h.r1, h.g0, h.g1⟩
theorem rawF_left (L : Int) (l m : List Int) (k : Nat) (x : Int) (hx : l[k]? = some x) : (rawF L l m).take (k + 1) = (rawF L l m).take k ++ [(x, -1)] := by
  obtain ⟨hk, rfl⟩ := List.getElem?_eq_some_iff.1 hx
  have h : (rawF L l m)[k]? = some (l[k], -1) := by
    unfold rawF
    rw [List.getElem?_append_left (by simpa using hk), List.getElem?_map, hx]; rfl
  obtain ⟨hk2, h2⟩ := List.getElem?_eq_some_iff.1 h
  rw [List.take_succ_eq_append_getElem hk2, h2]
theorem rawF_right (L : Int) (l m : List Int) (k : Nat) (x : Int) (hx : m[k]? = some x) : (rawF L l m).take (l.length + k + 1) = (rawF L l m).take (l.length + k) ++ [(L - x, 1)] := by
  obtain ⟨hk, rfl⟩ := List.getElem?_eq_some_iff.1 hx
  have h : (rawF L l m)[l.length + k]? = some (L - m[k], 1) := by
    unfold rawF
    rw [List.getElem?_append_right (by simp), List.getElem?_map, List.length_map, show l.length + k - l.length = k by omega, hx]; rfl
  obtain ⟨hk2, h2⟩ := List.getElem?_eq_some_iff.1 h
  rw [List.take_succ_eq_append_getElem hk2, h2]
theorem rawF_take_len (L : Int) (l m : List Int) (k : Nat) (h : l.length + m.length ≤ 16) : (srtA ((rawF L l m).take k)).length ≤ 16 := by
  rw [srtA_len, List.length_take, rawF_len]; omega

set_option maxRecDepth 100000 in
set_option maxHeartbeats 4000000 in
theorem stOf_any (L : Int) (A B : Option Addr) (c d : Nat) (l m : List Int) (w : World) (hg : flB L l m = true) (hA : SlAt intS w A l) (hB : SlAt intS w B m) :
    Calls Try.prog 89 #[.int .i64 L, .slice A l.length c, .slice B m.length d] w fun e w' => ∃ A' n' c', e = .returned (.agg #[.int .i64 L, .slice A' n' c']) ∧ n' = l.length + m.length ∧ SlOwn pairS w' w.heap.size 64 (.slice A' n' c') (srtA (rawF L l m)) ∧ Below w.heap.size w w' := by
  obtain ⟨⟨hL1, hL2, _⟩, hlen, hrl, hrm⟩ := (flB_iff L l m).1 hg
  have HA := Lib.hid hA
  have HB := Lib.hid hB
  have HRM := Lib.hid hrm
  clear hA hB hg hrl hrm
  go_enter Try.func89, Try.ntmps89
  go_wp2
  go_loopw [16] (fun i wr => ∃ (k : Nat) (A5 : Option Addr) (n5 c5 : Nat), k ≤ l.length ∧ i = .int .i64 k ∧ Below w.heap.size w wr ∧ TwoAt w wr L (.slice A5 n5 c5) ∧ SlOwn pairS wr (w.heap.size + 2) 64 (.slice A5 n5 c5) (srtA ((rawF L l m).take k)))
    (fun i _ => l.length - (intOf i).toNat)
  case atStart => exact ⟨0, none, 0, 0, Nat.zero_le _, rfl, ((Below.refl _ _).alloc (Nat.le_refl _) _).alloc (by simp) _, ⟨by simp, by simp, by simp, by simp, by simp, by simp, by simp, by simp, by simp⟩, by rw [List.take_zero, srtA_nil]; exact SlOwn.nil _ _ _ _⟩
  case round =>
    obtain ⟨k, A5, n5, c5, hk, rfl, hb, htw, hown⟩ := hrel
    obtain ⟨z0, z1, y0, y1, r0, r1, g0, g1⟩ := htw.parts
    have hlt2 := htw.lt
    have HBr := Lib.hid hb
    have HTW := Lib.hid htw
    have HO := Lib.hid hown
    clear hown htw hb
    by_cases hlt : k < l.length
    · obtain ⟨b, off, rfl, l0, hc⟩ := (HA.out.below HBr.out).int_at hlt
      have hx := List.getElem?_eq_getElem hlt
      have a0 := hc k _ hx
      have hsn := rawF_left L l m k _ hx
      have hpu := putA_srtA ((rawF L l m).take k) (l[k], -1)
      rw [← hsn] at hpu
      have hml := rawF_take_len L l m k hlen
      have HC := Lib.hid (own_cap HO.out)
      have HNL := Lib.hid (own_lenR HO.out)
      clear hc hx hsn
      generalize l[k] = x at *
      generalize srtA ((rawF L l m).take k) = q at *
      have HPU := Lib.hid hpu
      have hkl : (k : Int) < (l.length : Int) := by omega
      clear hpu
      have HR : Hid (∀ W, Below wr.heap.size wr W → Calls Try.prog 113 #[.slice A5 n5 c5, .agg #[.int .i64 x, .int .i64 (-1)]] W fun e w' => ∃ A' n' c', e = .returned (.slice A' n' c') ∧ n' = (putA q (x, -1)).length ∧ AntsOwn w' W.heap.size 64 (.slice A' n' c') (putA q (x, -1)) ∧ Below W.heap.size W w') := fun W hW => by
        have hn := HNL.out
        have hcc := HC.out
        rw [hn] at hcc ⊢
        exact roPut_any A5 c5 q x (-1) W (by omega) hcc (slAt_ants ((HO.out.below hW).sl_of hn))
      go_wp2_with fail
      refine (HR.out wr (Below.refl _ _)).mono ?_
      rintro e w3 ⟨A3, n3, k3, rfl, hn3, ho3, hb3⟩
      have HTW3 := Lib.hid (HTW.out.below hb3)
      obtain ⟨z0, z1, y0, y1, r0, r1, g0, g1⟩ := HTW3.out.parts
      have HB3 := Lib.hid (HBr.out.trans (hb3.mono HBr.out.size))
      have HO3 := Lib.hid (antsOwn_iff.1 ho3)
      clear hb3 ho3 hn3
      go_wp2
      go_roundw
      case rel => exact ⟨k + 1, A3, n3, k3, by omega, by go_num, HB3.out.setCell (by simp) _, HTW3.out.put _, by rw [← HPU.out]; exact ownsRow_setCell_below (ownsRow_base HO3.out (by omega)) (by simp) _⟩
      case measure => simp [intOf]; omega
    · obtain rfl : k = l.length := by omega
      have hkl : ¬ (l.length : Int) < (l.length : Int) := by omega
      go_wp2
      go_loopw [29] (fun i wr => ∃ (k : Nat) (A5 : Option Addr) (n5 c5 : Nat), k ≤ m.length ∧ i = .int .i64 k ∧ Below w.heap.size w wr ∧ TwoAt w wr L (.slice A5 n5 c5) ∧ SlOwn pairS wr (w.heap.size + 2) 64 (.slice A5 n5 c5) (srtA ((rawF L l m).take (l.length + k))))
        (fun i _ => m.length - (intOf i).toNat)
      case atStart => exact ⟨0, A5, n5, c5, Nat.zero_le _, rfl, HBr.out, HTW.out, HO.out⟩
      case round =>
        obtain ⟨k, A6, n6, c6, hk, rfl, hb, htw, hown⟩ := hrel
        obtain ⟨z0, z1, y0, y1, r0, r1, g0, g1⟩ := htw.parts
        have hlt2 := htw.lt
        have HBr := Lib.hid hb
        have HTW := Lib.hid htw
        have HO := Lib.hid hown
        clear hown htw hb
        by_cases hlt : k < m.length
        · obtain ⟨b, off, rfl, l0, hc⟩ := (HB.out.below HBr.out).int_at hlt
          have hx := List.getElem?_eq_getElem hlt
          have a0 := hc k _ hx
          have hbx := rowB_at HRM.out hx
          have hsn := rawF_right L l m k _ hx
          have hpu := putA_srtA ((rawF L l m).take (l.length + k)) (L - m[k], 1)
          rw [← hsn] at hpu
          have hml := rawF_take_len L l m (l.length + k) hlen
          have HC := Lib.hid (own_cap HO.out)
          have HNL := Lib.hid (own_lenR HO.out)
          clear hc hx hsn
          generalize m[k] = x at *
          generalize srtA ((rawF L l m).take (l.length + k)) = q at *
          have HPU := Lib.hid hpu
          have hkl : (k : Int) < (m.length : Int) := by omega
          have hw : IntKind.i64.wrap (L - x) = L - x := IntWalk.i64_in _ (by omega)
          clear hpu
          have HR : Hid (∀ W, Below wr.heap.size wr W → Calls Try.prog 113 #[.slice A6 n6 c6, .agg #[.int .i64 (L - x), .int .i64 1]] W fun e w' => ∃ A' n' c', e = .returned (.slice A' n' c') ∧ n' = (putA q (L - x, 1)).length ∧ AntsOwn w' W.heap.size 64 (.slice A' n' c') (putA q (L - x, 1)) ∧ Below W.heap.size W w') := fun W hW => by
            have hn := HNL.out
            have hcc := HC.out
            rw [hn] at hcc ⊢
            exact roPut_any A6 c6 q (L - x) 1 W (by omega) hcc (slAt_ants ((HO.out.below hW).sl_of hn))
          go_wp2_with fail
          refine (HR.out wr (Below.refl _ _)).mono ?_
          rintro e w3 ⟨A3, n3, k3, rfl, hn3, ho3, hb3⟩
          have HTW3 := Lib.hid (HTW.out.below hb3)
          obtain ⟨z0, z1, y0, y1, r0, r1, g0, g1⟩ := HTW3.out.parts
          have HB3 := Lib.hid (HBr.out.trans (hb3.mono HBr.out.size))
          have HO3 := Lib.hid (antsOwn_iff.1 ho3)
          clear hb3 ho3 hn3
          go_wp2
          go_roundw
          case rel => exact ⟨k + 1, A3, n3, k3, by omega, by go_num, HB3.out.setCell (by simp) _, HTW3.out.put _, by rw [← Nat.add_assoc, ← HPU.out]; exact ownsRow_setCell_below (ownsRow_base HO3.out (by omega)) (by simp) _⟩
          case measure => simp [intOf]; omega
        · obtain rfl : k = m.length := by omega
          have hkl : ¬ (m.length : Int) < (m.length : Int) := by omega
          have HE : Hid ((rawF L l m).take (l.length + m.length) = rawF L l m) := by show _ = _; rw [← rawF_len L l m, List.take_length]
          rw [HE.out] at HO
          have HN : Hid (n6 = l.length + m.length) := (own_lenR HO.out).trans (by rw [srtA_len, rawF_len])
          go_wp2
          exact bodyPost_ret (v := .agg #[.int .i64 L, .slice A6 n6 c6]) (by simp [results, Try.results89, go_sem, z0, z1]) rfl ⟨A6, n6, c6, rfl, HN.out, ownsRow_base (ownsRow_setCell_below (ownsRow_setCell_below HO.out (by simp) _) (by simp) _) (by omega), (HBr.out.setCell (by simp) _).setCell (by simp) _⟩
end Go.Proofs.Ytiledncedekefaa
