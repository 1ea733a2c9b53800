/- Slices of bytes: bytes.LastIndexByte, slices.Grow and slices.Concat at them. -/
import Derived.Test.YtodcacifpjakdaaStep
import Derived.Lib.AppendZerosOnto
import Derived.Handy
namespace Go.Proofs.Ytodcacifpjakdaa
open Go.RowKit

def byteS : Shape Int := ⟨1, fun x => [.int .u8 x], fun _ => rfl, fun _ u hu => by simp at hu; subst hu; rfl, by omega⟩
theorem byteI : (Try.prog.info? 5).map (fun i => (i.zero, i.size, i.bytes)) = some (some (.int .u8 0), byteS.size, 1) := by kernel_rfl
theorem SlAt.byte_at {w : World} {A : Option Addr} {l : List Int} (h : SlAt byteS w A l) {k : Nat} (hk : k < l.length) :
    ∃ b off, A = some ⟨b, off, none⟩ ∧ b < w.heap.size ∧ ∀ j x, l[j]? = some x → w.cell? ⟨b, off + j, none⟩ = some (.int .u8 x) := by
  obtain ⟨b, off, hA, hlt, hc⟩ := h.at_ hk
  exact ⟨b, off, hA, hlt, fun j x hx => by simpa [byteS] using hc j x hx 0 (by decide)⟩

set_option maxHeartbeats 1000000 in
theorem lastByte_any (A : Option Addr) (c : Nat) (l : List Int) (x : Int) (i : Nat) (w : World) (hn : (l.length : Int) ≤ 65536) (hi : l[i]? = some x) (hno : ∀ j, i < j → j < l.length → l.getD j 0 ≠ x) (hA : SlAt byteS w A l) :
    Calls Try.prog 72 #[.slice A l.length c, .int .u8 x] w fun e w' => e = .returned (.int .i64 i) ∧ w = w' := by
  have hil := (List.getElem?_eq_some_iff.1 hi).1
  obtain ⟨b, off, rfl, _, hc⟩ := hA.byte_at hil
  have HC := Lib.hid hc
  have HI := Lib.hid hi
  have HNO := Lib.hid hno
  clear hc hi hno hA
  go_enter Try.func72, Try.ntmps72
  go_wp2
  go_loop [5] (fun j => ∃ k : Nat, i ≤ k ∧ k < l.length ∧ j = .int .i64 k) (fun j => (intOf j).toNat)
  case atStart => exact ⟨l.length - 1, by omega, by omega, by congr 1; omega⟩
  case round =>
    obtain ⟨k, hk, hkl, rfl⟩ := hrel
    have a0 := HC.out k _ (List.getElem?_eq_getElem hkl)
    have h0 : (0 : Int) ≤ (k : Int) := by omega
    have hkl2 : (k : Int) < (l.length : Int) := by omega
    by_cases he : k = i
    · subst he
      have hx : l[k] = x := by have := HI.out; rw [List.getElem?_eq_getElem hkl] at this; exact Option.some.inj this
      rw [hx] at a0
      go_wp2
      go_ret
      exact ⟨ret_int rfl, rfl⟩
    · have hx : l[k] ≠ x := by have := HNO.out k (by omega) hkl; rw [List.getD_eq_getElem?_getD, List.getElem?_eq_getElem hkl] at this; exact this
      generalize l[k] = y at *
      have hxy : (y == x) = false := by simpa using hx
      go_wp2
      go_round
      case rel => exact ⟨k - 1, by omega, by omega, by congr 1; omega⟩
      case measure => simp [intOf]; omega
theorem lastIndexB_any (A : Option Addr) (c : Nat) (l : List Int) (x : Int) (i : Nat) (w : World) (hn : (l.length : Int) ≤ 65536) (hi : l[i]? = some x) (hno : ∀ j, i < j → j < l.length → l.getD j 0 ≠ x) (hA : SlAt byteS w A l) :
    Calls Try.prog 57 #[.slice A l.length c, .int .u8 x] w fun e w' => e = .returned (.int .i64 i) ∧ w = w' := by
  have H := Lib.hid (lastByte_any A c l x i w hn hi hno hA)
  clear hi hno hA
  go_enter Try.func57, Try.ntmps57
  go_wp2_with fail
  refine H.out.mono ?_
  rintro e w' ⟨rfl, rfl⟩
  go_wp2
  go_ret
  exact ⟨ret_int rfl, rfl⟩
set_option maxRecDepth 100000 in
set_option maxHeartbeats 1000000 in
theorem growB_any (n : Nat) (w : World) (hn : (n : Int) ≤ 1048576) :
    Calls Try.prog 71 #[.slice none 0 0, .int .i64 n] w fun e w' => ∃ A c, e = .returned (.slice A 0 c) ∧ SlOwn byteS w' w.heap.size 5 (.slice A 0 c) [] ∧ Below w.heap.size w w' := by
  obtain ⟨i0, hi, hz0, hz1, hz2⟩ := info_parts byteI
  by_cases h0 : n = 0
  · subst h0
    clear hi hz0 hz1 hz2
    go_enter Try.func71, Try.ntmps71
    go_wp2
    go_ret
    exact ⟨none, 0, rfl, SlOwn.nil _ _ _ _, Below.refl _ _⟩
  · have hp : (0 : Int) < (n : Int) := by omega
    have hsz : i0.size = byteS.size := hz1
    have hold : (Builtin.firstCells i0.size 0 (.slice none 0 0)).run Try.prog w.drew = .ok ([] : List Value).toArray w.drew := run_firstCells_none w.drew i0.size 0 0 0
    have hnx : Builtin.nextslicecap (0 + n) 0 * i0.bytes ≤ 281474976710656 := growslice_fits (by omega) (by rw [hz2]; omega)
    have hrz : ∀ ty, (Builtin.append_ #[69, 3] ty #[.slice none 0 0, .int .i64 (n : Int)]).run Try.prog w = _ := fun ty =>
      Lib.run_append_grow_zeros w 69 3 ty 5 i0 _ .i64 .i64 Try.underlying69 Try.underlying3 hi hz0 none 0 0 [] hold n (by omega) (by rw [hsz]; exact byteS.pos) (by omega) (by omega) (by rw [hz2]; omega) hnx
    have hown : SlOwn byteS (w.drew.alloc (.cells (([] : List Value).toArray ++ Builtin.zeroCells (Value.int .u8 0).cells n ++ Builtin.zeroCells (Value.int .u8 0).cells (grownCap w (0 + n) 0 5 - (0 + n))) 5)) w.heap.size 5 (.slice (some ⟨w.heap.size, 0, none⟩) 0 (grownCap w (0 + n) 0 5)) [] := by
      have hge := grownCap_ge w (0 + n) 0 5
      have hle := grownCap_le_maxLen w (0 + n) 0 5 (by unfold maxLen; omega)
      refine World.ownsRow_made w.drew _ _ (Nat.le_refl _) hle ?_
      simp only [Array.size_append, size_zeroCells]
      have e : (Value.int .u8 0).cells.size = byteS.size := rfl
      rw [e]
      have e2 : ([] : List Value).toArray.size = 0 := rfl
      rw [e2, Nat.zero_add, ← Nat.add_mul]
      congr 1
      omega
    have hG := grownCap_ge w (0 + n) 0 5
    have hG2 := grownCap_le_maxLen w (0 + n) 0 5 (by unfold maxLen; omega)
    unfold maxLen at hG2
    generalize grownCap w (0 + n) 0 5 = G at *
    generalize hob : (Obj.cells (([] : List Value).toArray ++ Builtin.zeroCells (Value.int .u8 0).cells n ++ Builtin.zeroCells (Value.int .u8 0).cells (G - (0 + n))) 5) = ob at *
    have HOWN := Lib.hid hown
    have HRZ := Lib.hid hrz
    have hG3 : (n : Int) ≤ (G : Int) := by omega
    have hG4 : (G : Int) ≤ 9223372036854775807 := by omega
    clear hown hrz hnx hold hi hz0 hz1 hz2 hsz hob hG hG2
    go_enter Try.func71, Try.ntmps71
    go_wp2_with (at_builtin; refine Lib.wpList_append_run _ rfl _ _ _ _ rfl _ _ rfl rfl _ _ (HRZ.out _) ?_)
    go_ret
    exact ⟨_, _, rfl, HOWN.out, (Below.refl _ _).drew.alloc (by simp) _⟩

/-- parts: where each lies, its room, its bytes -/
def PartsAt (w : World) (g : Nat) (ps : List (Option Addr × Nat × List Int)) : Prop :=
  g < w.heap.size ∧ ∀ j p, ps[j]? = some p → w.cell? ⟨g, j, none⟩ = some (.slice p.1 p.2.2.length p.2.1) ∧ SlAt byteS w p.1 p.2.2
def flatP (ps : List (Option Addr × Nat × List Int)) : List Int := ps.flatMap fun p => p.2.2
theorem flatP_snoc (ps : List (Option Addr × Nat × List Int)) (j : Nat) (hj : j < ps.length) : flatP (ps.take (j + 1)) = flatP (ps.take j) ++ (ps[j]).2.2 := by
  unfold flatP
  rw [List.take_succ_eq_append_getElem hj, List.flatMap_append]
  simp
theorem flatP_le (ps : List (Option Addr × Nat × List Int)) (h : ∀ p ∈ ps, p.2.2.length ≤ 12) : ∀ j, j ≤ ps.length → (flatP (ps.take j)).length ≤ 12 * j := by
  intro j
  induction j with
  | zero => intro _; simp [flatP]
  | succ j ih =>
    intro hj
    rw [flatP_snoc ps j (by omega), List.length_append]
    have := ih (by omega)
    have := h _ (List.getElem_mem (show j < ps.length by omega))
    omega
set_option maxRecDepth 100000 in
set_option maxHeartbeats 2000000 in
theorem concatB_any (g c2 : Nat) (ps : List (Option Addr × Nat × List Int)) (w : World) (hk : ps.length ≤ 3) (hl : ∀ p ∈ ps, p.2.2.length ≤ 12) (hP : PartsAt w g ps) :
    Calls Try.prog 56 #[.slice (some ⟨g, 0, none⟩) ps.length c2] w fun e w' => ∃ A' n' c', e = .returned (.slice A' n' c') ∧ n' = (flatP ps).length ∧ SlOwn byteS w' w.heap.size 5 (.slice A' n' c') (flatP ps) ∧ Below w.heap.size w w' := by
  obtain ⟨i0, hi, hz0, hz1, hz2⟩ := info_parts byteI
  have HP := Lib.hid hP
  have HFL := Lib.hid (flatP_le ps hl)
  have HL := Lib.hid hl
  have hgw := hP.1
  clear hP hl
  go_enter Try.func56, Try.ntmps56
  go_wp2
  go_loop [3, 11] (fun s i => ∃ j : Nat, j ≤ ps.length ∧ i = .int .i64 j ∧ s = .int .i64 ((flatP (ps.take j)).length : Nat)) (fun _ i => ps.length - (intOf i).toNat)
  case atStart => exact ⟨0, Nat.zero_le _, rfl, rfl⟩
  case round =>
    obtain ⟨j, hj, rfl, rfl⟩ := hrel
    by_cases hlt : j < ps.length
    · have hjl : (j : Int) < (ps.length : Int) := by omega
      have a0 := (HP.out.2 j _ (List.getElem?_eq_getElem hlt)).1
      have hsn := congrArg List.length (flatP_snoc ps j hlt)
      rw [List.length_append] at hsn
      have hle := HFL.out j hj
      have hpl := HL.out _ (List.getElem_mem hlt)
      have HSN := Lib.hid hsn
      clear hsn
      generalize (flatP (ps.take j)).length = s at *
      generalize ps[j] = p at *
      obtain ⟨pa, pc, pl⟩ := p
      simp only at a0 hpl HSN
      have hpos : ¬ ((s : Int) + (pl.length : Int)) < 0 := by omega
      go_wp2
      go_round
      case rel => exact ⟨j + 1, by omega, by go_num, by rw [HSN.out]; go_num⟩
      case measure => simp [intOf]; omega
    · obtain rfl : j = ps.length := by omega
      have hjl : ¬ (ps.length : Int) < (ps.length : Int) := by omega
      have hle := HFL.out ps.length (Nat.le_refl _)
      have HE : Hid (ps.take ps.length = ps) := List.take_length
      rw [HE.out] at hle
      have HGR := Lib.hid (growB_any (flatP ps).length w (by omega))
      have HFP : Hid (((flatP (ps.take ps.length)).length : Nat) = (flatP ps).length) := by show _ = _; rw [HE.out]
      rw [HE.out]
      generalize hT : (flatP ps).length = T at *
      have HT := Lib.hid hT
      clear hT
      go_wp2_with fail
      refine HGR.out.mono ?_
      rintro e w1 ⟨A1, k1, rfl, ho1, hb1⟩
      have HO1 := Lib.hid ho1
      have HB1 := Lib.hid hb1
      have hs1 := hb1.size
      clear ho1 hb1
      go_wp2
      go_loopw [6, 27] (fun v i wr => ∃ (j : Nat) (A5 : Option Addr) (n5 c5 : Nat), j ≤ ps.length ∧ i = .int .i64 j ∧ v = .slice A5 n5 c5 ∧ Below w.heap.size w wr ∧ SlOwn byteS wr w.heap.size 5 (.slice A5 n5 c5) (flatP (ps.take j)))
        (fun _ i _ => ps.length - (intOf i).toNat)
      case atStart => exact ⟨0, A1, 0, k1, Nat.zero_le _, rfl, rfl, HB1.out, HO1.out⟩
      case round =>
        obtain ⟨j, A5, n5, c5, hj, rfl, rfl, hbr, hown⟩ := hrel
        have HBr := Lib.hid hbr
        have HOr := Lib.hid hown
        have hsr := hbr.size
        clear hbr hown
        by_cases hlt : j < ps.length
        · have hjl : (j : Int) < (ps.length : Int) := by omega
          have hpj := HP.out.2 j _ (List.getElem?_eq_getElem hlt)
          have a0 := Below.cell_some HBr.out hpj.1
          have HSL := Lib.hid (hpj.2.below HBr.out)
          have hpl := HL.out _ (List.getElem_mem hlt)
          have HSN := Lib.hid (flatP_snoc ps j hlt)
          have hle := HFL.out j hj
          clear hpj
          generalize flatP (ps.take j) = q at *
          generalize ps[j] = p at *
          obtain ⟨pa, pc, pl⟩ := p
          simp only at a0 hpl HSN HSL
          go_wp2_with (at_builtin; go_must (refine wpList_append_slsv byteS _ rfl _ _ 69 rfl w.heap.size 5 i0 _ 1 Try.underlying69 hi hz0 hz1 hz2 rfl (by decide) _ q rfl HOr.out pa pl.length pc pl rfl rfl HSL.out (by omega) hsr ?_); intro A6 n6 k6 w6 hn6 hown6 hb6; have HO6 := Lib.hid hown6; have HB6 := Lib.hid hb6; clear hn6 hown6 hb6)
          go_roundw
          case rel => exact ⟨j + 1, A6, n6, k6, by omega, by go_num, rfl, HBr.out.trans HB6.out, by rw [HSN.out]; exact HO6.out⟩
          case measure => simp [intOf]; omega
        · obtain rfl : j = ps.length := by omega
          have HE : Hid (ps.take ps.length = ps) := List.take_length
          rw [HE.out] at HOr
          have HN : Hid (n5 = T) := by
            rcases HOr.out.2 with ⟨h', h0⟩ | ⟨g, cap, cur, hv, _⟩
            · simp only [Value.slice.injEq] at h'; show _ = _; rw [h'.2.1, ← HT.out, h0]
            · simp only [Value.slice.injEq] at hv; show _ = _; rw [hv.2.1, ← HT.out]
          go_wp2
          go_ret
          exact ⟨A5, n5, c5, rfl, HN.out.trans HT.out.symm, HOr.out, HBr.out⟩
end Go.Proofs.Ytodcacifpjakdaa
