/- Balls on the program's side: the cradle; marks on slices of booleans. -/
import Derived.Test.YtikmkmpekjijpaaBalL
import Derived.Test.YtikmkmpekjijpaaHelpP
namespace Go.Proofs.Ytikmkmpekjijpaa
open Go.RowKit

theorem SlAt.bool_at {w : World} {A : Option Addr} {l : List Bool} (h : SlAt boolS w A l) {k : Nat} (hk : k < l.length) :
    ∃ b off, A = some ⟨b, off, none⟩ ∧ b < w.heap.size ∧ ∀ j x, l[j]? = some x → w.cell? ⟨b, off + j, none⟩ = some (.bool x) := by
  obtain ⟨b, off, hA, hlt, hc⟩ := h.at_ hk
  exact ⟨b, off, hA, hlt, fun j x hx => by simpa [boolS] using hc j x hx 0 (by decide)⟩
theorem SlOwn.bool_store {w : World} {B g n c : Nat} {e : TypeId} {l : List Bool} (h : SlOwn boolS w B e (.slice (some ⟨g, 0, none⟩) n c) l) {j : Nat} (hj : j < l.length) (x : Bool) :
    ∃ v0, w.cell? ⟨g, j, none⟩ = some v0 ∧ w.frozen? ⟨g, j, none⟩ = false ∧ SlOwn boolS (w.setCell ⟨g, j, none⟩ (.bool x)) B e (.slice (some ⟨g, 0, none⟩) n c) (l.set j x) ∧ w.grownBy (w.setCell ⟨g, j, none⟩ (.bool x)) (some g) := by
  have hn : n = l.length := by
    rcases h.2 with ⟨h', _⟩ | ⟨g', cap', cur, h', _⟩
    · simp at h'
    · simp only [Value.slice.injEq] at h'
      exact h'.2.1
  subst hn
  have s0 := World.ownsRow.stored h j (.bool x)
  have hr : ∀ (m : List Bool) (i : Nat), (boolS.row m).set i (.bool x) = boolS.row (m.set i x) := by
    intro m
    induction m with
    | nil => intro i; simp [Shape.row]
    | cons y m ih =>
      intro i
      cases i with
      | zero => rfl
      | succ i => rw [Shape.row_cons]; show _ :: (boolS.row m).set i _ = _; rw [ih i]; rfl
  have hx : (boolS.row l)[j]? = some (.bool (l[j]'hj)) := by
    have := boolS.row_at l j _ (List.getElem?_eq_getElem hj) 0 (by decide)
    simpa [boolS] using this
  refine ⟨_, (World.ownsRow.cellAt h j (by show j < l.length * 1; omega)).trans hx, World.ownsRow.frozenAt h _, ?_, s0.2⟩
  show World.ownsRow _ _ _ _ _ _ _
  rw [List.length_set, ← hr]
  exact s0.1
theorem madeBools (n : Nat) : (madeCells #[.bool false] (n * 1)).toList = boolS.row (List.replicate n false) := by
  induction n with
  | zero => simp [madeCells, Shape.row]
  | succ n ih =>
    rw [List.replicate_succ', Shape.row_append, ← ih]
    apply List.ext_getElem?
    intro j
    simp only [madeCells, Nat.mul_one, Array.toList_map, Array.toList_range, List.getElem?_map]
    rcases Nat.lt_trichotomy j n with h | h | h
    · rw [List.getElem?_append_left (by simpa using h)]
      simp [h, show j < n + 1 by omega]
    · subst h
      rw [List.getElem?_append_right (by simp)]
      simp [Shape.row, boolS, Nat.mod_one]
    · rw [List.getElem?_append_right (by simp; omega)]
      simp [Shape.row, boolS, show ¬ j < n + 1 by omega]
      omega

/-- so many at the right are out -/
def crK (b k : Nat) : List Bool := (List.range b).map fun j => decide (b - k ≤ j)
theorem crK_zero (b : Nat) : crK b 0 = List.replicate b false := by
  unfold crK
  apply List.ext_getElem (by simp)
  intro i h1 h2
  simp at h1 ⊢
  omega
theorem crK_set {b k : Nat} (h : k < b) : (crK b k).set (b - 1 - k) true = crK b (k + 1) := by
  unfold crK
  apply List.ext_getElem (by simp)
  intro i h1 h2
  rw [List.getElem_set]
  simp at h2 ⊢
  rw [Bool.eq_iff_iff]
  simp
  omega
theorem crK_len (b k : Nat) : (crK b k).length = b := by unfold crK; simp
theorem crW_t {b l : Nat} (h : crB (b : Int) (l : Int) = true) : crW (b : Int) (l : Int) = crK b l := by
  unfold crW
  rw [if_pos h]
  rfl
theorem crW_f {b l : Int} (h : crB b l = false) : crW b l = [] := by unfold crW; rw [h]; rfl
theorem crB_iff (b l : Int) : crB b l = true ↔ (2 ≤ b ∧ b ≤ 10) ∧ 1 ≤ l ∧ l ≤ b - 1 := by
  unfold crB crI; simp
theorem crW_bd (b l : Int) : (((crW b l).length : Nat) : Int) ≤ 1048576 := by
  unfold crW
  cases h : crB b l with
  | false => simp
  | true =>
    rw [crB_iff] at h
    rw [if_pos rfl, crL_len]
    omega

set_option maxRecDepth 100000 in
set_option maxHeartbeats 4000000 in
theorem implCradleAfter_any (b l : Int) (w : World) :
    Calls Try.prog 58 #[.int .i64 b, .int .i64 l] w fun e w' => ∃ A n c, e = .returned (.tuple #[.slice A n c, .bool (crB b l)]) ∧ n = (crW b l).length ∧ SlOwn boolS w' w.heap.size 4 (.slice A n c) (crW b l) ∧ Below w.heap.size w w' := by
  cases hcr : crB b l with
  | false =>
    have HV := Lib.hid (crW_f hcr)
    have hno : ¬ ((2 ≤ b ∧ b ≤ 10) ∧ 1 ≤ l ∧ l ≤ b - 1) := by rw [← crB_iff, hcr]; simp
    generalize crW b l = V at *
    clear hcr
    go_enter Try.func58, Try.ntmps58
    by_cases h1 : b < 2
    · go_wp2
      exact bodyPost_ret (v := .tuple #[.slice none 0 0, .bool false]) (by simp [results, Try.results58, go_sem]) rfl ⟨none, 0, 0, rfl, by rw [HV.out]; rfl, by rw [HV.out]; exact SlOwn.nil _ _ _ _, Below.refl _ _⟩
    · by_cases h2 : 10 < b
      · go_wp2
        exact bodyPost_ret (v := .tuple #[.slice none 0 0, .bool false]) (by simp [results, Try.results58, go_sem]) rfl ⟨none, 0, 0, rfl, by rw [HV.out]; rfl, by rw [HV.out]; exact SlOwn.nil _ _ _ _, Below.refl _ _⟩
      · by_cases h3 : l < 1
        · go_wp2
          exact bodyPost_ret (v := .tuple #[.slice none 0 0, .bool false]) (by simp [results, Try.results58, go_sem]) rfl ⟨none, 0, 0, rfl, by rw [HV.out]; rfl, by rw [HV.out]; exact SlOwn.nil _ _ _ _, Below.refl _ _⟩
        · have h4 : b ≤ l := by omega
          go_wp2
          exact bodyPost_ret (v := .tuple #[.slice none 0 0, .bool false]) (by simp [results, Try.results58, go_sem]) rfl ⟨none, 0, 0, rfl, by rw [HV.out]; rfl, by rw [HV.out]; exact SlOwn.nil _ _ _ _, Below.refl _ _⟩
  | true =>
    have hin := (crB_iff b l).1 hcr
    obtain ⟨n, rfl⟩ : ∃ n : Nat, b = (n : Int) := ⟨b.toNat, by omega⟩
    obtain ⟨m, rfl⟩ : ∃ m : Nat, l = (m : Int) := ⟨l.toNat, by omega⟩
    have HV := Lib.hid (crW_t hcr)
    obtain ⟨i0, hi, hz0, hz1, hz2⟩ := info_parts boolInfo
    generalize crW (n : Int) (m : Int) = V at *
    clear hcr
    have h1 : ¬ (n : Int) < 2 := by omega
    have h2 : ¬ (10 : Int) < (n : Int) := by omega
    have h3 : ¬ (m : Int) < 1 := by omega
    have h4 : ¬ (n : Int) ≤ (m : Int) := by omega
    go_enter Try.func58, Try.ntmps58
    go_wp2_with (at_make; refine wpList_make_full _ rfl _ _ _ rfl w.heap.size 4 i0 _ 1 Try.underlying58 hi hz0 hz1 .i64 .i64 _ _ n rfl rfl rfl rfl (by rw [hz2]; omega) (by unfold maxLen; omega) (Nat.le_refl _) ?_; intro w1 hown hg)
    have HB1 := Lib.hid ((Below.refl w.heap.size w).grown hg (Nat.le_refl _) (by simp))
    clear hg
    have HO1 : Hid (SlOwn boolS w1 w.heap.size 4 (.slice (some ⟨w.heap.size, 0, none⟩) n n) (crK n 0)) := by
      have e := madeBools n
      show World.ownsRow _ _ _ _ _ _ _
      rw [crK_zero, ← e, List.length_replicate]
      exact hown
    clear hown hi hz0 hz1 hz2
    go_loopw [26] (fun i wr => ∃ k : Nat, k ≤ m ∧ i = .int .i64 (k : Int) ∧ Below w.heap.size w wr ∧ SlOwn boolS wr w.heap.size 4 (.slice (some ⟨w.heap.size, 0, none⟩) n n) (crK n k))
      (fun i _ => m - (intOf i).toNat)
    case atStart => exact ⟨0, Nat.zero_le _, rfl, HB1.out, HO1.out⟩
    case round =>
      obtain ⟨k, hk, rfl, hb, ho⟩ := hrel
      have HB := Lib.hid hb
      have HO := Lib.hid ho
      clear hb ho
      by_cases hlt : k < m
      · have hlt' : (k : Int) < (m : Int) := by omega
        obtain ⟨v0, q0, f0, hst, hgr⟩ := HO.out.bool_store (j := n - 1 - k) (by rw [crK_len]; omega) true
        rw [crK_set (by omega)] at hst
        have HST := Lib.hid hst
        have HGR := Lib.hid hgr
        clear hst hgr
        have kw1 : IntKind.i64.wrap ((k : Int) + 1) = (k : Int) + 1 := IntWalk.i64_in _ (by omega)
        have kw2 : IntKind.i64.wrap ((n : Int) - 1) = (n : Int) - 1 := IntWalk.i64_in _ (by omega)
        obtain ⟨x, hx⟩ : ∃ x : Nat, n - 1 - k = x := ⟨_, rfl⟩
        have kw3 : IntKind.i64.wrap ((n : Int) - 1 - (k : Int)) = (x : Int) := by rw [show (n : Int) - 1 - (k : Int) = (x : Int) by omega]; exact IntWalk.i64_in _ (by omega)
        have kw4 : (x : Int) < (n : Int) := by omega
        rw [hx] at q0 f0 HST HGR
        clear hx
        go_wp2
        go_roundw
        case rel => exact ⟨k + 1, by omega, by congr 1, HB.out.grown HGR.out (by have := HB.out.size; omega) (by simp), HST.out⟩
        case measure => simp [intOf]; omega
      · obtain rfl : k = m := by omega
        have hlt' : ¬ (k : Int) < (k : Int) := by omega
        go_wp2
        exact bodyPost_ret (v := .tuple #[.slice (some ⟨w.heap.size, 0, none⟩) n n, .bool true]) (by simp [results, Try.results58, go_sem]) rfl ⟨_, n, n, rfl, by rw [HV.out, crK_len], by rw [HV.out]; exact HO.out, HB.out⟩

/-! ### how the laws mark slices of booleans -/
def boolMarks (k n : Nat) : List Bool := (List.range n).map fun i => (((k + i : Nat) : Int) % 3 == 0)
theorem boolMarks_len (k n : Nat) : (boolMarks k n).length = n := by simp [boolMarks]
theorem boolMarks_at (k n j : Nat) (h : j < n) : (boolMarks k n)[j]? = some (((k + j : Nat) : Int) % 3 == 0) := by simp [boolMarks, h]
theorem boolMarks_set (k : Nat) (l : List Bool) (j : Nat) (h : j < l.length) : (boolMarks k j ++ l.drop j).set j (((k + j : Nat) : Int) % 3 == 0) = boolMarks k (j + 1) ++ l.drop (j + 1) := by
  rw [List.set_append_right _ _ (by rw [boolMarks_len]; omega), boolMarks_len, Nat.sub_self, List.drop_eq_getElem_cons h, List.set_cons_zero]
  unfold boolMarks
  rw [List.range_succ, List.map_append, List.append_assoc]
  rfl
set_option maxHeartbeats 1000000 in
theorem markBoolS_any (A : Option Addr) (c B : Nat) (l : List Bool) (k0 : Nat) (w : World) (hk1 : k0 ≤ 1048576) (hn : (l.length : Int) ≤ 1048576) (h : SlOwn boolS w B 4 (.slice A l.length c) l) :
    Calls Try.prog 60 #[.slice A l.length c, .int .i64 (k0 : Int)] w fun e w' => e = .returned (.int .i64 ((k0 + l.length : Nat) : Int)) ∧ SlOwn boolS w' B 4 (.slice A l.length c) (boolMarks k0 l.length) ∧ w.grownBy w' (Value.slice A l.length c).ownBlock := by
  have H := Lib.hid h
  clear h
  obtain ⟨n, hn'⟩ : ∃ n, n = l.length := ⟨_, rfl⟩
  have HN := Lib.hid hn'
  rw [← hn'] at H hn ⊢
  clear hn'
  go_enter Try.func60, Try.ntmps60
  go_wp2
  go_loopw [1, 5] (fun v i wr => ∃ j : Nat, j ≤ n ∧ i = .int .i64 j ∧ v = .int .i64 ((k0 + j : Nat) : Int) ∧ SlOwn boolS wr B 4 (.slice A n c) (boolMarks k0 j ++ l.drop j) ∧ w.grownBy wr (Value.slice A n c).ownBlock)
    (fun _ i _ => n - (intOf i).toNat)
  case atStart => exact ⟨0, Nat.zero_le _, rfl, rfl, by simpa [boolMarks] using H.out, World.grownBy.refl _ _⟩
  case round =>
    obtain ⟨j, hj, rfl, rfl, hown, hg⟩ := hrel
    have HO := Lib.hid hown
    have HG := Lib.hid hg
    clear hown hg
    have hlen : (boolMarks k0 j ++ l.drop j).length = n := by
      have := HN.out
      rw [List.length_append, boolMarks_len, List.length_drop]; omega
    have HL := Lib.hid hlen
    clear hlen
    by_cases hlt : j < n
    · obtain ⟨g, rfl, -⟩ := own_some HO.out (by rw [HL.out]; omega)
      obtain ⟨v0, q0, f0, ho, hgr⟩ := HO.out.bool_store (j := j) (by rw [HL.out]; exact hlt) (((k0 + j : Nat) : Int) % 3 == 0)
      rw [boolMarks_set k0 l j (by have := HN.out; omega)] at ho
      have HSU : Hid (((k0 + j : Nat) : Int) + 1 = ((k0 + (j + 1) : Nat) : Int)) := by show _ = _; omega
      have hle : k0 + j ≤ 2097152 := by omega
      obtain ⟨K, hK⟩ : ∃ K, K = k0 + j := ⟨_, rfl⟩
      rw [← hK] at ho hgr HSU hle ⊢
      have HO2 := Lib.hid ho
      have HG2 := Lib.hid hgr
      clear ho hgr hK
      have kw1 : IntKind.i64.wrap ((K : Int) + 1) = (K : Int) + 1 := IntWalk.i64_in _ (by omega)
      go_wp2
      go_roundw
      case rel => exact ⟨j + 1, by omega, by go_num, by rw [← HSU.out], HO2.out, grown_trans HG.out HG2.out⟩
      case measure => simp [intOf]; omega
    · obtain rfl : j = n := by omega
      go_wp2
      go_ret
      refine ⟨ret_int rfl, ?_, HG.out⟩
      have h1 := HO.out
      have h2 : l.drop j = [] := List.drop_eq_nil_of_le (by have := HN.out; omega)
      rw [h2, List.append_nil] at h1
      exact h1
theorem heldBoolS_any (A : Option Addr) (c n : Nat) (k0 : Nat) (w : World) (hk1 : k0 ≤ 1048576) (hn : (n : Int) ≤ 1048576) (h : SlAt boolS w A (boolMarks k0 n)) :
    Calls Try.prog 61 #[.slice A n c, .int .i64 (k0 : Int)] w fun e w' => e = .returned (.int .i64 ((k0 + n : Nat) : Int)) ∧ w = w' := by
  have H := Lib.hid h
  clear h
  go_enter Try.func61, Try.ntmps61
  go_wp2
  go_loop [1, 5] (fun v i => ∃ j : Nat, j ≤ n ∧ i = .int .i64 j ∧ v = .int .i64 ((k0 + j : Nat) : Int)) (fun _ i => n - (intOf i).toNat)
  case atStart => exact ⟨0, Nat.zero_le _, rfl, rfl⟩
  case round =>
    obtain ⟨j, hj, rfl, rfl⟩ := hrel
    by_cases hlt : j < n
    · obtain ⟨b, off, rfl, l0, hc⟩ := H.out.bool_at (show j < (boolMarks k0 n).length by rw [boolMarks_len]; exact hlt)
      have a0 := hc j _ (boolMarks_at k0 n j hlt)
      have HSU : Hid (((k0 + j : Nat) : Int) + 1 = ((k0 + (j + 1) : Nat) : Int)) := by show _ = _; omega
      have hle : k0 + j ≤ 2097152 := by omega
      obtain ⟨K, hK⟩ : ∃ K, K = k0 + j := ⟨_, rfl⟩
      rw [← hK] at a0 HSU hle ⊢
      clear hc hK
      have kw1 : IntKind.i64.wrap ((K : Int) + 1) = (K : Int) + 1 := IntWalk.i64_in _ (by omega)
      go_wp2
      go_round
      case rel => exact ⟨j + 1, by omega, by go_num, by rw [← HSU.out]⟩
      case measure => simp [intOf]; omega
    · obtain rfl : j = n := by omega
      go_wp2
      go_ret
      exact ⟨ret_int rfl, rfl⟩
theorem markBoolS_one (A : Option Addr) (c B : Nat) (l : List Bool) (w : World) (hn : (l.length : Int) ≤ 1048576) (h : SlOwn boolS w B 4 (.slice A l.length c) l) :
    Calls Try.prog 60 #[.slice A l.length c, .int .i64 1] w fun e w' => e = .returned (.int .i64 (1 + l.length)) ∧ SlOwn boolS w' B 4 (.slice A l.length c) (boolMarks 1 l.length) ∧ w.grownBy w' (Value.slice A l.length c).ownBlock := by
  have := markBoolS_any A c B l 1 w (by omega) hn h
  rwa [show ((1 + l.length : Nat) : Int) = 1 + (l.length : Int) by omega] at this
theorem heldBoolS_one (A : Option Addr) (c n : Nat) (w : World) (hn : (n : Int) ≤ 1048576) (h : SlAt boolS w A (boolMarks 1 n)) :
    Calls Try.prog 61 #[.slice A n c, .int .i64 1] w fun e w' => e = .returned (.int .i64 (1 + n)) ∧ w = w' := by
  have := heldBoolS_any A c n 1 w (by omega) hn h
  rwa [show ((1 + n : Nat) : Int) = 1 + (n : Int) by omega] at this
set_option maxHeartbeats 1000000 in
theorem eqBoolS_true (A B : Option Addr) (c d : Nat) (l : List Bool) (w : World) (hn : (l.length : Int) ≤ 1048576) (hA : SlAt boolS w A l) (hB : SlAt boolS w B l) :
    Calls Try.prog 59 #[.slice A l.length c, .slice B l.length d] w fun e w' => e = .returned (.bool true) ∧ Below w.heap.size w w' := by
  have HA := Lib.hid hA
  have HB := Lib.hid hB
  clear hA hB
  go_enter Try.func59, Try.ntmps59
  go_wp2
  go_loopw [5] (fun i wr => ∃ k : Nat, k ≤ l.length ∧ i = .int .i64 k ∧ Below w.heap.size w wr)
    (fun i _ => l.length - (intOf i).toNat)
  case atStart => exact ⟨0, Nat.zero_le _, rfl, Below.refl _ _⟩
  case round =>
    obtain ⟨k, hk, rfl, hb⟩ := hrel
    have HBe := Lib.hid hb
    have HAr := Lib.hid (HA.out.below hb)
    have HBr := Lib.hid (HB.out.below hb)
    clear hb
    by_cases hlt : k < l.length
    · obtain ⟨b, off, rfl, l0, hc⟩ := HAr.out.bool_at hlt
      obtain ⟨b', off', rfl, l0', hc'⟩ := HBr.out.bool_at hlt
      have a0 := hc k _ (List.getElem?_eq_getElem hlt)
      have b0 := hc' k _ (List.getElem?_eq_getElem hlt)
      clear hc hc'
      generalize l[k]'hlt = x at *
      have f0 := Ext.cell a0
      have f1 := Ext.cell b0
      clear a0 b0
      cases x <;> (
        go_wp2
        refine wp_region_ext (by kernel_rfl) (by kernel_rfl) ?_
        repeat (first | go_big_quiet_skip | (go_big_quiet_want; go_big_quiet_op; go_big_quiet_on))
        refine wpQuiet_nil ?_
        rintro _ ⟨x, rfl⟩
        go_wp2
        go_roundw
        case rel => exact ⟨k + 1, by omega, by go_num, HBe.out.trans (x.h.mono HBe.out.size)⟩
        case measure => (simp [intOf]; omega))
    · go_wp2
      go_ret
      exact ⟨ret_bool rfl, HBe.out⟩
end Go.Proofs.Ytikmkmpekjijpaa
