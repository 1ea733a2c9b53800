/- Numbers as text: the model's l1Num and the program's strconv.Itoa give the same decimal numeral. -/
import Derived.Test.YtenpmjinbjlpbaaDoorShelfT
import Derived.Test.YtenpmjinbjlpbaaDoorBase
import Derived.WalkKit
import Derived.WalkSpells
import Derived.WalkLawsBesides
import Derived.Laws.IdiomStrings
import Derived.Deep.RegionHeld3
namespace Go.Proofs.YtenpmjinbjlpbaaDoor
open Go.RowKit

theorem ret_str {a b : ByteArray} (h : a = b) : Ending.returned (.string a) = .returned (.string b) := by rw [h]
def numT (u : Nat) : ByteArray := ⟨(Lib.decDigits u).toArray⟩
theorem numT_small {u : Nat} (h : u < 10) : numT u = ⟨#[UInt8.ofNat (48 + u)]⟩ := by
  unfold numT; rw [Lib.decDigits_one h]
theorem numT_big {u : Nat} (h : ¬ u < 10) : numT u = numT (u / 10) ++ ⟨#[UInt8.ofNat (48 + u % 10)]⟩ := by
  unfold numT
  rw [Lib.decDigits, dif_neg h]
  exact (ByteArray.mk_append_mk _ _).symm
theorem numT_size (u : Nat) (k : Nat) (h : u < 10 ^ k) (hk : 1 ≤ k) : (numT u).size ≤ k := by
  show (Lib.decDigits u).toArray.size ≤ k
  rw [List.size_toArray, Lib.decDigits_length]
  induction k generalizing u with
  | zero => omega
  | succ k ih =>
    by_cases hu : u < 10
    · rw [Lib.nDigits_small hu]; omega
    · rw [Lib.nDigits_big hu]
      have h2 : u / 10 < 10 ^ k := by rw [Nat.pow_succ] at h; omega
      rcases Nat.eq_zero_or_pos k with rfl | hk'
      · simp at h2; omega
      · have := ih (u / 10) h2 hk'; omega

theorem bytes1 (W : World) (b : Nat) (v : Int) (h : W.cell? ⟨b, 0, none⟩ = some (.int .u8 v)) (h0 : 0 ≤ v) (h1 : v < 256) :
    (convert 108 9 (.slice (some ⟨b, 0, none⟩) 1 1)).run Tryd.prog W = .ok (.string ⟨#[UInt8.ofNat v.toNat]⟩) W := by
  have := run_convert_bytes_back (P := Tryd.prog) W 108 9 5 ⟨b, 0, none⟩ 1 [UInt8.ofNat v.toNat] Tryd.underlying108 Tryd.underlying5 Tryd.underlying9 (fun j hj => by
    have hj0 : j = 0 := by simpa using hj
    subst hj0
    simp only [List.getElem_cons_zero]
    have e : (Addr.add ⟨b, 0, none⟩ 0 : Addr) = ⟨b, 0, none⟩ := by simp [Addr.add]
    rw [e, h]
    congr 2
    have : v.toNat < 256 := by omega
    simp [Nat.mod_eq_of_lt this]
    omega)
  simpa using this

theorem conv1 (w : World) (v : Int) (h0 : 0 ≤ v) (h1 : v < 256) :
    (convert 108 9 (.slice (some ⟨w.heap.size, 0, none⟩) 1 1)).run Tryd.prog (w.alloc (Obj.cells #[.int .u8 v] 5)) = .ok (.string ⟨#[UInt8.ofNat v.toNat]⟩) (w.alloc (Obj.cells #[.int .u8 v] 5)) :=
  bytes1 _ _ v (by simp) h0 h1

theorem conv1d (w : World) (v : Int) (h0 : 0 ≤ v) (h1 : v < 256) :
    (convert 108 9 (.slice (some ⟨w.heap.size, 0, none⟩) 1 1)).run Tryd.prog (w.alloc (Obj.cells #[.int .u8 v] 5)).drew = .ok (.string ⟨#[UInt8.ofNat v.toNat]⟩) (w.alloc (Obj.cells #[.int .u8 v] 5)).drew :=
  bytes1 _ _ v (by simp) h0 h1
theorem conv2 {w w' : World} (v : Int) (h0 : 0 ≤ v) (h1 : v < 256) (hb : Below (w.alloc (Obj.cells #[.int .u8 v] 5)).heap.size (w.alloc (Obj.cells #[.int .u8 v] 5)) w') :
    (convert 108 9 (.slice (some ⟨w.heap.size, 0, none⟩) 1 1)).run Tryd.prog w' = .ok (.string ⟨#[UInt8.ofNat v.toNat]⟩) w' :=
  bytes1 _ _ v (Below.cell_some hb (by simp)) h0 h1

set_option maxHeartbeats 1000000 in
set_option maxRecDepth 100000 in
theorem l1Num_small (u : Nat) (h : u < 10) (w : World) :
    Calls Tryd.prog 70 #[.int .i64 u] w fun e w' => e = .returned (.string (numT u)) ∧ Below w.heap.size w w' := by
  have hcv := conv1 w (48 + (u : Int)) (by omega) (by omega)
  rw [numT_small h]
  go_enter Tryd.func70, Tryd.ntmps70
  go_wp2
  go_ret
  exact ⟨by congr 3, (Below.refl _ _).alloc (Nat.le_refl _) _⟩

set_option maxHeartbeats 4000000 in
set_option maxRecDepth 100000 in
theorem l1Num_any (u : Nat) : ∀ (w : World), u ≤ 1000000 →
    Calls Tryd.prog 70 #[.int .i64 u] w fun e w' => e = .returned (.string (numT u)) ∧ Below w.heap.size w w' := by
  induction u using Nat.strongRecOn with
  | _ u ih =>
    intro w hu
    by_cases h : u < 10
    · exact l1Num_small u h w
    · have H : Hid (∀ W, Calls Tryd.prog 70 #[.int .i64 ((u / 10 : Nat) : Int)] W fun e w' => e = .returned (.string (numT (u / 10))) ∧ Below W.heap.size W w') := fun W => ih (u / 10) (by omega) W (by omega)
      have hsz : (numT (u / 10)).size ≤ 6 := numT_size _ 6 (by omega) (by omega)
      have hq : (u : Int).tdiv 10 = ((u / 10 : Nat) : Int) := by rw [Int.tdiv_eq_ediv_of_nonneg (by omega)]; rfl
      have hm : (u : Int).tmod 10 = ((u % 10 : Nat) : Int) := by rw [Int.tmod_eq_emod_of_nonneg (by omega)]; rfl
      have hm0 : u % 10 < 10 := Nat.mod_lt _ (by omega)
      have hcv := fun W => conv1 W (48 + ((u % 10 : Nat) : Int)) (by omega) (by omega)
      have hcd := fun W => conv1d W (48 + ((u % 10 : Nat) : Int)) (by omega) (by omega)
      rw [numT_big h]
      clear ih
      generalize hdq : u / 10 = q at *
      generalize hdm : u % 10 = m at *
      go_enter Tryd.func70, Tryd.ntmps70
      go_wp2
      have hqb : q ≤ 1000000 := by omega
      have k1 : IntKind.i64.wrap (q : Int) = q := by rw [IntKind.wrap_i64]; omega
      have k2 : IntKind.i64.wrap (48 + (m : Int)) = 48 + (m : Int) := by rw [IntKind.wrap_i64]; omega
      have k3 : IntKind.u8.wrap (48 + (m : Int)) = 48 + (m : Int) := by rw [IntKind.wrap_u8]; omega
      have sz : ¬ 9223372036854775807 < (numT q).size + 1 := by omega
      have v0 : (0 : Int) ≤ 48 + (m : Int) := by omega
      have v1 : 48 + (m : Int) < 256 := by omega
      go_region_with (first
          | (go_at_call 70; (with_reducible refine (H.out w.drew).mono ?_); rintro e w2 ⟨rfl, hbx0⟩; have hbx := below_drew hbx0; clear hbx0)
          | (go_at_call 70; (with_reducible refine (H.out _).mono ?_); rintro e w2 ⟨rfl, hby0⟩; have hby := below_drew hby0; clear hby0; have hcv2 := conv2 (48 + (m : Int)) v0 v1 hby))
      · go_wp2
        go_ret
        exact ⟨ret_str (by rw [show (48 + (m : Int)).toNat = 48 + m by omega]), hbx.alloc hbx.size _⟩
      all_goals
        go_wp2
        go_ret
        exact ⟨ret_str (by rw [show (48 + (m : Int)).toNat = 48 + m by omega]), ((Below.refl _ _).alloc (Nat.le_refl _) _).trans (hby.mono (by simp))⟩

/-- the library's table of powers of ten, as the row lists it -/
def Tab (w : World) : Prop := Lib.TabIs Tryd.prog w "internal/strconv.uint64pow10" .u64 Lib.pow10Tab
theorem Tab.below {w w' : World} (h : Tab w) (hb : Below w.heap.size w w') : Tab w' := by
  unfold Tab Lib.TabIs World.var? at *
  cases hg : Tryd.prog.globalNamed "internal/strconv.uint64pow10" with
  | none => simp [hg] at h
  | some g =>
    simp only [hg, Option.bind_some] at h ⊢
    have hlt : g < w.heap.size := by
      rcases Nat.lt_or_ge g w.heap.size with h' | h'
      · exact h'
      · rw [Array.getElem?_eq_none h'] at h; simp at h
    rw [hb.block g hlt]
    exact h
theorem Tab.alloc {w : World} (h : Tab w) (o : Obj) : Tab (w.alloc o) := h.below ((Below.refl _ _).alloc (Nat.le_refl _) _)

theorem grow_below (w : World) (k : Nat) (os : Array Obj) : Below w.heap.size w (Sort.grow (w.drewN k) os) := by
  refine ⟨rfl, rfl, rfl, ?_, fun j hj => ?_⟩
  · show w.heap.size ≤ (w.heap ++ os).size
    simp
  · show (w.heap ++ os)[j]? = _
    rw [Array.getElem?_append_left hj]

theorem itoa_any (u : Nat) (h : u ≤ 1000000) (w : World) (ht : Tab w) :
    Calls Tryd.prog 42 #[.int .i64 u] w fun e w' => e = .returned (.string (numT u)) ∧ Below w.heap.size w w' :=
  (Any.strconv_Itoa itoa (u : Int) (by omega) (by omega) w ht).mono fun e w' ⟨he, k, os, hw⟩ => ⟨by rw [he, Lib.itoa_nonneg]; rfl, by rw [hw]; exact grow_below w k os⟩
theorem l1Num_at (x : Int) (h0 : 0 ≤ x) (h1 : x ≤ 1000) (w : World) :
    Calls Tryd.prog 70 #[.int .i64 x] w fun e w' => e = .returned (.string (numT x.toNat)) ∧ Below w.heap.size w w' := by
  have := l1Num_any x.toNat w (by omega)
  rwa [Int.toNat_of_nonneg h0] at this
theorem itoa_at (x : Int) (h0 : 0 ≤ x) (h1 : x ≤ 1000) (w : World) (ht : Tab w) :
    Calls Tryd.prog 42 #[.int .i64 x] w fun e w' => e = .returned (.string (numT x.toNat)) ∧ Below w.heap.size w w' := by
  have := itoa_any x.toNat (by omega) w ht
  rwa [Int.toNat_of_nonneg h0] at this
theorem numT_le (x : Int) (h1 : x ≤ 1000) : (numT x.toNat).size ≤ 4 := numT_size _ 4 (by omega) (by omega)

end Go.Proofs.YtenpmjinbjlpbaaDoor
