/- Texts of puzzles: the mathematics, and textOfNumbers. -/
import Derived.Test.YtenpmjinbjlpbaaDoorParsS
import Derived.Test.YtenpmjinbjlpbaaDoorNum
import Derived.Test.YtenpmjinbjlpbaaDoorShelfO
import Derived.Lib.Join
namespace Go.Proofs.YtenpmjinbjlpbaaDoor
open Go.RowKit

/-- texts with a sign between them -/
def jn (c : UInt8) : List (List UInt8) → List UInt8
  | [] => []
  | x :: r => x ++ r.flatMap (fun y => c :: y)
theorem jn_snoc (c : UInt8) (xs : List (List UInt8)) (y : List UInt8) : jn c (xs ++ [y]) = if xs = [] then y else jn c xs ++ c :: y := by
  cases xs with
  | nil => simp [jn]
  | cons x r => simp [jn]
theorem jn_join (c : UInt8) (xs : List (List UInt8)) : Lib.join xs [c] = jn c xs := by
  cases xs with
  | nil => rfl
  | cons x r => rw [Lib.join_cons]; simp [jn, Lib.joinTail, List.flatMap]
theorem jn_len (c : UInt8) (xs : List (List UInt8)) (b : Nat) (h : ∀ x ∈ xs, x.length ≤ b) : (jn c xs).length ≤ xs.length * (b + 1) := by
  cases xs with
  | nil => simp [jn]
  | cons x r =>
    have h1 := h x List.mem_cons_self
    have h2 : (r.flatMap (fun y => c :: y)).length ≤ r.length * (b + 1) := by
      have h3 : ∀ y ∈ r, y.length ≤ b := fun y hy => h y (List.mem_cons_of_mem _ hy)
      clear h h1
      induction r with
      | nil => simp
      | cons y t ih =>
        have h4 := h3 y List.mem_cons_self
        have h5 := ih (fun z hz => h3 z (List.mem_cons_of_mem _ hz))
        simp only [List.flatMap_cons, List.length_append, List.length_cons] at h5 ⊢
        rw [Nat.succ_mul]
        omega
    unfold jn
    rw [List.length_append, List.length_cons, Nat.succ_mul]
    omega
def dcI (x : Int) : List UInt8 := Lib.decDigits x.toNat
theorem dcI_len {x : Int} (h : x ≤ 1000) : (dcI x).length ≤ 4 := numT_le x h
def dcs (l : List Int) : List (List UInt8) := l.map dcI
theorem dcs_len (l : List Int) : (dcs l).length = l.length := List.length_map ..
theorem numT_mk (x : Int) : numT x.toNat = mkB (dcI x) := rfl
theorem jn_dcs_len (c : UInt8) {l : List Int} (h : ∀ x ∈ l, x ≤ 1000) : (jn c (dcs l)).length ≤ l.length * 5 := by
  have := jn_len c (dcs l) 4 (fun y hy => by obtain ⟨x, hx, rfl⟩ := List.mem_map.1 hy; exact dcI_len (h x hx))
  rwa [dcs_len] at this
/-- the text of a clue, and of a puzzle -/
def ctx (x : Int × Int × Int) : List UInt8 := jn 46 (dcs [x.1, x.2.1, x.2.2])
def pzT (L : Int) (l : List Int) (cs : List (Int × Int × Int)) : List UInt8 := dcI L ++ [58] ++ jn 43 (dcs l) ++ [58] ++ jn 44 (cs.map ctx)

theorem joinX : Builder.Extra Tryd.prog joinT_ren where
  sizeBuilder := by kernel_rfl
  liesBuilder := by kernel_rfl
  t5 := Tryd.underlying5
  a5 := Tryd.isAgg5
  z5 := Tryd.sizeOf5
  v5 := Tryd.zeroValue5
  infoByte := by kernel_rfl
  cellsByte := by kernel_rfl
  sizeByte := by kernel_rfl
  neB5 := by decide
theorem join_texts (c : UInt8) (A : Option Addr) (k : Nat) (xs : List (List UInt8)) (w : World) (hn : xs.length ≤ 1048576) (hc : xs.length ≤ k) (hl : (jn c xs).length ≤ 1048576) (hA : SlAt strS w A (xs.map mkB)) :
    Calls Tryd.prog 43 #[.slice A xs.length k, .string ⟨#[c]⟩] w fun e w' => e = .returned (.string (mkB (jn c xs))) ∧ Below w.heap.size w w' := by
  have hm : (xs.map mkB).map (·.data.toList) = xs := by rw [List.map_map]; simp [Function.comp_def, mkB_data]
  have hml : (xs.map mkB).length = xs.length := List.length_map ..
  rcases hA with h0 | ⟨b, off, rfl, hlt, h⟩
  · have hx : xs = [] := by simpa using h0
    subst hx
    exact (Any.strings_Join_none joinT joinX A k ⟨#[c]⟩ w).mono fun e w' ⟨he, hw⟩ => ⟨by rw [he]; rfl, hw ▸ Below.refl _ _⟩
  · have := Any.strings_Join joinT joinX b off k (xs.map mkB) ⟨#[c]⟩ w (fun j x hj => by have := h j x hj 0 (by decide); simpa [strS] using this) hlt (by rw [hml]; omega) (by rw [hml]; exact hc) (by rw [hm, jn_join]; omega)
    rw [hml, hm, jn_join] at this
    exact this

set_option maxRecDepth 100000 in
set_option maxHeartbeats 4000000 in
theorem textN_any (c : UInt8) (A : Option Addr) (k0 : Nat) (l : List Int) (w : World) (hl : l.length ≤ 16) (hx : ∀ x ∈ l, 0 ≤ x ∧ x ≤ 1000) (hA : SlAt intS w A l) (hT : Tab w) :
    Calls Tryd.prog 41 #[.string ⟨#[c]⟩, .slice A l.length k0] w fun e w' => e = .returned (.string (mkB (jn c (dcs l)))) ∧ Below w.heap.size w w' := by
  obtain ⟨i0, hi, hz0, hz1, hz2⟩ := info_parts strI
  have HA := Lib.hid hA
  have HT := Lib.hid hT
  have HX := Lib.hid hx
  clear hA hT hx
  go_enter Tryd.func41, Tryd.ntmps41
  go_wp2
  go_loopw [5, 10] (fun v i wr => ∃ k : Nat, k ≤ l.length ∧ i = .int .i64 k ∧ Below w.heap.size w wr ∧ SlOwn strS wr w.heap.size 9 v ((dcs (l.take k)).map mkB))
    (fun _ i _ => l.length - (intOf i).toNat)
  case atStart => exact ⟨0, Nat.zero_le _, rfl, Below.refl _ _, SlOwn.nil _ _ _ _⟩
  case round =>
    obtain ⟨k, hk, rfl, hb, hown⟩ := hrel
    have HBR := Lib.hid hb
    have hsr := hb.size
    obtain ⟨A3, k3, rfl, _, _⟩ := hown.form
    have hlen : ((dcs (l.take k)).map mkB).length = k := by rw [List.length_map, dcs_len, List.length_take]; omega
    rw [hlen]
    rw [hlen] at hown
    have HOW := Lib.hid hown
    have HLK := Lib.hid hlen
    have HAr := Lib.hid (HA.out.below hb)
    have HTr := Lib.hid (HT.out.below hb)
    clear hown hlen
    by_cases hlt : k < l.length
    · obtain ⟨b, off, rfl, l0, hc⟩ := HAr.out.int_at hlt
      have a0 := hc k _ (List.getElem?_eq_getElem hlt)
      have HSN : Hid ((dcs (l.take (k + 1))).map mkB = (dcs (l.take k)).map mkB ++ [mkB (dcI l[k])]) := by
        show _ = _
        rw [List.take_succ_eq_append_getElem hlt]; unfold dcs; rw [List.map_append, List.map_append]; rfl
      have hq := HX.out l[k] (List.getElem_mem hlt)
      have HI := Lib.hid (fun W h => itoa_at l[k] hq.1 hq.2 W h)
      rw [numT_mk] at HI
      clear hc hb
      generalize (dcs (l.take k)).map mkB = pk at *
      generalize mkB (dcI l[k]) = y at *
      generalize l[k] = x at *
      have hkl : (k : Int) < (l.length : Int) := by omega
      go_wp2_with (first
        | (at_builtin; go_must (refine wpList_append_slsv strS _ rfl _ _ 72 rfl w.heap.size 9 i0 _ 16 Tryd.underlying72 hi hz0 hz1 hz2 rfl (by decide) _ pk rfl (HO4.out.below ((Below.refl _ _).alloc (Nat.le_refl _) _)) _ 1 1 [y] rfl rfl (slAt_oneB (heap_new (by simp))) (by have := HLK.out; simp only [List.length_cons, List.length_nil]; omega) (by simp; omega) ?_); intro A5 n5 k5 w5 hn5 hown5 hb5; have HO5 := Lib.hid hown5; have HN5 : Hid (n5 = k + 1) := (by show _ = _; rw [hn5, List.length_append, HLK.out]; rfl); have HB5 := Lib.hid (HB4.out.trans (((Below.refl _ _).alloc (Nat.le_refl _) _ |>.mono (by omega)).trans hb5)); clear hn5 hown5 hb5)
        | (go_at_call 42; with_reducible refine (HI.out _ HTr.out).mono ?_; rintro e w4 ⟨rfl, hb4⟩; have HO4 := Lib.hid (SlOwn.below HOW.out hb4); have hs4 := hb4.size; have HB4 := Lib.hid (HBR.out.trans (hb4.mono HBR.out.size)); clear hb4))
      go_roundw
      case rel =>
        refine ⟨k + 1, by omega, by go_num, HB5.out, ?_⟩
        rw [HSN.out]
        have := HN5.out
        exact HO5.out
      case measure => simp [intOf]; omega
    · obtain rfl : k = l.length := by omega
      have HT2 : Hid ((dcs (l.take l.length)).map mkB = (dcs l).map mkB) := by show _ = _; rw [List.take_length]
      rw [HT2.out] at HOW
      have hcap := own_cap HOW.out
      have HJ := Lib.hid (join_texts c A3 k3 (dcs l) wr (by rw [dcs_len]; omega) (by rw [dcs_len]; exact hcap) (by have := jn_dcs_len c (fun x hx => (HX.out x hx).2); omega) HOW.out.sl)
      rw [dcs_len] at HJ
      clear hcap HT2
      go_wp2_with fail
      refine HJ.out.mono ?_
      rintro e w5 ⟨rfl, hb5⟩
      have HB5 := Lib.hid (HBR.out.trans (hb5.mono HBR.out.size))
      clear hb5
      go_wp2
      go_ret
      exact ⟨rfl, HB5.out⟩
end Go.Proofs.YtenpmjinbjlpbaaDoor
