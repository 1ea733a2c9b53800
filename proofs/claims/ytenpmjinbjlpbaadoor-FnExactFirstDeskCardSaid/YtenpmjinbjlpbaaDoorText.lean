/- A rod as text: the model's roText and the program's antsText and RodText. -/
import Derived.Test.YtenpmjinbjlpbaaDoorNum
import Derived.Test.YtenpmjinbjlpbaaDoorGood
namespace Go.Proofs.YtenpmjinbjlpbaaDoor
open Go.RowKit

def oneT (p : Int × Int) : ByteArray := (if p.2 < 0 then ⟨#[108]⟩ else ⟨#[114]⟩) ++ numT p.1.toNat
def okT (l : List (Int × Int)) : Prop := ∀ p, p ∈ l → 0 ≤ p.1 ∧ p.1 ≤ 1000 ∧ (p.2 = -1 ∨ p.2 = 1)
def textOn (s : ByteArray) (l : List (Int × Int)) : ByteArray := l.foldl (fun s p => s ++ oneT p) s
theorem textOn_snoc (s : ByteArray) (l : List (Int × Int)) (k : Nat) (x : Int × Int) (h : l[k]? = some x) : textOn s (l.take (k + 1)) = textOn s (l.take k) ++ oneT x := by
  obtain ⟨hk, rfl⟩ := List.getElem?_eq_some_iff.1 h
  unfold textOn
  rw [List.take_succ_eq_append_getElem hk, List.foldl_append]
  rfl
theorem textOn_append (a s : ByteArray) (l : List (Int × Int)) : textOn (a ++ s) l = a ++ textOn s l := by
  unfold textOn
  induction l generalizing s with
  | nil => rfl
  | cons p l ih => rw [List.foldl_cons, List.foldl_cons, ByteArray.append_assoc, ih]
theorem oneT_size (p : Int × Int) (h : p.1 ≤ 1000) : (oneT p).size ≤ 5 := by
  unfold oneT
  have := numT_le p.1 h
  split
  · rw [ByteArray.size_append]; show 1 + _ ≤ 5; omega
  · rw [ByteArray.size_append]; show 1 + _ ≤ 5; omega
theorem textOn_size (s : ByteArray) (l : List (Int × Int)) (h : okT l) : (textOn s l).size ≤ s.size + 5 * l.length := by
  unfold textOn
  induction l generalizing s with
  | nil => simp
  | cons p l ih =>
    rw [List.foldl_cons]
    have h1 := ih (s ++ oneT p) (fun q hq => h q (List.mem_cons_of_mem _ hq))
    have h2 := oneT_size p (h p List.mem_cons_self).2.1
    rw [ByteArray.size_append] at h1
    rw [List.length_cons]
    omega
theorem okT_take {l : List (Int × Int)} (h : okT l) (k : Nat) : okT (l.take k) := fun p hp => h p (List.mem_of_mem_take hp)
theorem okT_at {l : List (Int × Int)} (h : okT l) {k : Nat} {x : Int × Int} (hx : l[k]? = some x) : 0 ≤ x.1 ∧ x.1 ≤ 1000 ∧ (x.2 = -1 ∨ x.2 = 1) := h x (List.mem_of_getElem? hx)

set_option maxHeartbeats 2000000 in
set_option maxRecDepth 100000 in
theorem antsText_any (A : Option Addr) (c : Nat) (l : List (Int × Int)) (w : World) (hn : l.length ≤ 16) (hok : okT l) (hA : AntsAt w A l) (ht : Tab w) :
    Calls Tryd.prog 88 #[.slice A l.length c] w fun e w' => e = .returned (.string (textOn ⟨#[]⟩ l)) ∧ Below w.heap.size w w' := by
  have HA := Lib.hid hA
  have HT := Lib.hid ht
  have HK := Lib.hid hok
  clear hA ht hok
  go_enter Tryd.func88, Tryd.ntmps88
  go_wp2
  go_loopw [3, 9] (fun s i wr => ∃ k : Nat, k ≤ l.length ∧ i = .int .i64 k ∧ s = .string (textOn ⟨#[]⟩ (l.take k)) ∧ Below w.heap.size w wr)
    (fun _ i _ => l.length - (intOf i).toNat)
  case atStart => exact ⟨0, Nat.zero_le _, rfl, rfl, Below.refl _ _⟩
  case round =>
    obtain ⟨k, hk, rfl, rfl, hb⟩ := hrel
    have HB := Lib.hid hb
    have HAr := Lib.hid (HA.out.below hb)
    have HTr := Lib.hid (HT.out.below hb)
    clear hb
    by_cases hlt : k < l.length
    · obtain ⟨b, off, rfl, l0, hc⟩ := HAr.out.at_ hlt
      obtain ⟨a0, a1⟩ := hc k hlt
      have hx : l[k]? = some (l.getD k (0, 0)) := by rw [List.getD_eq_getElem?_getD, List.getElem?_eq_getElem hlt]; rfl
      have hs := textOn_snoc ⟨#[]⟩ l k _ hx
      have hz := textOn_size ⟨#[]⟩ (l.take k) (okT_take HK.out k)
      rw [List.length_take] at hz
      obtain ⟨p0, p1, p2⟩ := okT_at HK.out hx
      clear hc hx
      generalize l.getD k (0, 0) = x at *
      obtain ⟨x1, x2⟩ := x
      simp only at a0 a1 p0 p1 p2
      have hz1 := numT_le x1 p1
      generalize textOn ⟨#[]⟩ (l.take k) = s at *
      have hz0 : s.size ≤ 100 := by have : (ByteArray.mk #[]).size = 0 := rfl; omega
      have f1 : ¬ 9223372036854775807 < 1 + (numT x1.toNat).size := by omega
      have f2 : ¬ 9223372036854775807 < s.size + (1 + (numT x1.toNat).size) := by omega
      have HI : Hid (∀ W, Tab W → Calls Tryd.prog 42 #[.int .i64 x1] W fun e w' => e = .returned (.string (numT x1.toNat)) ∧ Below W.heap.size W w') := fun W h => itoa_at x1 p0 p1 W h
      have HS := Lib.hid hs
      clear hs hz hz0 hz1
      rcases p2 with rfl | rfl
      all_goals
        go_wp2_with fail
        refine (HI.out _ (HTr.out.alloc _)).mono ?_
        rintro e w2 ⟨rfl, hb2⟩
        go_wp2
        go_roundw
        case rel => exact ⟨k + 1, by omega, by go_num, by rw [HS.out]; rfl, HB.out.trans ((((Below.refl _ _).alloc (Nat.le_refl _) _).trans (hb2.mono (by simp))).mono HB.out.size)⟩
        case measure => simp [intOf]; omega
    · obtain rfl : k = l.length := by omega
      go_wp2
      go_ret
      exact ⟨ret_str (by rw [List.take_length]), HB.out⟩


theorem goodB_ok {L : Int} {l : List (Int × Int)} (h : goodB L l = true) : 0 ≤ L ∧ L ≤ 1000 ∧ l.length ≤ 16 ∧ okT l := by
  unfold goodB at h
  rw [Bool.and_eq_true] at h
  obtain ⟨h1, h2⟩ := h
  obtain ⟨a, b, _, d⟩ := (hdr_iff L l.length).1 h1
  refine ⟨by omega, b, by omega, fun p hp => ?_⟩
  obtain ⟨k, hk, rfl⟩ := List.mem_iff_getElem.1 hp
  have h3 := List.all_eq_true.1 h2 k (List.mem_range.2 hk)
  unfold okAt isAntB at h3
  rw [List.getD_eq_getElem?_getD, List.getElem?_eq_getElem hk] at h3
  simp at h3
  obtain ⟨⟨⟨⟨e1, e2⟩, _⟩, e3⟩, _⟩ := h3
  exact ⟨e1, by omega, e3⟩

/-- the text of a rod; none if it is none -/
def rodT (L : Int) (l : List (Int × Int)) : ByteArray := if goodB L l then textOn (numT L.toNat ++ ⟨#[58]⟩) l else ⟨#[]⟩

theorem ret_sb {a b : ByteArray} {c d : Bool} (h : a = b) (h2 : c = d) : Ending.returned (.tuple #[.string a, .bool c]) = .returned (.tuple #[.string b, .bool d]) := by rw [h, h2]

set_option maxHeartbeats 4000000 in
set_option maxRecDepth 100000 in
theorem rodText_any (L : Int) (A : Option Addr) (c : Nat) (l : List (Int × Int)) (w : World) (hA : AntsAt w A l) (ht : Tab w) :
    Calls Tryd.prog 57 #[.agg #[.int .i64 L, .slice A l.length c]] w fun e w' => e = .returned (.tuple #[.string (rodT L l), .bool (goodB L l)]) ∧ Below w.heap.size w w' := by
  have HA := Lib.hid hA
  have HT := Lib.hid ht
  clear hA ht
  go_enter Tryd.func57, Tryd.ntmps57
  go_wp2_with fail
  refine (isRod_any L A c l _ (HA.out.alloc _)).mono ?_
  rintro e w1 ⟨rfl, hb1⟩
  have HB1 := Lib.hid (((Below.refl _ w).alloc (Nat.le_refl _) _).trans (hb1.mono (by simp)))
  have s1 : w.heap.size < w1.heap.size := by have := hb1.size; simp at this; omega
  have c0 : w1.cell? ⟨w.heap.size, 0, none⟩ = some (.int .i64 L) := by rw [hb1.cell (p := ⟨w.heap.size, 0, none⟩) (by simp)]; simp
  have c1 : w1.cell? ⟨w.heap.size, 1, none⟩ = some (.slice A l.length c) := by rw [hb1.cell (p := ⟨w.heap.size, 1, none⟩) (by simp)]; simp
  clear hb1
  cases hg : goodB L l with
  | false =>
    have HR : Hid (rodT L l = ⟨#[]⟩) := by show _ = _; unfold rodT; rw [hg]; rfl
    have HGG := Lib.hid hg
    clear hg
    go_wp2
    go_ret2
    exact ⟨ret_sb HR.out.symm HGG.out.symm, HB1.out⟩
  | true =>
    obtain ⟨g0, g1, g2, g3⟩ := goodB_ok hg
    have HR : Hid (rodT L l = numT L.toNat ++ ⟨#[58]⟩ ++ textOn ⟨#[]⟩ l) := by
      show _ = _
      unfold rodT
      rw [hg, if_pos rfl, ← textOn_append]
      congr 1
      apply ByteArray.ext
      simp
    have hz := textOn_size ⟨#[]⟩ l g3
    have hz2 := numT_le L g1
    have hz3 : (ByteArray.mk #[]).size = 0 := rfl
    have f0 : ¬ 9223372036854775807 < (numT L.toNat).size + 1 := by omega
    have f1 : ¬ 9223372036854775807 < (numT L.toNat).size + 1 + (textOn ⟨#[]⟩ l).size := by omega
    clear hz hz2 hz3
    have HK := Lib.hid g3
    have HGG := Lib.hid hg
    clear hg g3
    have HA1 := Lib.hid (HA.out.below HB1.out)
    have HT1 := Lib.hid (HT.out.below HB1.out)
    have HI : Hid (∀ W, Below w1.heap.size w1 W → Calls Tryd.prog 42 #[.int .i64 L] W fun e w' => e = .returned (.string (numT L.toNat)) ∧ Below W.heap.size W w') := fun W h => itoa_at L g0 g1 W (HT1.out.below h)
    have HX : Hid (∀ W, Below w1.heap.size w1 W → Calls Tryd.prog 88 #[.slice A l.length c] W fun e w' => e = .returned (.string (textOn ⟨#[]⟩ l)) ∧ Below W.heap.size W w') := fun W h => antsText_any A c l W g2 HK.out (HA1.out.below h) (HT1.out.below h)
    have HD : Hid (Below w1.heap.size w1 w1.drew) := (Below.refl _ _).drew
    go_wp2
    go_region_held3 (fun w' => w'.cell? ⟨w.heap.size, 0, none⟩ = some (.int .i64 L) ∧ w'.cell? ⟨w.heap.size, 1, none⟩ = some (.slice A l.length c))
      (first
        | go_keep
        | exact ⟨Below.cell_some hbx c0, Below.cell_some hbx c1⟩
        | exact ⟨Below.cell_some hby d0, Below.cell_some hby d1⟩)
      (first
        | (go_at_call 42; (with_reducible refine (HI.out w1.drew HD.out).mono ?_); rintro e w2 ⟨rfl, hbx0⟩; have hbx := below_drew hbx0; clear hbx0; have d0 := Below.cell_some hbx c0; have d1 := Below.cell_some hbx c1)
        | (go_at_call 42; (with_reducible refine (HI.out _ hbx).mono ?_); rintro e w3 ⟨rfl, hby⟩)
        | (go_at_call 88; (with_reducible refine (HX.out w1.drew HD.out).mono ?_); rintro e w2 ⟨rfl, hbx0⟩; have hbx := below_drew hbx0; clear hbx0; have d0 := Below.cell_some hbx c0; have d1 := Below.cell_some hbx c1)
        | (go_at_call 88; (with_reducible refine (HX.out _ hbx).mono ?_); rintro e w3 ⟨rfl, hby⟩))
    all_goals
      go_wp2
      go_ret2
      exact ⟨ret_sb HR.out.symm HGG.out.symm, (HB1.out.trans (hbx.mono HB1.out.size)).trans (hby.mono (by have := hbx.size; have := HB1.out.size; omega))⟩

end Go.Proofs.YtenpmjinbjlpbaaDoor
