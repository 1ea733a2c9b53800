/- A circle as text: the model's ciText and the program's CircleText. -/
import Derived.Test.YtpchgmcegholoaaDoorText
import Derived.Test.YtpchgmcegholoaaDoorIsCirc
namespace Go.Proofs.YtpchgmcegholoaaDoor
open Go.RowKit

set_option maxHeartbeats 2000000 in
set_option maxRecDepth 100000 in
theorem ciText_any (L : Int) (A : Option Addr) (c : Nat) (l : List (Int × Int)) (w : World) (h0 : 0 ≤ L) (h1 : L ≤ 1000) (hn : l.length ≤ 16) (hok : okT l) (hA : AntsAt w A l) :
    Calls Tryd.prog 38 #[.agg #[.int .i64 L, .slice A l.length c]] w fun e w' => e = .returned (.string (textOn (numT L.toNat ++ ⟨#[64]⟩) l)) ∧ Below w.heap.size w w' := by
  have HA := Lib.hid hA
  have HK := Lib.hid hok
  have hz2 := numT_le L h1
  have f0 : ¬ 9223372036854775807 < (numT L.toNat).size + 1 := by omega
  clear hA hok
  go_enter Tryd.func38, Tryd.ntmps38
  go_wp2_with fail
  refine (l1Num_at L h0 h1 _).mono ?_
  rintro e w1 ⟨rfl, hb1⟩
  have HB1 := Lib.hid (((Below.refl _ w).alloc (Nat.le_refl _) _).trans (hb1.mono (by simp)))
  have s1 : w.heap.size < w1.heap.size := by have := hb1.size; simp at this; omega
  have c0 : w1.cell? ⟨w.heap.size, 0, none⟩ = some (.int .i64 L) := by rw [hb1.cell (p := ⟨w.heap.size, 0, none⟩) (by simp)]; simp
  have c1 : w1.cell? ⟨w.heap.size, 1, none⟩ = some (.slice A l.length c) := by rw [hb1.cell (p := ⟨w.heap.size, 1, none⟩) (by simp)]; simp
  clear hb1
  have hzt : (numT L.toNat ++ ⟨#[64]⟩ : ByteArray).size ≤ 5 := by rw [ByteArray.size_append]; show _ + 1 ≤ 5; omega
  go_wp2
  generalize hTT : numT L.toNat ++ ⟨#[64]⟩ = t at *
  have HTT := Lib.hid hTT
  clear hTT
  go_loopw [3, 13] (fun s i wr => ∃ k : Nat, k ≤ l.length ∧ i = .int .i64 k ∧ s = .string (textOn t (l.take k)) ∧ Below w1.heap.size w1 wr)
    (fun _ i _ => l.length - (intOf i).toNat)
  case atStart => exact ⟨0, Nat.zero_le _, rfl, rfl, Below.refl _ _⟩
  case round =>
    obtain ⟨k, hk, rfl, rfl, hb⟩ := hrel
    have HB := Lib.hid hb
    have HAr := Lib.hid (HA.out.below (HB1.out.trans (hb.mono HB1.out.size)))
    clear hb
    by_cases hlt : k < l.length
    · obtain ⟨b, off, rfl, l0, hc⟩ := HAr.out.at_ hlt
      obtain ⟨a0, a1⟩ := hc k hlt
      have hx : l[k]? = some (l.getD k (0, 0)) := by rw [List.getD_eq_getElem?_getD, List.getElem?_eq_getElem hlt]; rfl
      have hs := textOn_snoc t l k _ hx
      have hz := textOn_size t (l.take k) (okT_take HK.out k)
      rw [List.length_take] at hz
      obtain ⟨p0, p1, p2⟩ := okT_at HK.out hx
      clear hc hx
      generalize l.getD k (0, 0) = x at *
      obtain ⟨x1, x2⟩ := x
      simp only at a0 a1 p0 p1 p2
      have hz1 := numT_le x1 p1
      generalize textOn t (l.take k) = s at *
      have hz0 : s.size ≤ 100 := by omega
      have f1 : ¬ 9223372036854775807 < 1 + (numT x1.toNat).size := by omega
      have f2 : ¬ 9223372036854775807 < s.size + (1 + (numT x1.toNat).size) := by omega
      have HI : Hid (∀ W, Calls Tryd.prog 54 #[.int .i64 x1] W fun e w' => e = .returned (.string (numT x1.toNat)) ∧ Below W.heap.size W w') := fun W => l1Num_at x1 p0 p1 W
      have HS := Lib.hid hs
      clear hs hz hz0 hz1
      rcases p2 with rfl | rfl
      all_goals
        go_wp2_with fail
        refine (HI.out _).mono ?_
        rintro e w2 ⟨rfl, hb2⟩
        go_wp2
        go_roundw
        case rel => exact ⟨k + 1, by omega, by go_num, by rw [HS.out]; rfl, HB.out.trans ((((Below.refl _ _).alloc (Nat.le_refl _) _).trans (hb2.mono (by simp))).mono HB.out.size)⟩
        case measure => simp [intOf]; omega
    · obtain rfl : k = l.length := by omega
      go_wp2
      go_ret
      exact ⟨ret_str (by rw [List.take_length, ← HTT.out]), HB1.out.trans (HB.out.mono HB1.out.size)⟩

theorem ciB_ok {L : Int} {l : List (Int × Int)} (h : ciB L l = true) : 0 ≤ L ∧ L ≤ 1000 ∧ l.length ≤ 16 ∧ okT l := goodB_ok (ciB_good h)

/-- the text of a circle; none if it is none -/
def cirT (L : Int) (l : List (Int × Int)) : ByteArray := if ciB L l then textOn (numT L.toNat ++ ⟨#[64]⟩) l else ⟨#[]⟩

set_option maxHeartbeats 4000000 in
set_option maxRecDepth 100000 in
theorem circleText_any (L : Int) (A : Option Addr) (c : Nat) (l : List (Int × Int)) (w : World) (hA : AntsAt w A l) (ht : Tab w) :
    Calls Tryd.prog 24 #[.agg #[.int .i64 L, .slice A l.length c]] w fun e w' => e = .returned (.tuple #[.string (cirT L l), .bool (ciB L l)]) ∧ Below w.heap.size w w' := by
  have HA := Lib.hid hA
  have HT := Lib.hid ht
  clear hA ht
  go_enter Tryd.func24, Tryd.ntmps24
  go_wp2_with fail
  refine (isCircle_any L A c l _ (HA.out.alloc _)).mono ?_
  rintro e w1 ⟨rfl, hb1⟩
  have HB1 := Lib.hid (((Below.refl _ w).alloc (Nat.le_refl _) _).trans (hb1.mono (by simp)))
  have s1 : w.heap.size < w1.heap.size := by have := hb1.size; simp at this; omega
  have c0 : w1.cell? ⟨w.heap.size, 0, none⟩ = some (.int .i64 L) := by rw [hb1.cell (p := ⟨w.heap.size, 0, none⟩) (by simp)]; simp
  have c1 : w1.cell? ⟨w.heap.size, 1, none⟩ = some (.slice A l.length c) := by rw [hb1.cell (p := ⟨w.heap.size, 1, none⟩) (by simp)]; simp
  clear hb1
  cases hg : ciB L l with
  | false =>
    have HR : Hid (cirT L l = ⟨#[]⟩) := by show _ = _; unfold cirT; rw [hg]; rfl
    have HGG := Lib.hid hg
    clear hg
    go_wp2
    go_ret2
    exact ⟨ret_sb HR.out.symm HGG.out.symm, HB1.out⟩
  | true =>
    obtain ⟨g0, g1, g2, g3⟩ := ciB_ok hg
    have HR : Hid (cirT L l = numT L.toNat ++ ⟨#[64]⟩ ++ textOn ⟨#[]⟩ l) := by
      show _ = _
      unfold cirT
      rw [hg, if_pos rfl, ← textOn_append]
      congr 1
      apply ByteArray.ext
      simp
    have hz := textOn_size ⟨#[]⟩ l g3
    have hz2 := numT_le L g1
    have hz3 : (ByteArray.mk #[]).size = 0 := rfl
    have f0 : ¬ 9223372036854775807 < (numT L.toNat).size + 1 := by omega
    have f1 : ¬ 9223372036854775807 < (numT L.toNat).size + 1 + (textOn ⟨#[]⟩ l).size := by omega
    clear hz hz2 hz3
    have HK := Lib.hid g3
    have HGG := Lib.hid hg
    clear hg g3
    have HA1 := Lib.hid (HA.out.below HB1.out)
    have HT1 := Lib.hid (HT.out.below HB1.out)
    have HI : Hid (∀ W, Below w1.heap.size w1 W → Calls Tryd.prog 34 #[.int .i64 L] W fun e w' => e = .returned (.string (numT L.toNat)) ∧ Below W.heap.size W w') := fun W h => itoa_at L g0 g1 W (HT1.out.below h)
    have HX : Hid (∀ W, Below w1.heap.size w1 W → Calls Tryd.prog 35 #[.slice A l.length c] W fun e w' => e = .returned (.string (textOn ⟨#[]⟩ l)) ∧ Below W.heap.size W w') := fun W h => antsText_any A c l W g2 HK.out (HA1.out.below h) (HT1.out.below h)
    have HD : Hid (Below w1.heap.size w1 w1.drew) := (Below.refl _ _).drew
    go_wp2
    go_region_held3 (fun w' => w'.cell? ⟨w.heap.size, 0, none⟩ = some (.int .i64 L) ∧ w'.cell? ⟨w.heap.size, 1, none⟩ = some (.slice A l.length c))
      (first
        | go_keep
        | exact ⟨Below.cell_some hbx c0, Below.cell_some hbx c1⟩
        | exact ⟨Below.cell_some hby d0, Below.cell_some hby d1⟩)
      (first
        | (go_at_call 34; (with_reducible refine (HI.out w1.drew HD.out).mono ?_); rintro e w2 ⟨rfl, hbx0⟩; have hbx := below_drew hbx0; clear hbx0; have d0 := Below.cell_some hbx c0; have d1 := Below.cell_some hbx c1)
        | (go_at_call 34; (with_reducible refine (HI.out _ hbx).mono ?_); rintro e w3 ⟨rfl, hby⟩)
        | (go_at_call 35; (with_reducible refine (HX.out w1.drew HD.out).mono ?_); rintro e w2 ⟨rfl, hbx0⟩; have hbx := below_drew hbx0; clear hbx0; have d0 := Below.cell_some hbx c0; have d1 := Below.cell_some hbx c1)
        | (go_at_call 35; (with_reducible refine (HX.out _ hbx).mono ?_); rintro e w3 ⟨rfl, hby⟩))
    all_goals
      go_wp2
      go_ret2
      exact ⟨ret_sb HR.out.symm HGG.out.symm, (HB1.out.trans (hbx.mono HB1.out.size)).trans (hby.mono (by have := hbx.size; have := HB1.out.size; omega))⟩

end Go.Proofs.YtpchgmcegholoaaDoor
