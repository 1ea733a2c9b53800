/- Drawn words: whatever they are, memory of the caller stays. -/
import Derived.Test.YtgdgaldgieiokaaGreatDoorCurR
import Derived.Test.YtgdgaldgieiokaaGreatDoorWoW
namespace Go.Proofs.YtgdgaldgieiokaaGreatDoor
open Go.RowKit

theorem slAt_strs {w : World} {g : Nat} {l : List ByteArray} {e : TypeId} {m : Nat × Nat} (h : w.heap[g]? = some (.cells (l.map Value.string).toArray e m)) : SlAt strS w (some ⟨g, 0, none⟩) l := by
  refine .inr ⟨g, 0, rfl, (Array.getElem?_eq_some_iff.1 h).1, fun k x hk j hj => ?_⟩
  obtain rfl : j = 0 := by simp only [strS] at hj; omega
  show w.cell? ⟨g, 0 + k * 1 + 0, none⟩ = _
  simp only [Nat.mul_one, Nat.zero_add, Nat.add_zero]
  rw [cell_of_row w g k _ _ _ h, ← Array.getElem?_toList]
  simp [hk, strS]

set_option maxHeartbeats 400000 in
theorem of_any (g nb cb : Nat) (B : Option Addr) (bs : List Int) (a s : Int) (A : Option Addr) (c : Nat) (l : List ByteArray) (w : World) (h : CurAt w g B nb cb bs a s) (ha : a ≤ 1099511627000) (hA : SlAt strS w A l) (hl0 : 1 ≤ l.length) (hl : l.length ≤ 1000) (hAg : ∀ x, A = some x → g ≠ x.block) (hz : ∀ x ∈ l, x.size = 1) :
    Calls Tryz.prog 70 #[.pointer (some ⟨g, 0, none⟩), .slice A l.length c] w fun e w' => ∃ x, e = .returned (.string x) ∧ x.size = 1 ∧ Took w w' g nb cb B bs a 2 := by
  have HP := Lib.hid (pick_any g nb cb B bs a s l.length w h ha (by omega) (by omega))
  have HA := Lib.hid hA
  have HZ := Lib.hid hz
  clear h hA hz
  go_enter Tryz.func70, Tryz.ntmps70
  go_wp2_with fail
  refine HP.out.mono ?_
  rintro e w1 ⟨v, rfl, v0, v1, ht⟩
  obtain ⟨k, rfl⟩ : ∃ k : Nat, v = (k : Int) := ⟨v.toNat, by omega⟩
  have hk : k < l.length := by omega
  have HT := Lib.hid ht
  have HA1 := Lib.hid (SlAt.grown HA.out ht.grown (fun x hx e => hAg x hx (by injection e)))
  have HX := Lib.hid (HZ.out l[k] (List.getElem_mem hk))
  obtain ⟨b, off, rfl, hlt, hc⟩ : ∃ b off, A = some ⟨b, off, none⟩ ∧ b < w1.heap.size ∧ w1.cell? ⟨b, off + k, none⟩ = some (.string l[k]) := by
    rcases HA1.out with h | ⟨b, off, hA, hlt, hc⟩
    · rw [h] at hk; simp at hk
    · refine ⟨b, off, hA, hlt, ?_⟩
      have := hc k _ (List.getElem?_eq_getElem hk) 0 (by decide)
      simpa [strS] using this
  have hk1 : (k : Int) < (l.length : Int) := by omega
  generalize l[k] = x at *
  clear ht
  go_wp2
  go_ret
  exact ⟨_, rfl, HX.out, HT.out⟩

set_option maxRecDepth 100000 in
set_option maxHeartbeats 2000000 in
theorem word_any (g nb cb : Nat) (B : Option Addr) (bs : List Int) (a s : Int) (w : World) (h : CurAt w g B nb cb bs a s) (ha : a ≤ 1099511620000) :
    Calls Tryz.prog 51 #[.pointer (some ⟨g, 0, none⟩)] w fun e w' => ∃ x, e = .returned (.string x) ∧ x.size ≤ 1000 ∧ Took w w' g nb cb B bs a 40 := by
  have HP : Hid (∀ (a s n : Int) (w : World), CurAt w g B nb cb bs a s → a ≤ 1099511627000 → -1000000 ≤ n → n ≤ 1000000 → Calls Tryz.prog 69 #[.pointer (some ⟨g, 0, none⟩), .int .i64 n] w fun e w' => ∃ v, e = .returned (.int .i64 v) ∧ 0 ≤ v ∧ (v = 0 ∨ v < n) ∧ Took w w' g nb cb B bs a 2) := fun a s n w h ha hn0 hn => pick_any g nb cb B bs a s n w h ha hn0 hn
  have HOF : Hid (∀ (a s : Int) (A : Option Addr) (c : Nat) (l : List ByteArray) (w : World), CurAt w g B nb cb bs a s → a ≤ 1099511627000 → SlAt strS w A l → 1 ≤ l.length → l.length ≤ 1000 → (∀ x, A = some x → g ≠ x.block) → (∀ x ∈ l, x.size = 1) → Calls Tryz.prog 70 #[.pointer (some ⟨g, 0, none⟩), .slice A l.length c] w fun e w' => ∃ x, e = .returned (.string x) ∧ x.size = 1 ∧ Took w w' g nb cb B bs a 2) := fun a s A c l w h ha hA h0 h1 h2 h3 => of_any g nb cb B bs a s A c l w h ha hA h0 h1 h2 h3
  have HC := Lib.hid h
  have hg := h.lt
  have hz0 : (⟨#[]⟩ : ByteArray).size = 0 := rfl
  clear h
  go_enter Tryz.func51, Tryz.ntmps51
  go_wp2_with fail
  refine (HP.out _ _ _ _ HC.out (by omega) (by omega) (by omega)).mono ?_
  rintro e w1 ⟨k0, rfl, k00, k01, ⟨a1, s1, hc1, ha1⟩, hg1⟩
  have HC1 := Lib.hid hc1
  have HT1 := Lib.hid (Turn.of_grown hg1 (Nat.le_refl _))
  have hs1 := hg1.size
  clear hc1 hg1
  go_wp2
  go_loopw [3, 4] (fun t q wr => ∃ (k : Nat) (x : ByteArray) (a3 s3 : Int), k ≤ 10 ∧ q = .int .i64 k ∧ t = .string x ∧ x.size + k ≤ 10 ∧ CurAt wr g B nb cb bs a3 s3 ∧ a3 ≤ a + 2 + 2 * (10 - k) ∧ Turn w.heap.size g w wr)
    (fun _ q _ => (intOf q).toNat)
  case atStart => exact ⟨k0.toNat, ⟨#[]⟩, a1, s1, by omega, by rw [Int.toNat_of_nonneg k00], rfl, by rw [hz0]; omega, HC1.out, by omega, HT1.out⟩
  case round =>
    obtain ⟨k, x, a3, s3, hk, rfl, rfl, hx, hc3, ha3, ht3⟩ := hrel
    have HC3 := Lib.hid hc3
    have HT3 := Lib.hid ht3
    have hs3 := ht3.size
    clear hc3 ht3
    by_cases hk0 : 0 < k
    · have hk0' : (0 : Int) < (k : Int) := by omega
      go_wp2_with fail
      refine (HOF.out a3 s3 _ _ [⟨#[108]⟩, ⟨#[114]⟩] _ (HC3.out.kept ((Below.refl _ _).alloc (Nat.le_refl _) _)) (by omega) (slAt_strs (heap_new rfl)) (by decide) (by decide) (fun x hx => by injection hx with hx; subst hx; simp only; omega) (by decide)).mono ?_
      rintro e w4 ⟨y, rfl, hy, ⟨a4, s4, hc4, ha4⟩, hg4⟩
      have HC4 := Lib.hid hc4
      have HT4 := Lib.hid ((HT3.out.trans (Turn.of_below ((Below.refl _ _).alloc hs3 _))).trans (Turn.of_grown hg4 (by simp; omega)))
      have f1 : ¬ 9223372036854775807 < x.size + 1 := by omega
      have hxy : (x ++ y).size = x.size + 1 := by rw [ByteArray.size_append, hy]
      clear hc4 hg4
      go_wp2
      go_roundw
      case rel => exact ⟨k - 1, x ++ y, a4, s4, by omega, by go_num, rfl, by omega, HC4.out, by omega, HT4.out⟩
      case measure => simp [intOf]; omega
    · obtain rfl : k = 0 := by omega
      go_wp2_with fail
      refine (HP.out _ _ _ _ HC3.out (by omega) (by omega) (by omega)).mono ?_
      rintro e w4 ⟨v, rfl, v0, v1, ⟨a4, s4, hc4, ha4⟩, hg4⟩
      have HC4 := Lib.hid hc4
      have HT4 := Lib.hid (HT3.out.trans (Turn.of_grown hg4 hs3))
      have hs4 := HT4.out.size
      clear hc4 hg4
      by_cases hv0 : v = 0
      · subst hv0
        go_wp2_with fail
        refine (HOF.out a4 s4 _ _ [⟨#[120]⟩, ⟨#[76]⟩, ⟨#[32]⟩] _ (HC4.out.kept ((Below.refl _ _).alloc (Nat.le_refl _) _)) (by omega) (slAt_strs (heap_new rfl)) (by decide) (by decide) (fun x hx => by injection hx with hx; subst hx; simp only; omega) (by decide)).mono ?_
        rintro e w5 ⟨y, rfl, hy, ⟨a5, s5, hc5, ha5⟩, hg5⟩
        have HC5 := Lib.hid hc5
        have HT5 := Lib.hid ((HT4.out.trans (Turn.of_below ((Below.refl _ _).alloc hs4 _))).trans (Turn.of_grown hg5 (by simp; omega)))
        have f1 : ¬ 9223372036854775807 < x.size + 1 := by omega
        have hxy : (x ++ y).size ≤ 1000 := by rw [ByteArray.size_append, hy]; omega
        clear hc5 hg5
        go_wp2
        go_ret
        exact ⟨_, rfl, hxy, ⟨_, _, HC5.out, by omega⟩, HT5.out.grown⟩
      · by_cases hv1 : v = 1
        · subst hv1
          have HR : Hid (∀ W, Calls Tryz.prog 37 #[.string ⟨#[114]⟩, .int .i64 7] W fun e w' => e = .returned (.string (mkB (List.replicate 7 114))) ∧ w' = W) := Lib.hid fun W => woTimes_any 114 7 (by omega) W
          have z1 : (mkB (List.replicate 7 114)).size = 7 := rfl
          generalize mkB (List.replicate 7 114) = p at *
          go_wp2_with fail
          refine (HR.out _).mono ?_
          rintro e w5 ⟨rfl, rfl⟩
          go_wp2_with fail
          refine (HP.out _ _ _ _ HC4.out (by omega) (by omega) (by omega)).mono ?_
          rintro e w6 ⟨u, rfl, u0, u1, ⟨a6, s6, hc6, ha6⟩, hg6⟩
          have HC6 := Lib.hid hc6
          have HT6 := Lib.hid (HT4.out.trans (Turn.of_grown hg6 hs4))
          have HL : Hid (∀ W, Calls Tryz.prog 37 #[.string ⟨#[108]⟩, .int .i64 (6 + u)] W fun e w' => e = .returned (.string (mkB (List.replicate (6 + u).toNat 108))) ∧ w' = W) := Lib.hid fun W => woTimes_any 108 (6 + u) (by omega) W
          have z2 : (mkB (List.replicate (6 + u).toNat 108)).size ≤ 10 := by rw [mkB_size, List.length_replicate]; omega
          have zs : (p ++ mkB (List.replicate (6 + u).toNat 108)).size ≤ 1000 := by rw [ByteArray.size_append]; omega
          generalize mkB (List.replicate (6 + u).toNat 108) = q at *
          have f1 : ¬ 9223372036854775807 < 7 + q.size := by omega
          clear hc6 hg6
          go_wp2_with fail
          refine (HL.out _).mono ?_
          rintro e w7 ⟨rfl, rfl⟩
          go_wp2
          go_ret
          exact ⟨_, rfl, zs, ⟨_, _, HC6.out, by omega⟩, HT6.out.grown⟩
        · have e0 : (v == 0) = false := beq_eq_false_iff_ne.2 hv0
          have e1 : (v == 1) = false := beq_eq_false_iff_ne.2 hv1
          have hxs : x.size ≤ 1000 := by omega
          go_wp2
          go_ret
          exact ⟨_, rfl, hxs, ⟨_, _, HC4.out, by omega⟩, HT4.out.grown⟩

/-- a cursor, newly made -/
theorem cur_new {w : World} {A : Option Addr} {n c : Nat} {bs : List Int} (hn : n = bs.length) (hA : SlAt u8S w A bs) (hok : ∀ x, x ∈ bs → 0 ≤ x ∧ x ≤ 255) :
    CurAt (w.alloc (.cells #[.slice A n c, .int .i64 0, .int .u64 0] 56)) w.heap.size A n c bs 0 0 := by
  refine ⟨hn.symm, ?_, hok, by simp, by simp, by simp, fun o => by simp [go_sem], by simp, ?_, Int.le_refl _, by omega⟩
  · exact hA.alloc _
  · intro b hb hne
    rcases hA with hA | ⟨b', off, hA, hlt, _⟩
    · exact absurd hA hne
    · rw [hb] at hA
      injection hA with hA
      rw [hA]
      simp only
      omega

set_option maxHeartbeats 1000000 in
theorem drawIsWord_any (A : Option Addr) (c : Nat) (bs : List Int) (w : World) (hA : SlAt u8S w A bs) (hok : ∀ x, x ∈ bs → 0 ≤ x ∧ x ≤ 255) :
    Calls Tryz.prog 31 #[.slice A bs.length c] w fun e w' => ∃ x, e = .returned (.string x) ∧ x.size ≤ 1000 ∧ Below w.heap.size w w' := by
  have HC := Lib.hid (cur_new (c := c) rfl hA hok)
  have HW : Hid (∀ (a s : Int) (W : World), CurAt W w.heap.size A bs.length c bs a s → a ≤ 1099511620000 → Calls Tryz.prog 51 #[.pointer (some ⟨w.heap.size, 0, none⟩)] W fun e w' => ∃ x, e = .returned (.string x) ∧ x.size ≤ 1000 ∧ Took W w' w.heap.size bs.length c A bs a 40) := Lib.hid fun a s W h ha => word_any w.heap.size bs.length c A bs a s W h ha
  clear hA hok
  go_enter Tryz.func31, Tryz.ntmps31
  go_wp2_with fail
  refine (HW.out 0 0 _ HC.out (by omega)).mono ?_
  rintro e w1 ⟨x, rfl, hx, ht⟩
  have HT := Lib.hid (Turn.of_grown (B0 := w.heap.size) ht.grown (by simp))
  clear ht
  go_wp2
  go_ret
  refine ⟨_, rfl, hx, ?_⟩
  have h := HT.out
  have h0 := (Below.refl w.heap.size w).alloc (Nat.le_refl _) (Obj.cells #[.slice A bs.length c, .int .i64 0, .int .u64 0] 56)
  exact h0.trans ⟨h.os, h.tape, h.output, h.size, fun k hk => h.block k hk (by omega)⟩
theorem drawStepWord_any (A : Option Addr) (c : Nat) (bs : List Int) (w : World) (hA : SlAt u8S w A bs) (hok : ∀ x, x ∈ bs → 0 ≤ x ∧ x ≤ 255) :
    Calls Tryz.prog 5 #[.slice A bs.length c] w fun e w' => ∃ x, e = .returned (.string x) ∧ x.size ≤ 1000 ∧ Below w.heap.size w w' := by
  have H := Lib.hid (drawIsWord_any A c bs w hA hok)
  clear hA hok
  go_enter Tryz.func5, Tryz.ntmps5
  go_wp2_with fail
  refine H.out.mono ?_
  rintro e w1 ⟨x, rfl, hx, hb⟩
  go_wp2
  go_ret
  exact ⟨_, rfl, hx, hb⟩
theorem drawWordsBefore_any (A : Option Addr) (c : Nat) (bs : List Int) (w : World) (hA : SlAt u8S w A bs) (hok : ∀ x, x ∈ bs → 0 ≤ x ∧ x ≤ 255) :
    Calls Tryz.prog 26 #[.slice A bs.length c] w fun e w' => ∃ x, e = .returned (.string x) ∧ x.size ≤ 1000 ∧ Below w.heap.size w w' := by
  have H := Lib.hid (drawIsWord_any A c bs w hA hok)
  clear hA hok
  go_enter Tryz.func26, Tryz.ntmps26
  go_wp2_with fail
  refine H.out.mono ?_
  rintro e w1 ⟨x, rfl, hx, hb⟩
  go_wp2
  go_ret
  exact ⟨_, rfl, hx, hb⟩
set_option maxHeartbeats 1000000 in
theorem drawWordAfter_any (A : Option Addr) (c : Nat) (bs : List Int) (w : World) (hA : SlAt u8S w A bs) (hok : ∀ x, x ∈ bs → 0 ≤ x ∧ x ≤ 255) :
    Calls Tryz.prog 28 #[.slice A bs.length c] w fun e w' => ∃ x k, e = .returned (.tuple #[.string x, .int .i64 k]) ∧ x.size ≤ 1000 ∧ Below w.heap.size w w' := by
  have HC := Lib.hid (cur_new (c := c) rfl hA hok)
  have HW : Hid (∀ (a s : Int) (W : World), CurAt W w.heap.size A bs.length c bs a s → a ≤ 1099511620000 → Calls Tryz.prog 51 #[.pointer (some ⟨w.heap.size, 0, none⟩)] W fun e w' => ∃ x, e = .returned (.string x) ∧ x.size ≤ 1000 ∧ Took W w' w.heap.size bs.length c A bs a 40) := Lib.hid fun a s W h ha => word_any w.heap.size bs.length c A bs a s W h ha
  have HAM : Hid (∀ (a s : Int) (A2 : Option Addr) (c2 : Nat) (l : List Int) (W : World), CurAt W w.heap.size A bs.length c bs a s → a ≤ 1099511627000 → SlAt intS W A2 l → 1 ≤ l.length → l.length ≤ 1000 → (∀ x, A2 = some x → w.heap.size ≠ x.block) → Calls Tryz.prog 52 #[.pointer (some ⟨w.heap.size, 0, none⟩), .slice A2 l.length c2] W fun e w' => ∃ v, e = .returned (.int .i64 v) ∧ Took W w' w.heap.size bs.length c A bs a 2) := Lib.hid fun a s A2 c2 l W h ha hA h0 h1 h2 => among_any w.heap.size bs.length c A bs a s A2 c2 l W h ha hA h0 h1 h2
  clear hA hok
  go_enter Tryz.func28, Tryz.ntmps28
  go_wp2_with fail
  refine (HW.out 0 0 _ HC.out (by omega)).mono ?_
  rintro e w1 ⟨x, rfl, hx, ⟨a1, s1, hc1, ha1⟩, hg1⟩
  have HC1 := Lib.hid hc1
  have hs1 : w.heap.size < w1.heap.size := by have := hg1.size; simp at this; omega
  have HT1 := Lib.hid (Turn.of_grown (B0 := w.heap.size) hg1 (by simp))
  clear hc1 hg1
  go_wp2_with fail
  refine (HAM.out a1 s1 _ _ [0, 1, 2, 3, 5, 20, 21, -1] _ (HC1.out.kept ((Below.refl _ _).alloc (Nat.le_refl _) _)) (by omega) (slAt_list (heap_new rfl)) (by decide) (by decide) (fun x hx => by injection hx with hx; subst hx; simp only; omega)).mono ?_
  rintro e w2 ⟨v, rfl, _, hg2⟩
  have HT2 := Lib.hid ((HT1.out.trans (Turn.of_below ((Below.refl _ _).alloc (by omega) _))).trans (Turn.of_grown hg2 (by simp; omega)))
  clear hg2
  go_wp2
  go_ret2
  refine ⟨_, _, rfl, hx, ?_⟩
  have h := HT2.out
  have h0 := (Below.refl w.heap.size w).alloc (Nat.le_refl _) (Obj.cells #[.slice A bs.length c, .int .i64 0, .int .u64 0] 56)
  exact h0.trans ⟨h.os, h.tape, h.output, h.size, fun k hk => h.block k hk (by omega)⟩
end Go.Proofs.YtgdgaldgieiokaaGreatDoor
