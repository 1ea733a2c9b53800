/- Words, the program: the functions that range over a text (NumbersOfWord, OtherSide), and MeetingsOfWord. -/
import Derived.Test.YtgdgaldgieiokaaGreatDoorWoI
namespace Go.Proofs.YtgdgaldgieiokaaGreatDoor
open Go.RowKit

theorem byte_mk (l : List UInt8) (i : Nat) (x : UInt8) (h : i < (mkB l).size) (hx : l[i]? = some x) : (mkB l)[i]'h = x := by
  have := Lib.data_getElem? (mkB l) i h
  rw [mkB_data, hx] at this
  exact (Option.some.inj this).symm
theorem word_low {l : List UInt8} (h : okW l = true) {i : Nat} {x : UInt8} (hx : l[i]? = some x) : x.toNat < 128 := by
  rcases okW_at h (List.mem_of_getElem? hx) with rfl | rfl <;> decide
/-- of a word's first signs: those told and the r are all -/
theorem num_rest {l : List UInt8} (h : okW l = true) (k : Nat) (hk : k ≤ l.length) : (num 0 (l.take k)).length + (l.take k).count 114 = k := by
  have ha : (l.take k).all isLr = true := List.all_eq_true.2 fun x hx => by
    have := okW_at h (List.mem_of_mem_take hx)
    unfold isLr; rcases this with rfl | rfl <;> rfl
  rw [num_len _ ha, count_lr _ ha, List.length_take]; omega

theorem isWordL_any (l : List UInt8) (hl : l.length ≤ 1048576) (w : World) :
    Calls Tryz.prog 21 #[.string (mkB l)] w fun e w' => e = .returned (.bool (okW l)) ∧ Below w.heap.size w w' := isWord_any (mkB l) hl w

set_option maxHeartbeats 4000000 in
set_option maxRecDepth 100000 in
theorem implNumbersOfWord_any (l : List UInt8) (hl : l.length ≤ 1048576) (w : World) :
    Calls Tryz.prog 41 #[.string (mkB l)] w fun e w' => ∃ A n c, e = .returned (.tuple #[.slice A n c, .bool (okW l)]) ∧ n = (lstR (okW l) (natI (num 0 l))).length ∧ SlOwn intS w' w.heap.size 3 (.slice A n c) (lstR (okW l) (natI (num 0 l))) ∧ Below w.heap.size w w' := by
  have HG := Lib.hid (fun W => isWord_any (mkB l) hl W)
  rw [mkB_data] at HG
  obtain ⟨i0, hi, hz0, hz1, hz2⟩ := info_parts intInfoW
  cases hok : okW l with
  | false =>
    rw [hok] at HG
    go_enter Tryz.func41, Tryz.ntmps41
    go_wp2_with fail
    refine (HG.out _).mono ?_
    rintro e w1 ⟨rfl, hb1⟩
    go_wp2
    go_ret2
    exact ⟨none, 0, 0, rfl, rfl, SlOwn.nil intS _ _ _, hb1⟩
  | true =>
    have h14 := okW_len hok
    have hz : (mkB l).size = l.length := rfl
    have HOK := Lib.hid hok
    rw [hok] at HG
    clear hok
    go_enter Tryz.func41, Tryz.ntmps41
    go_wp2_with fail
    refine (HG.out _).mono ?_
    rintro e w1 ⟨rfl, hb1⟩
    have HB1 := Lib.hid hb1
    have hs01 := hb1.size
    clear hb1
    go_wp2
    go_loopw [4, 5, 6] (fun v _ _ wr => ∃ (k n : Nat) (A : Option Addr) (c : Nat), k ≤ l.length ∧ n = (num 0 (l.take k)).length ∧ v = .slice A n c ∧ wr.heap[w1.heap.size]? = some (.stringIter (mkB l) k) ∧ w1.heap.size < wr.heap.size ∧ SlOwn intS wr (w1.heap.size + 1) 3 (.slice A n c) (natI (num 0 (l.take k))) ∧ Below w1.heap.size w1 wr)
      (fun _ _ _ wr => l.length - wr.iterPos w1.heap.size)
    case atStart => exact ⟨0, 0, none, 0, Nat.zero_le _, rfl, rfl, by show (w1.heap.push _)[w1.heap.size]? = _; simp, by simp [World.iter], SlOwn.nil intS _ _ _, (Below.refl _ _).alloc (Nat.le_refl _) _⟩
    case round =>
      obtain ⟨k, n, A, c, hk, hn, rfl, hit, hsz, hown, hbw⟩ := hrel
      have HO := Lib.hid hown
      have HB := Lib.hid hbw
      have HN := Lib.hid hn
      have hpos : wr.iterPos w1.heap.size = k := by simp [World.iterPos, hit]
      have hnr := num_rest HOK.out k hk
      rw [← hn] at hnr
      clear hown hbw hn
      by_cases hlt : k < l.length
      · obtain ⟨x, hx⟩ : ∃ x, l[k]? = some x := ⟨_, List.getElem?_eq_getElem (by omega)⟩
        have hlo := word_low HOK.out hx
        have hbx := byte_mk l k x hlt hx
        have hnx := fun ty => Lib.run_next_ascii_at (P := Tryz.prog) wr w1.heap.size (mkB l) k ty hit hlt (by rw [hbx]; exact hlo)
        rw [hbx] at hnx
        have hit2 := Lib.iterAt_heap wr w1.heap.size (mkB l) k (k + 1) hit
        have hb2 := Lib.below_iterAt HB.out (Nat.le_refl _) (mkB l) (k + 1)
        have hs2 := Lib.iterAt_size wr w1.heap.size (mkB l) (k + 1)
        have hb3 : Below (w1.heap.size + 1) wr (wr.iterAt w1.heap.size (mkB l) (k + 1)) → True := fun _ => trivial
        have ho2 : SlOwn intS (wr.iterAt w1.heap.size (mkB l) (k + 1)) (w1.heap.size + 1) 3 (.slice A n c) (natI (num 0 (l.take k))) := by
          refine ⟨HO.out.1, ?_⟩
          rcases HO.out.2 with h' | ⟨g', cap, cur, hv, hgb, hrow, rest⟩
          · exact .inl h'
          · refine .inr ⟨g', cap, cur, hv, hgb, ?_, rest⟩
            rw [Lib.iterAt_other _ _ _ _ _ (by omega)]
            exact hrow
        have hts := take_snoc l hx
        have hnu := num_snoc (l.take k) x 0
        rw [← hts] at hnu
        obtain ⟨q, hq⟩ : ∃ q, (l.take k).count 114 = q := ⟨_, rfl⟩
        rw [hq] at hnu hnr
        have hxx := okW_at HOK.out (List.mem_of_getElem? hx)
        have HIT := Lib.hid hit2
        have HB2 := Lib.hid hb2
        have HO2 := Lib.hid ho2
        clear hx hbx hit hit2 hb2 hb3 ho2 hts hq hlo
        rcases hxx with rfl | rfl
        · have HS : Hid (num 0 (l.take (k + 1)) = num 0 (l.take k) ++ [q]) := Lib.hid (by rw [hnu, if_neg (by decide), Nat.zero_add])
          have hkq : (k : Int) - n = q := by omega
          clear hnu
          go_wp2_with (at_builtin; go_must (refine wpList_append_slsv intS _ rfl _ _ 29 rfl (w1.heap.size + 1) 3 i0 _ 8 Tryz.underlying29 hi hz0 hz1 hz2 rfl (by decide) (.slice A n c) (natI (num 0 (l.take k))) rfl (HO2.out.allocW _) _ 1 1 [(q : Int)] rfl rfl (slAt_oneW (heap_new hs2)) (by rw [natI_len, ← HN.out, List.length_singleton]; omega) (by simp [hs2]; omega) ?_); intro A8 n8 c8 w8 hn8 ho8 hb8; obtain rfl : n8 = n + 1 := (by rw [hn8, List.length_append, natI_len, ← HN.out]; rfl); have HO8 := Lib.hid ho8; have HB8 := Lib.hid (((Below.refl (w1.heap.size + 1) _).alloc (by rw [hs2]; omega) _).trans hb8); clear hn8 ho8 hb8)
          have HIT8 : Hid (w8.heap[w1.heap.size]? = some (.stringIter (mkB l) (k + 1))) := Lib.hid ((HB8.out.block _ (by omega)).trans HIT.out)
          have hs8 := HB8.out.size
          rw [hs2] at hs8
          go_roundw
          case rel => exact ⟨k + 1, n + 1, A8, c8, by omega, by rw [HS.out, List.length_append, ← HN.out]; rfl, rfl, HIT8.out, by omega, by rw [HS.out, natI_snoc]; exact HO8.out, HB2.out.trans (HB8.out.mono (by omega))⟩
          case measure => rw [hpos]; simp only [World.iterPos, HIT8.out]; omega
        · have HS : Hid (num 0 (l.take (k + 1)) = num 0 (l.take k)) := Lib.hid (by rw [hnu, if_pos rfl]; simp)
          clear hnu
          go_wp2
          go_roundw
          case rel => exact ⟨k + 1, n, A, c, by omega, by rw [HS.out, ← HN.out], rfl, HIT.out, by rw [hs2]; exact hsz, by rw [HS.out]; exact HO2.out, HB2.out⟩
          case measure => rw [hpos]; simp only [World.iterPos, HIT.out]; omega
      · have hke : Hid (k = l.length) := Lib.hid (by omega)
        have hnx := fun ty => Lib.run_next_end_at (P := Tryz.prog) wr w1.heap.size (mkB l) k ty hit (by rw [hz]; omega)
        rw [hke.out, List.take_length] at HO HN
        go_wp2
        go_ret2
        exact ⟨A, n, c, rfl, by rw [HN.out]; exact (natI_len _).symm, own_baseW HO.out (by omega), HB1.out.trans (HB.out.mono hs01)⟩

set_option maxHeartbeats 4000000 in
set_option maxRecDepth 100000 in
theorem implOtherSide_any (l : List UInt8) (hl : l.length ≤ 1048576) (w : World) :
    Calls Tryz.prog 18 #[.string (mkB l)] w fun e w' => e = .returned (.tuple #[.string (strR (okW l) (oth l)), .bool (okW l)]) ∧ Below w.heap.size w w' := by
  have HG := Lib.hid (fun W => isWord_any (mkB l) hl W)
  rw [mkB_data] at HG
  cases hok : okW l with
  | false =>
    rw [hok] at HG
    go_enter Tryz.func18, Tryz.ntmps18
    go_wp2_with fail
    refine (HG.out _).mono ?_
    rintro e w1 ⟨rfl, hb1⟩
    go_wp2
    go_ret2
    exact ⟨rfl, hb1⟩
  | true =>
    have h14 := okW_len hok
    have hz : (mkB l).size = l.length := rfl
    have HOK := Lib.hid hok
    rw [hok] at HG
    clear hok
    go_enter Tryz.func18, Tryz.ntmps18
    go_wp2_with fail
    refine (HG.out _).mono ?_
    rintro e w1 ⟨rfl, hb1⟩
    have HB1 := Lib.hid hb1
    have hs01 := hb1.size
    clear hb1
    go_wp2
    go_loopw [4, 6] (fun v _ wr => ∃ k : Nat, k ≤ l.length ∧ v = .string (mkB (oth (l.take k))) ∧ wr.heap[w1.heap.size]? = some (.stringIter (mkB l) k) ∧ w1.heap.size < wr.heap.size ∧ Below w1.heap.size w1 wr)
      (fun _ _ wr => l.length - wr.iterPos w1.heap.size)
    case atStart => exact ⟨0, Nat.zero_le _, rfl, by show (w1.heap.push _)[w1.heap.size]? = _; simp, by simp [World.iter], (Below.refl _ _).alloc (Nat.le_refl _) _⟩
    case round =>
      obtain ⟨k, hk, rfl, hit, hsz, hbw⟩ := hrel
      have HB := Lib.hid hbw
      have hpos : wr.iterPos w1.heap.size = k := by simp [World.iterPos, hit]
      clear hbw
      by_cases hlt : k < l.length
      · obtain ⟨x, hx⟩ : ∃ x, l[k]? = some x := ⟨_, List.getElem?_eq_getElem (by omega)⟩
        have hlo := word_low HOK.out hx
        have hbx := byte_mk l k x hlt hx
        have hnx := fun ty => Lib.run_next_ascii_at (P := Tryz.prog) wr w1.heap.size (mkB l) k ty hit hlt (by rw [hbx]; exact hlo)
        rw [hbx] at hnx
        have hit2 := Lib.iterAt_heap wr w1.heap.size (mkB l) k (k + 1) hit
        have hb2 := Lib.below_iterAt HB.out (Nat.le_refl _) (mkB l) (k + 1)
        have hs2 := Lib.iterAt_size wr w1.heap.size (mkB l) (k + 1)
        have hts := take_snoc l hx
        have hos : mkB (oth (l.take (k + 1))) = mkB [othB x] ++ mkB (oth (l.take k)) := by rw [hts, oth_snoc, mkB_append]; rfl
        have hzo : (mkB (oth (l.take k))).size ≤ 14 := by rw [mkB_size]; unfold oth; simp; omega
        have hxx := okW_at HOK.out (List.mem_of_getElem? hx)
        have HIT := Lib.hid hit2
        have HB2 := Lib.hid hb2
        clear hx hbx hit hit2 hb2 hts hlo
        rcases hxx with rfl | rfl
        · have HS : Hid (⟨#[114]⟩ ++ mkB (oth (l.take k)) = mkB (oth (l.take (k + 1)))) := Lib.hid (by rw [hos]; rfl)
          have hz1 : (⟨#[114]⟩ : ByteArray).size = 1 := rfl
          clear hos
          generalize mkB (oth (l.take k)) = s at *
          go_wp2
          go_roundw
          case rel => exact ⟨k + 1, by omega, by rw [← HS.out], HIT.out, by rw [hs2]; exact hsz, HB2.out⟩
          case measure => rw [hpos]; simp only [World.iterPos, HIT.out]; omega
        · have HS : Hid (⟨#[108]⟩ ++ mkB (oth (l.take k)) = mkB (oth (l.take (k + 1)))) := Lib.hid (by rw [hos]; rfl)
          have hz1 : (⟨#[108]⟩ : ByteArray).size = 1 := rfl
          clear hos
          generalize mkB (oth (l.take k)) = s at *
          go_wp2
          go_roundw
          case rel => exact ⟨k + 1, by omega, by rw [← HS.out], HIT.out, by rw [hs2]; exact hsz, HB2.out⟩
          case measure => rw [hpos]; simp only [World.iterPos, HIT.out]; omega
      · have hke : Hid (k = l.length) := Lib.hid (by omega)
        have hnx := fun ty => Lib.run_next_end_at (P := Tryz.prog) wr w1.heap.size (mkB l) k ty hit (by rw [hz]; omega)
        go_wp2
        go_ret2
        exact ⟨by rw [hke.out, List.take_length]; rfl, HB1.out.trans (HB.out.mono hs01)⟩

theorem sumR_take (o : Bool) (m : List Nat) {k : Nat} {x : Int} (h : (lstR o (natI m))[k]? = some x) : ((if o then m else []).take (k + 1)).sum = ((if o then m else []).take k).sum + x.toNat ∧ 0 ≤ x ∧ x.toNat ∈ m := by
  cases o with
  | false => simp [lstR] at h
  | true =>
    have h1 : (natI m)[k]? = some x := h
    unfold natI at h1
    rw [List.getElem?_map] at h1
    obtain ⟨y, hy, rfl⟩ := Option.map_eq_some_iff.1 h1
    refine ⟨?_, by omega, ?_⟩
    · show (m.take (k + 1)).sum = (m.take k).sum + _
      rw [sum_take hy]; simp
    · have := List.mem_of_getElem? hy; simpa using this
set_option maxHeartbeats 4000000 in
set_option maxRecDepth 100000 in
theorem implMeetingsOfWord_any (l : List UInt8) (hl : l.length ≤ 1048576) (w : World) :
    Calls Tryz.prog 14 #[.string (mkB l)] w fun e w' => e = .returned (.tuple #[.int .i64 (intR (okW l) (invW l)), .bool (okW l)]) ∧ Below w.heap.size w w' := by
  have HF := Lib.hid (fun W => implNumbersOfWord_any l hl W)
  have hlen : (lstR (okW l) (natI (num 0 l))).length ≤ 14 := by
    cases hok : okW l with
    | false => exact Nat.zero_le 14
    | true =>
      have := okW_len hok
      have := num_len_le l 0
      show (natI (num 0 l)).length ≤ 14
      rw [natI_len]; omega
  have hval : ∀ (k : Nat) (x : Int), (lstR (okW l) (natI (num 0 l)))[k]? = some x → 0 ≤ x ∧ x ≤ 14 := by
    intro k x hx
    cases hok : okW l with
    | false => rw [hok] at hx; simp [lstR] at hx
    | true =>
      have := okW_len hok
      obtain ⟨_, h2, h3⟩ := sumR_take _ _ hx
      have := num_le l 0 _ h3
      omega
  have hst := fun (k : Nat) (x : Int) (h : (lstR (okW l) (natI (num 0 l)))[k]? = some x) => (sumR_take _ _ h).1
  have hend : ((if okW l then num 0 l else []).take (lstR (okW l) (natI (num 0 l))).length).sum = (intR (okW l) (invW l)).toNat ∧ 0 ≤ intR (okW l) (invW l) := by
    cases okW l with
    | false => exact ⟨rfl, Int.le_refl 0⟩
    | true =>
      refine ⟨?_, by show (0 : Int) ≤ (invW l : Nat); omega⟩
      show ((num 0 l).take (natI (num 0 l)).length).sum = _
      rw [natI_len, List.take_length]
      show invW l = ((invW l : Nat) : Int).toNat
      omega
  have hsb : ∀ k, ((if okW l then num 0 l else []).take k).sum ≤ 196 := by
    intro k
    cases hok : okW l with
    | false => simp
    | true =>
      have h14 := okW_len hok
      have h1 := num_len_le l 0
      have h2 := sum_take_le (num 0 l) 14 (fun x hx => by have := num_le l 0 x hx; omega) k
      have h3 : (num 0 l).length * 14 ≤ 14 * 14 := Nat.mul_le_mul_right _ (by omega)
      show ((num 0 l).take k).sum ≤ 196
      omega
  have HST := Lib.hid hst
  have HEND := Lib.hid hend
  clear hst hend
  generalize (if okW l then num 0 l else []) = m at *
  generalize lstR (okW l) (natI (num 0 l)) = Y at *
  generalize intR (okW l) (invW l) = q at *
  generalize okW l = o at *
  go_enter Tryz.func14, Tryz.ntmps14
  go_wp2_with fail
  refine (HF.out _).mono ?_
  rintro e w1 ⟨A, n, c, rfl, rfl, ho, hb1⟩
  have HA := Lib.hid ho.sl
  have HB1 := Lib.hid hb1
  clear ho hb1
  go_wp2
  go_loopw [6, 8, 16] (fun s _ i wr => ∃ k : Nat, k ≤ Y.length ∧ i = .int .i64 k ∧ s = .int .i64 ((m.take k).sum : Nat) ∧ wr = w1)
    (fun _ _ i _ => Y.length - (intOf i).toNat)
  case atStart => exact ⟨0, Nat.zero_le _, rfl, rfl, rfl⟩
  case round =>
    obtain ⟨k, hk, rfl, rfl, rfl⟩ := hrel
    have hsk := hsb k
    by_cases hlt : k < Y.length
    · obtain ⟨x, hxk⟩ : ∃ x, Y[k]? = some x := ⟨_, List.getElem?_eq_getElem (by omega)⟩
      obtain ⟨hx0, hx1⟩ := hval k x hxk
      obtain ⟨b, off, hAe, hlt2, hc⟩ := HA.out.int_at (k := k) hlt
      subst hAe
      have a0 := hc k _ hxk
      have HT := Lib.hid (HST.out k x hxk)
      clear hxk hc
      generalize (m.take k).sum = s at *
      go_wp2
      go_roundw
      case rel => exact ⟨k + 1, by omega, by go_num, by rw [HT.out]; go_num, trivial⟩
      case measure => simp [intOf]; omega
    · have hke : Hid (k = Y.length) := Lib.hid (by omega)
      go_wp2
      go_ret2
      exact ⟨by have h1 := HEND.out.1; have h2 := HEND.out.2; rw [hke.out, h1, Int.toNat_of_nonneg h2]; rfl, HB1.out⟩
end Go.Proofs.YtgdgaldgieiokaaGreatDoor
