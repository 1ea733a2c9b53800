/- Words: WordOfNumbers, both sides. -/
import Derived.Test.YtohfkikdcoefcaaWoP
namespace Go.Proofs.Ytohfkikdcoefcaa
open Go.RowKit

/-- the word of numbers, from so many r on -/
def wonR (b R : Int) : List Int → Option (List UInt8)
  | [] => some (List.replicate (R - b).toNat 114)
  | n :: t => if n < b ∨ R < n then none else (wonR n R t).map fun u => List.replicate (n - b).toNat 114 ++ 108 :: u
def wnOk (l : List Int) (R : Int) : Bool := decide (l.length ≤ 7) && (decide (0 ≤ R) && decide (R ≤ 7)) && (wonR 0 R l).isSome
def wnV (l : List Int) (R : Int) : List UInt8 := (wonR 0 R l).getD []
theorem won_in {R : Int} : ∀ (l : List Int) (b : Int), (wonR b R l).isSome = true → ∀ n ∈ l, b ≤ n ∧ n ≤ R := by
  intro l
  induction l with
  | nil => intro b _ n hn; cases hn
  | cons x t ih =>
    intro b h n hn
    rw [wonR] at h
    by_cases hx : x < b ∨ R < x
    · rw [if_pos hx] at h; cases h
    · rw [if_neg hx, Option.isSome_map] at h
      rcases List.mem_cons.1 hn with rfl | hn
      · omega
      · have := ih x h n hn; omega
/-- how far the numbers are read -/
def WonAt (l : List Int) (R : Int) (k : Nat) (p : List UInt8) (now : Int) : Prop := wonR 0 R l = (wonR now R (l.drop k)).map (p ++ ·)
theorem won_start (l : List Int) (R : Int) : WonAt l R 0 [] 0 := by
  unfold WonAt
  rw [List.drop_zero]
  cases wonR 0 R l <;> rfl
theorem dropI {l : List Int} {k : Nat} {x : Int} (h : l[k]? = some x) : l.drop k = x :: l.drop (k + 1) := by
  obtain ⟨hk, rfl⟩ := List.getElem?_eq_some_iff.1 h
  exact List.drop_eq_getElem_cons hk
theorem won_step {l : List Int} {R : Int} {k : Nat} {p : List UInt8} {now x : Int} (h : WonAt l R k p now) (hx : l[k]? = some x) (h1 : now ≤ x) (h2 : x ≤ R) : WonAt l R (k + 1) (p ++ (List.replicate (x - now).toNat 114 ++ [108])) x := by
  unfold WonAt at h ⊢
  rw [h, dropI hx, wonR, if_neg (by omega), Option.map_map]
  congr 1
  funext u
  simp
theorem won_fail {l : List Int} {R : Int} {k : Nat} {p : List UInt8} {now x : Int} (h : WonAt l R k p now) (hx : l[k]? = some x) (h1 : x < now ∨ R < x) : wonR 0 R l = none := by
  unfold WonAt at h
  rw [h, dropI hx, wonR, if_pos h1]; rfl
theorem won_end {l : List Int} {R : Int} {p : List UInt8} {now : Int} (h : WonAt l R l.length p now) : wonR 0 R l = some (p ++ List.replicate (R - now).toNat 114) := by
  unfold WonAt at h
  rw [h, List.drop_length, wonR]; rfl

set_option maxHeartbeats 1000000 in
theorem l1All_any (A : Option Addr) (c : Nat) (l : List Int) (lo hi : Int) (w : World) (hn : l.length ≤ 1048576) (hA : SlAt intS w A l) :
    Calls Try.prog 18 #[.slice A l.length c, .int .i64 lo, .int .i64 hi] w fun e w' => e = .returned (.bool (l.all fun n => decide (lo ≤ n) && decide (n ≤ hi))) ∧ w' = w := by
  have HA := Lib.hid hA
  clear hA
  obtain ⟨f, hf⟩ : ∃ f : Int → Bool, f = fun n => decide (lo ≤ n) && decide (n ≤ hi) := ⟨_, rfl⟩
  have HI : Hid (∀ (n : Int) (W : World), Calls Try.prog 17 #[.int .i64 n, .int .i64 lo, .int .i64 hi] W fun e w' => e = .returned (.bool (f n)) ∧ w' = W) := Lib.hid fun n W => in_at n lo hi (f n) (by rw [hf]) W
  rw [← hf]
  clear hf
  go_enter Try.func18, Try.ntmps18
  go_wp2
  go_loopw [8, 11] (fun _ i wr => ∃ k : Nat, k ≤ l.length ∧ i = .int .i64 k ∧ (l.take k).all f = true ∧ wr = w)
    (fun _ i _ => l.length - (intOf i).toNat)
  case atStart => exact ⟨0, Nat.zero_le _, rfl, rfl, rfl⟩
  case round =>
    obtain ⟨k, hk, rfl, hall, rfl⟩ := hrel
    have HALL := Lib.hid hall
    clear hall
    by_cases hlt : k < l.length
    · obtain ⟨x, hx⟩ : ∃ x, l[k]? = some x := ⟨_, List.getElem?_eq_getElem hlt⟩
      obtain ⟨b, off, rfl, l0, hc⟩ := HA.out.int_at hlt
      have a0 := hc k _ hx
      have HX := Lib.hid hx
      clear hc hx
      have HIX := Lib.hid (fun W => HI.out x W)
      cases hfx : f x with
      | true =>
        rw [hfx] at HIX
        have HY : Hid ((l.take (k + 1)).all f = true) := Lib.hid (by rw [List.take_add_one, HX.out, List.all_append, HALL.out]; simp [hfx])
        go_wp2_with fail
        refine (HIX.out _).mono ?_
        rintro e w2 ⟨rfl, rfl⟩
        go_wp2
        go_roundw
        case rel => exact ⟨k + 1, by omega, by go_num, HY.out, trivial⟩
        case measure => simp [intOf]; omega
      | false =>
        rw [hfx] at HIX
        have HN : Hid (l.all f = false) := Lib.hid (by
          rw [Bool.eq_false_iff]; intro h
          have := List.all_eq_true.1 h x (List.mem_of_getElem? HX.out)
          rw [hfx] at this; cases this)
        go_wp2_with fail
        refine (HIX.out _).mono ?_
        rintro e w2 ⟨rfl, rfl⟩
        go_wp2
        go_ret
        exact ⟨ret_bool HN.out.symm, rfl⟩
    · have HV : Hid (l.all f = true) := Lib.hid (by have := HALL.out; rw [List.take_of_length_le (by omega)] at this; exact this)
      go_wp2
      go_ret
      exact ⟨ret_bool HV.out.symm, rfl⟩

/-- one number more, in memory's words -/
theorem won_text (p : List UInt8) (m : Nat) : mkB p ++ (mkB (List.replicate m 114) ++ (⟨#[108]⟩ : ByteArray)) = mkB (p ++ (List.replicate m 114 ++ [108])) := by
  rw [show (⟨#[108]⟩ : ByteArray) = mkB [108] from rfl, mkB_append, mkB_append]
set_option maxHeartbeats 4000000 in
set_option maxRecDepth 100000 in
theorem implWordOfNumbers_any (A : Option Addr) (c : Nat) (l : List Int) (R : Int) (w : World) (hn : (l.length : Int) ≤ 1048576) (hA : SlAt intS w A l) :
    Calls Try.prog 8 #[.slice A l.length c, .int .i64 R] w fun e w' => e = .returned (.tuple #[.string (strP (wnOk l R) (wnV l R)), .bool (wnOk l R)]) ∧ Below w.heap.size w w' := by
  have HA := Lib.hid hA
  clear hA
  have H1 := Lib.hid (fun W => areSigns_any (l.length : Int) R 7 W)
  cases ht : twoB (l.length : Int) R 7 with
  | false =>
    rw [ht] at H1
    have HN : Hid (wnOk l R = false) := Lib.hid (by
      unfold wnOk
      rw [Bool.eq_false_iff]; intro h
      rw [Bool.and_eq_true, Bool.and_eq_true, Bool.and_eq_true] at h
      have h1 := of_decide_eq_true h.1.1
      have h2 := of_decide_eq_true h.1.2.1
      have h3 := of_decide_eq_true h.1.2.2
      rw [(twoB_iff _ _ _).2 ⟨by omega, by omega, by omega, by omega⟩] at ht
      cases ht)
    go_enter Try.func8, Try.ntmps8
    go_wp2_with fail
    refine (H1.out _).mono ?_
    rintro e w1 ⟨rfl, rfl⟩
    go_wp2
    go_ret2
    exact ⟨by rw [HN.out]; rfl, Below.refl _ _⟩
  | true =>
    rw [ht] at H1
    obtain ⟨b1, b2, b3, b4⟩ := (twoB_iff _ _ _).1 ht
    have HOK : Hid (wnOk l R = (wonR 0 R l).isSome) := Lib.hid (by
      unfold wnOk
      rw [decide_eq_true (by omega : l.length ≤ 7), decide_eq_true b3, decide_eq_true b4]; rfl)
    have hTb : l.length ≤ 7 := by omega
    clear ht
    go_enter Try.func8, Try.ntmps8
    go_wp2_with fail
    refine (H1.out _).mono ?_
    rintro e w1 ⟨rfl, rfl⟩
    go_wp2
    go_loopw [6, 7, 9, 17] (fun s nw _ i wr => ∃ (k : Nat) (p : List UInt8) (now : Nat), k ≤ l.length ∧ i = .int .i64 k ∧ s = .string (mkB p) ∧ nw = .int .i64 now ∧ (now : Int) ≤ R ∧ p.length ≤ k * 8 ∧ WonAt l R k p now ∧ Below w1.heap.size w1 wr)
      (fun _ _ _ i _ => l.length - (intOf i).toNat)
    case atStart => exact ⟨0, [], 0, Nat.zero_le _, rfl, rfl, rfl, by omega, Nat.le_refl _, won_start l R, Below.refl _ _⟩
    case round =>
      obtain ⟨k, p, now, hk, rfl, rfl, rfl, hnow, hpl, hw, hb⟩ := hrel
      have HW := Lib.hid hw
      have HB := Lib.hid hb
      have HAr := Lib.hid (HA.out.below hb)
      have hsz := hb.size
      have hzp : (mkB p).size ≤ 56 := by rw [mkB_size]; omega
      clear hw hb
      by_cases hlt : k < l.length
      · obtain ⟨x, hx⟩ : ∃ x, l[k]? = some x := ⟨_, List.getElem?_eq_getElem hlt⟩
        obtain ⟨b, off, rfl, l0, hc⟩ := HAr.out.int_at hlt
        have a0 := hc k _ hx
        have HX := Lib.hid hx
        clear hc hx
        by_cases g1 : x < now
        · have HF : Hid (wnOk l R = false) := Lib.hid (by rw [HOK.out, won_fail HW.out HX.out (.inl g1)]; rfl)
          go_wp2
          go_ret2
          exact ⟨by rw [HF.out]; rfl, HB.out⟩
        · by_cases g2 : R < x
          · have HF : Hid (wnOk l R = false) := Lib.hid (by rw [HOK.out, won_fail HW.out HX.out (.inr g2)]; rfl)
            go_wp2
            go_ret2
            exact ⟨by rw [HF.out]; rfl, HB.out⟩
          · obtain ⟨y, rfl⟩ : ∃ y : Nat, x = y := ⟨x.toNat, by omega⟩
            obtain ⟨m, hm⟩ : ∃ m : Nat, (y : Int) - now = m := ⟨((y : Int) - now).toNat, by omega⟩
            have hmn : ((y : Int) - now).toNat = m := by omega
            have HS := Lib.hid (won_step HW.out HX.out (by omega) (by omega))
            rw [hmn] at HS
            have HRP := Lib.hid (fun W => repeat_any 114 m (by omega) W)
            have HT := Lib.hid (won_text p m)
            have hzm : (mkB (List.replicate m 114)).size ≤ 7 := by rw [mkB_size, List.length_replicate]; omega
            have hzl : (⟨#[108]⟩ : ByteArray).size = 1 := rfl
            have hpl2 : (p ++ (List.replicate m 114 ++ [108])).length ≤ (k + 1) * 8 := by rw [List.length_append, List.length_append, List.length_replicate, List.length_singleton]; omega
            generalize mkB (List.replicate m 114) = t at *
            have f1 : ¬ 9223372036854775807 < t.size + 1 := by omega
            have f2 : ¬ 9223372036854775807 < (mkB p).size + (t.size + 1) := by omega
            clear hmn
            go_wp2_with fail
            refine (HRP.out _).mono ?_
            rintro e w5 ⟨rfl, hb5⟩
            have HB5 := Lib.hid (HB.out.trans (hb5.mono hsz))
            clear hb5
            go_wp2
            go_roundw
            case rel => exact ⟨k + 1, _, y, by omega, by go_num, congrArg Value.string HT.out, rfl, by omega, hpl2, HS.out, HB5.out⟩
            case measure => simp [intOf]; omega
      · have hke : k = l.length := by omega
        have hend : wonR 0 R l = some (p ++ List.replicate (R - now).toNat 114) := won_end (by have := HW.out; rw [hke] at this; exact this)
        obtain ⟨m, hm⟩ : ∃ m : Nat, R - (now : Int) = m := ⟨(R - now).toNat, by omega⟩
        rw [show (R - (now : Int)).toNat = m by omega] at hend
        have HV : Hid (wnOk l R = true ∧ wnV l R = p ++ List.replicate m 114) := Lib.hid ⟨by rw [HOK.out, hend]; rfl, by unfold wnV; rw [hend]; rfl⟩
        have HRP := Lib.hid (fun W => repeat_any 114 m (by omega) W)
        have HC : Hid (mkB p ++ mkB (List.replicate m 114) = mkB (p ++ List.replicate m 114)) := Lib.hid (mkB_append _ _)
        have hzm : (mkB (List.replicate m 114)).size ≤ 7 := by rw [mkB_size, List.length_replicate]; omega
        generalize mkB (List.replicate m 114) = t at *
        have f1 : ¬ 9223372036854775807 < (mkB p).size + t.size := by omega
        clear hend hke
        go_wp2_with fail
        refine (HRP.out _).mono ?_
        rintro e w5 ⟨rfl, hb5⟩
        have HB5 := Lib.hid (HB.out.trans (hb5.mono hsz))
        clear hb5
        go_wp2
        go_ret2
        exact ⟨by rw [HV.out.1, HV.out.2, HC.out]; rfl, HB5.out⟩

set_option maxHeartbeats 4000000 in
set_option maxRecDepth 100000 in
theorem specWordOfNumbers_any (A : Option Addr) (c : Nat) (l : List Int) (R : Int) (w : World) (hn : (l.length : Int) ≤ 1048576) (hA : SlAt intS w A l) :
    Calls Try.prog 6 #[.slice A l.length c, .int .i64 R] w fun e w' => e = .returned (.tuple #[.string (strP (wnOk l R) (wnV l R)), .bool (wnOk l R)]) ∧ Below w.heap.size w w' := by
  have HA := Lib.hid hA
  clear hA
  obtain ⟨r1, hr1⟩ : ∃ r, (decide (0 ≤ R) && decide (R ≤ 7)) = r := ⟨_, rfl⟩
  have H1 := Lib.hid (fun W => in_at R 0 7 r1 hr1 W)
  have H2 := Lib.hid (fun W h => l1All_any A c l 0 R W (by omega) h)
  cases r1 with
  | false =>
    have HN : Hid (wnOk l R = false) := Lib.hid (by unfold wnOk; rw [hr1, Bool.and_false]; rfl)
    clear hr1
    go_enter Try.func6, Try.ntmps6
    go_wp2_with fail
    refine (H1.out _).mono ?_
    rintro e w1 ⟨rfl, rfl⟩
    go_wp2
    go_ret2
    exact ⟨by rw [HN.out]; rfl, Below.refl _ _⟩
  | true =>
    have hrr := hr1
    rw [Bool.and_eq_true] at hrr
    have b3 := of_decide_eq_true hrr.1
    have b4 := of_decide_eq_true hrr.2
    clear hrr
    by_cases h7 : l.length ≤ 7
    · have HOK : Hid (wnOk l R = (wonR 0 R l).isSome) := Lib.hid (by
        unfold wnOk
        rw [decide_eq_true h7, hr1]; rfl)
      have n7 : ¬ (7 : Int) < l.length := by omega
      clear hr1
      cases hall : (l.all fun n => decide (0 ≤ n) && decide (n ≤ R)) with
      | false =>
        rw [hall] at H2
        have HN : Hid (wnOk l R = false) := Lib.hid (by
          rw [HOK.out, Bool.eq_false_iff]; intro h
          have h2 : (l.all fun n => decide (0 ≤ n) && decide (n ≤ R)) = true := List.all_eq_true.2 fun n hn => by
            have := won_in l 0 h n hn
            rw [Bool.and_eq_true]; exact ⟨decide_eq_true this.1, decide_eq_true this.2⟩
          rw [h2] at hall; cases hall)
        clear hall
        go_enter Try.func6, Try.ntmps6
        go_wp2_with fail
        refine (H1.out _).mono ?_
        rintro e w1 ⟨rfl, rfl⟩
        go_wp2_with fail
        refine (H2.out _ HA.out).mono ?_
        rintro e w2 ⟨rfl, rfl⟩
        go_wp2
        go_ret2
        exact ⟨by rw [HN.out]; rfl, Below.refl _ _⟩
      | true =>
        rw [hall] at H2
        have HALL : Hid (∀ n ∈ l, 0 ≤ n ∧ n ≤ R) := Lib.hid fun n hn => by
          have := List.all_eq_true.1 hall n hn
          rw [Bool.and_eq_true] at this
          exact ⟨of_decide_eq_true this.1, of_decide_eq_true this.2⟩
        clear hall
        go_enter Try.func6, Try.ntmps6
        go_wp2_with fail
        refine (H1.out _).mono ?_
        rintro e w1 ⟨rfl, rfl⟩
        go_wp2_with fail
        refine (H2.out _ HA.out).mono ?_
        rintro e w2 ⟨rfl, rfl⟩
        go_wp2
        go_loopw [6, 7, 8, 9, 26] (fun s nw _ _ i wr => ∃ (k : Nat) (p : List UInt8) (now : Nat), k ≤ l.length ∧ i = .int .i64 k ∧ s = .string (mkB p) ∧ nw = .int .i64 now ∧ (now : Int) ≤ R ∧ p.length ≤ k * 8 ∧ WonAt l R k p now ∧ (k = 0 → now = 0) ∧ (0 < k → l[k - 1]? = some (now : Int)) ∧ wr = w2)
          (fun _ _ _ _ i _ => l.length - (intOf i).toNat)
        case atStart => exact ⟨0, [], 0, Nat.zero_le _, rfl, rfl, rfl, by omega, Nat.le_refl _, won_start l R, fun _ => rfl, fun h => by omega, rfl⟩
        case round =>
          obtain ⟨k, p, now, hk, rfl, rfl, rfl, hnow, hpl, hw, hz0, hz1, rfl⟩ := hrel
          have HW := Lib.hid hw
          have HZ0 := Lib.hid hz0
          have HZ1 := Lib.hid hz1
          have hzp : (mkB p).size ≤ 56 := by rw [mkB_size]; omega
          clear hw hz0 hz1
          by_cases hlt : k < l.length
          · obtain ⟨x, hx⟩ : ∃ x, l[k]? = some x := ⟨_, List.getElem?_eq_getElem hlt⟩
            obtain ⟨b, off, rfl, l0, hc⟩ := HA.out.int_at hlt
            have a0 := hc k _ hx
            obtain ⟨hx0, hx1⟩ := HALL.out x (List.mem_of_getElem? hx)
            have HX := Lib.hid hx
            clear hx
            obtain ⟨y, rfl⟩ : ∃ y : Nat, x = y := ⟨x.toNat, by omega⟩
            by_cases g1 : y < now
            · have hkp : 0 < k := by
                rcases Nat.eq_zero_or_pos k with h | h
                · have := HZ0.out h; omega
                · exact h
              have a1 := hc (k - 1) _ (HZ1.out hkp)
              have HF : Hid (wnOk l R = false) := Lib.hid (by rw [HOK.out, won_fail HW.out HX.out (.inl (by omega))]; rfl)
              have j1 : (k : Int) - 1 = ((k - 1 : Nat) : Int) := by omega
              have j2 : (0 : Int) < k := by omega
              have j3 : ((k - 1 : Nat) : Int) < l.length := by omega
              have j4 : (y : Int) < now := by omega
              clear hc
              go_wp2
              go_ret2
              exact ⟨by rw [HF.out]; rfl, Below.refl _ _⟩
            · obtain ⟨m, hm⟩ : ∃ m : Nat, (y : Int) - now = m := ⟨((y : Int) - now).toNat, by omega⟩
              have hmn : ((y : Int) - now).toNat = m := by omega
              have HS := Lib.hid (won_step HW.out HX.out (by omega) (by omega))
              rw [hmn] at HS
              have HRP : Hid (∀ W, Calls Try.prog 19 #[.string ⟨#[114]⟩, .int .i64 m] W fun e w' => e = .returned (.string (mkB (List.replicate m 114))) ∧ w' = W) := Lib.hid fun W => woTimes_any 114 (m : Int) (by omega) W
              have HT := Lib.hid (won_text p m)
              have hzm : (mkB (List.replicate m 114)).size ≤ 7 := by rw [mkB_size, List.length_replicate]; omega
              have hzl : (⟨#[108]⟩ : ByteArray).size = 1 := rfl
              have hpl2 : (p ++ (List.replicate m 114 ++ [108])).length ≤ (k + 1) * 8 := by rw [List.length_append, List.length_append, List.length_replicate, List.length_singleton]; omega
              generalize mkB (List.replicate m 114) = t at *
              have f1 : ¬ 9223372036854775807 < t.size + 1 := by omega
              have f2 : ¬ 9223372036854775807 < (mkB p).size + (t.size + 1) := by omega
              clear hmn
              by_cases hk0 : k = 0
              · subst hk0
                rw [Nat.add_zero] at a0
                clear hc
                go_wp2_with fail
                refine (HRP.out _).mono ?_
                rintro e w5 ⟨rfl, rfl⟩
                go_wp2
                go_roundw
                case rel => exact ⟨1, _, y, by omega, rfl, congrArg Value.string HT.out, rfl, by omega, hpl2, HS.out, fun h => by omega, fun _ => HX.out, trivial⟩
                case measure => simp [intOf]; omega
              · have a1 := hc (k - 1) _ (HZ1.out (by omega))
                have j1 : (k : Int) - 1 = ((k - 1 : Nat) : Int) := by omega
                have j2 : (0 : Int) < k := by omega
                have j3 : ((k - 1 : Nat) : Int) < l.length := by omega
                have j4 : ¬ (y : Int) < now := by omega
                clear hc
                go_wp2_with fail
                refine (HRP.out _).mono ?_
                rintro e w5 ⟨rfl, rfl⟩
                go_wp2
                go_roundw
                case rel => exact ⟨k + 1, _, y, by omega, by go_num, congrArg Value.string HT.out, rfl, by omega, hpl2, HS.out, fun h => by omega, fun _ => by rw [Nat.add_sub_cancel]; exact HX.out, trivial⟩
                case measure => simp [intOf]; omega
          · have hke : k = l.length := by omega
            have hend : wonR 0 R l = some (p ++ List.replicate (R - now).toNat 114) := won_end (by have := HW.out; rw [hke] at this; exact this)
            obtain ⟨m, hm⟩ : ∃ m : Nat, R - (now : Int) = m := ⟨(R - now).toNat, by omega⟩
            rw [show (R - (now : Int)).toNat = m by omega] at hend
            have HV : Hid (wnOk l R = true ∧ wnV l R = p ++ List.replicate m 114) := Lib.hid ⟨by rw [HOK.out, hend]; rfl, by unfold wnV; rw [hend]; rfl⟩
            have HRP : Hid (∀ W, Calls Try.prog 19 #[.string ⟨#[114]⟩, .int .i64 m] W fun e w' => e = .returned (.string (mkB (List.replicate m 114))) ∧ w' = W) := Lib.hid fun W => woTimes_any 114 (m : Int) (by omega) W
            have HC : Hid (mkB p ++ mkB (List.replicate m 114) = mkB (p ++ List.replicate m 114)) := Lib.hid (mkB_append _ _)
            have hzm : (mkB (List.replicate m 114)).size ≤ 7 := by rw [mkB_size, List.length_replicate]; omega
            generalize mkB (List.replicate m 114) = t at *
            have f1 : ¬ 9223372036854775807 < (mkB p).size + t.size := by omega
            clear hend hke
            go_wp2_with fail
            refine (HRP.out _).mono ?_
            rintro e w5 ⟨rfl, rfl⟩
            go_wp2
            go_ret2
            exact ⟨by rw [HV.out.1, HV.out.2, HC.out]; rfl, Below.refl _ _⟩
    · have HN : Hid (wnOk l R = false) := Lib.hid (by unfold wnOk; rw [decide_eq_false h7, Bool.false_and, Bool.false_and])
      have n7 : (7 : Int) < l.length := by omega
      clear hr1
      go_enter Try.func6, Try.ntmps6
      go_wp2_with fail
      refine (H1.out _).mono ?_
      rintro e w1 ⟨rfl, rfl⟩
      go_wp2
      go_ret2
      exact ⟨by rw [HN.out]; rfl, Below.refl _ _⟩
end Go.Proofs.Ytohfkikdcoefcaa
