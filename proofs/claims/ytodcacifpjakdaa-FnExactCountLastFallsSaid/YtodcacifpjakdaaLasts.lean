/- The last falls of all ways: the program's lastFallsOfAllWays. -/
import Derived.Test.YtodcacifpjakdaaWithMA
import Derived.Test.YtodcacifpjakdaaLast
namespace Go.Proofs.Ytodcacifpjakdaa
open Go.RowKit

/-- how many ways there are -/
def nAll (L : Int) (l : List Int) : Nat := if plB L l then 2 ^ l.length else 0
theorem slAt_oneL {w : World} {g : Nat} {x : Int} {e : TypeId} {m : Nat × Nat} (h : w.heap[g]? = some (.cells #[.int .i64 x] e m)) : SlAt intS w (some ⟨g, 0, none⟩) [x] := by
  refine .inr ⟨g, 0, rfl, (Array.getElem?_eq_some_iff.1 h).1, fun k z hk j hj => ?_⟩
  cases k with
  | succ k => simp at hk
  | zero =>
    simp only [List.getElem?_cons_zero, Option.some.injEq] at hk
    subst hk
    simp only [Nat.zero_mul, Nat.zero_add]
    rw [cell_of_row w g j _ _ _ h, ← Array.getElem?_toList]
    rfl
/-- the last fall of the k-th ways -/
def lfk (L : Int) (l : List Int) (k : Nat) : Int := maxOf (fallsOf L (rdL l (wyN l.length k)))
def lfT (L : Int) (l : List Int) (k : Nat) : List Int := (List.range k).map (lfk L l)
theorem lfT_len (L : Int) (l : List Int) (k : Nat) : (lfT L l k).length = k := by simp [lfT]
theorem lfT_succ (L : Int) (l : List Int) (k : Nat) : lfT L l (k + 1) = lfT L l k ++ [lfk L l k] := by unfold lfT; rw [List.range_succ, List.map_append]; rfl
theorem impLF (L : Int) (l : List Int) (k : Nat) (hp : plB L l = true) (W : World) (A : Option Addr) (c : Nat) (h : SlOwn pairS W 0 62 (.slice A l.length c) (rdL l (wyN l.length k))) :
    Calls Try.prog 30 #[.agg #[.int .i64 L, .slice A l.length c]] W fun e w' => e = .returned (.tuple #[.int .i64 (lfk L l k), .bool true]) ∧ Below W.heap.size W w' := by
  have hg := goodB_rd hp (wyN_len l.length k) (wyN_mem _ _)
  have h2 := implLastFall_any L A c (rdL l (wyN l.length k)) W (slAt_ants h.sl)
  rw [rdL_len l _ (wyN_len _ _)] at h2
  unfold lfV ftV at h2
  rw [hg] at h2
  exact h2

set_option maxRecDepth 100000 in
set_option maxHeartbeats 4000000 in
theorem lastFallsAll_any (L : Int) (A : Option Addr) (c : Nat) (l : List Int) (w : World) (hn : (l.length : Int) ≤ 9223372036854775807) (hA : SlAt intS w A l) :
    Calls Try.prog 20 #[.int .i64 L, .slice A l.length c] w fun e w' => ∃ A' n' c', e = .returned (.tuple #[.slice A' n' c', .bool (plB L l)]) ∧ n' = nAll L l ∧ SlOwn intS w' w.heap.size 3 (.slice A' n' c') (lfT L l n') ∧ Below w.heap.size w w' := by
  obtain ⟨i0, hi, hz0, hz1, hz2⟩ := info_parts intInfo
  have HR := Lib.hid (rodsOfAll_both L A c l w hn hA)
  have HCM := Lib.hid (impLF L l)
  have HL2 : Hid (plB L l = true → l.length ≤ 12) := fun h => ((plB_iff L l).1 h).2.1.2
  clear hA
  go_enter Try.func20, Try.ntmps20
  go_wp2_with fail
  refine HR.out.mono ?_
  rintro e w1 ⟨A1, c1, R, rfl, hl, ho, hr, hb⟩
  have HL := Lib.hid hl
  have HO := Lib.hid ho
  have HRO := Lib.hid hr
  have HB := Lib.hid hb
  have hT : R.length ≤ 4096 := by
    rw [hl]
    split
    · rename_i h
      have h12 := HL2.out h
      have : 2 ^ l.length ≤ 2 ^ 12 := Nat.pow_le_pow_right (by omega) h12
      omega
    · omega
  have HP : Hid (0 < R.length → plB L l = true) := fun h => by
    rw [hl] at h
    cases hp : plB L l with
    | true => rfl
    | false => rw [hp] at h; simp at h
  obtain ⟨T, hTT⟩ : ∃ T, T = R.length := ⟨_, rfl⟩
  obtain ⟨pb, hpb⟩ : ∃ pb, pb = plB L l := ⟨_, rfl⟩
  rw [← hTT] at HO HP hT ⊢
  rw [← hpb]
  have HPB := Lib.hid hpb
  have HT := Lib.hid hTT
  have hs01 := hb.size
  clear hl ho hr hb hTT hpb HR HL2
  go_wp2_with fail
  go_loopw [8, 21] (fun v i wr => ∃ (k : Nat) (A5 : Option Addr) (c5 : Nat), k ≤ T ∧ i = .int .i64 k ∧ v = .slice A5 k c5 ∧ Below w1.heap.size w1 wr ∧ SlOwn intS wr w1.heap.size 3 (.slice A5 k c5) (lfT L l k))
    (fun _ i _ => T - (intOf i).toNat)
  case atStart => exact ⟨0, none, 0, Nat.zero_le _, rfl, rfl, Below.refl _ _, rfl, .inl ⟨rfl, rfl⟩⟩
  case round =>
    obtain ⟨k, A5, c5, hk, rfl, rfl, hbr, hown⟩ := hrel
    have HBr := Lib.hid hbr
    have HOr := Lib.hid hown
    have hsr := hbr.size
    clear hown
    by_cases hlt : k < T
    · have hki : (k : Int) < (T : Int) := by omega
      have hp := HP.out (by omega)
      have hRk : k < R.length := by rw [← HT.out]; exact hlt
      have ho := HO.out
      rw [HT.out] at ho
      obtain ⟨b1, off1, hA1, hlt1, hc⟩ := ho.sl.at_ hRk
      subst hA1
      obtain ⟨e1, e2, e3⟩ := HRO.out k R[k] (List.getElem?_eq_getElem hRk)
      have c0 := hc k _ (List.getElem?_eq_getElem hRk) 0 (by decide)
      have c1' := hc k _ (List.getElem?_eq_getElem hRk) 1 (by decide)
      generalize R[k] = p at *
      obtain ⟨p1, p2, p3, p4⟩ := p
      simp only at e1 e2 e3
      subst e1 e2
      have c0 : w1.cell? ⟨b1, off1 + k * 2, none⟩ = some (.int .i64 p1) := c0
      have c1' : w1.cell? ⟨b1, off1 + k * 2 + 1, none⟩ = some (.slice p2 l.length p4) := c1'
      have c0 := Below.cell_some hbr c0
      have c1' := Below.cell_some hbr c1'
      have HE3 := Lib.hid (e3.below hbr)
      have HCK := Lib.hid (fun W c h => HCM.out k hp W p2 c h)
      have HS := Lib.hid (lfT_succ p1 l k)
      have HLN := Lib.hid (lfT_len p1 l k)
      clear hbr ho hc e3 hp
      generalize lfk p1 l k = q at *
      generalize lfT p1 l k = Y at *
      go_wp2_with fail
      refine (HCK.out _ p4 (HE3.out.below ((Below.refl _ _).alloc (Nat.le_refl _) _))).mono ?_
      rintro e w3 ⟨rfl, hb3⟩
      have HB3 : Hid (Below wr.heap.size wr w3) := ((Below.refl _ wr).alloc (Nat.le_refl _) _).trans (hb3.mono (by simp))
      have HO3 := Lib.hid (HOr.out.below HB3.out)
      have hs3 := HB3.out.size
      clear hb3
      go_wp2_with (at_builtin; go_must (refine wpList_append_slsv intS _ rfl _ _ 22 rfl w1.heap.size 3 i0 _ 8 Try.underlying22 hi hz0 hz1 hz2 rfl (by decide) (.slice A5 k c5) Y rfl (HO3.out.allocA _) _ 1 1 [q] rfl rfl (slAt_oneL (heap_new rfl)) (by rw [HLN.out, List.length_singleton]; omega) (by simp; omega) ?_); intro A8 n8 c8 w8 hn8 ho8 hb8; obtain rfl : n8 = k + 1 := (by rw [hn8, List.length_append, HLN.out]; rfl); have HO8 := Lib.hid ho8; have HB8 : Hid (Below w1.heap.size w3 w8) := ((Below.refl w1.heap.size w3).alloc (by omega) _).trans hb8; clear hn8 ho8 hb8)
      go_roundw
      case rel => exact ⟨k + 1, A8, c8, by omega, by go_num, rfl, (HBr.out.trans (HB3.out.mono hsr)).trans HB8.out, by rw [HS.out]; exact HO8.out⟩
      case measure => simp [intOf]; omega
    · obtain rfl : k = T := by omega
      go_wp2
      exact bodyPost_ret (v := .tuple #[.slice A5 k c5, .bool pb]) (results_tmp2 Try.results20 _ _ _) rfl ⟨A5, k, c5, by rw [← HPB.out], HT.out.trans HL.out, own_base HOr.out hs01, HB.out.trans (HBr.out.mono hs01)⟩
end Go.Proofs.Ytodcacifpjakdaa
