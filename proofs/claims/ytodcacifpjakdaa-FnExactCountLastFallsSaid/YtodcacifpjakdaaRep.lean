/- bytes.Repeat of one byte, at most twelve times. -/
import Derived.Test.YtodcacifpjakdaaByte
import Derived.Lib.SlBuf
import Derived.Lib.MakeNoZero
import Derived.Deep.RegionHeld3
namespace Go.Proofs.Ytodcacifpjakdaa
open Go.RowKit

theorem byteSz : (Try.prog.info? 5).map (·.size) = some 1 := by kernel_rfl
theorem makeZ (n : Nat) (hn : n ≤ 12) (w : World) : ∃ cs : Array Value, (callFunc 70 #[.int .i64 n]).run Try.prog w = .ok (.value (.slice (some ⟨w.heap.size, 0, none⟩) n cs.size)) ((w.alloc (.cells cs 5)).drewN 2) ∧ n ≤ cs.size ∧ cs.size ≤ maxLen := by
  obtain ⟨cs, hrunM, hle, hmx⟩ := Lib.run_makeNoZero (P := Try.prog) w #[3] 69 5 Try.underlying69 n (by omega)
  refine ⟨cs, ?_, hle, hmx (by unfold maxLen; omega)⟩
  rw [run_callFunc_extern Try.func70 (by kernel_rfl) (by kernel_rfl) (by kernel_rfl) (e := Extern.BytealgMakeNoZero.makeNoZero #[3] #[69]) (by kernel_rfl), hrunM]
  rfl

/-- a buffer whose first B bytes are b -/
structure Fill (w0 wr : World) (h n : Nat) (b : Int) (B : Nat) : Prop where
  below : Below h w0 wr
  lt : h < wr.heap.size
  there : ∀ j, j < n → (wr.cell? ⟨h, j, none⟩).isSome = true
  free : ∀ j, j < n → wr.frozen? ⟨h, j, none⟩ = false
  holds : ∀ j, j < B → wr.cell? ⟨h, j, none⟩ = some (.int .u8 b)
theorem Fill.drew {w0 wr : World} {h n B : Nat} {b : Int} (f : Fill w0 wr h n b B) : Fill w0 wr.drew h n b B := ⟨f.below.drew, f.lt, f.there, f.free, f.holds⟩
theorem fill_copy {w0 wr : World} {h n B : Nat} {b : Int} (f : Fill w0 wr h n b B) (a : Addr) (sLen sCap C : Nat) (ty : TypeId) (hC : C = Nat.min sLen (n - B)) (hB : B ≤ n) (hs : ∀ j, j < C → wr.cell? (a.add j) = some (.int .u8 b)) :
    ∃ wr', (Builtin.copy_ #[69, 69] ty #[.slice (some ⟨h, B, none⟩) (n - B) (n - B), .slice (some a) sLen sCap]).run Try.prog wr = .ok (.int .i64 C) wr' ∧ Fill w0 wr' h n b (B + C) := by
  have hCn : C ≤ n - B := by rw [hC]; exact Nat.min_le_right _ _
  have hr := run_copy_cells (P := Try.prog) wr 69 69 ty 5 h B (n - B) (n - B) a sLen sCap (List.replicate C (.int .u8 b)) Try.underlying69 byteSz (by rw [List.length_replicate]; exact hC)
    (fun j u hu => by
      have hj : j < C := by have := (List.getElem?_eq_some_iff.1 hu).1; simpa using this
      rw [List.getElem?_replicate, if_pos hj] at hu
      injection hu with hu
      rw [← hu]; exact hs j hj)
    (fun j hj => by rw [List.length_replicate] at hj; exact f.there _ (by omega))
    (fun j hj => by rw [List.length_replicate] at hj; exact f.free _ (by omega))
    (fun u hu => by rw [List.eq_of_mem_replicate hu]; rfl)
  rw [List.length_replicate] at hr
  have hin := World.cell?_setCells_in h (List.replicate C (.int .u8 b)) B wr (fun j hj => by rw [List.length_replicate] at hj; exact f.there _ (by omega))
  have hout := World.cell?_setCells_out h (List.replicate C (Value.int .u8 b)) B wr
  have hin' : ∀ j, j < C → (wr.setCells h B (List.replicate C (.int .u8 b))).cell? ⟨h, B + j, none⟩ = some (.int .u8 b) := fun j hj => by
    rw [hin j (by rw [List.length_replicate]; exact hj), List.getElem_replicate]
  have hout' : ∀ j, ¬ (B ≤ j ∧ j < B + C) → (wr.setCells h B (List.replicate C (.int .u8 b))).cell? ⟨h, j, none⟩ = wr.cell? ⟨h, j, none⟩ := fun j hj =>
    hout ⟨h, j, none⟩ (fun _ _ => by rw [List.length_replicate]; show j < _ ∨ _ ≤ j; omega)
  refine ⟨_, hr, Lib.below_setCells h (Nat.le_refl _) _ _ f.below, ?_, ?_, ?_, ?_⟩
  · have hb : Below 0 wr (wr.setCells h B (List.replicate C (.int .u8 b))) := Lib.below_setCells h (Nat.zero_le _) _ _ ⟨rfl, rfl, rfl, Nat.le_refl _, fun _ _ => rfl⟩
    exact Nat.lt_of_lt_of_le f.lt hb.size
  · intro j hj
    by_cases h1 : B ≤ j ∧ j < B + C
    · obtain ⟨d, rfl⟩ : ∃ d, j = B + d := ⟨j - B, by omega⟩
      rw [hin' d (by omega)]; rfl
    · rw [hout' j h1]; exact f.there j hj
  · intro j hj
    rw [World.frozen?_setCells]
    exact f.free j hj
  · intro j hj
    by_cases h1 : B ≤ j ∧ j < B + C
    · obtain ⟨d, rfl⟩ : ∃ d, j = B + d := ⟨j - B, by omega⟩
      exact hin' d (by omega)
    · rw [hout' j h1]; exact f.holds j (by omega)

set_option maxHeartbeats 4000000 in
theorem mul_one (n : Nat) (h1 : 1 ≤ n) (h2 : n ≤ 12) (w : World) :
    Calls Try.prog 69 #[.int .u64 1, .int .u64 n] w fun e w' => e = .returned (.tuple #[.int .u64 0, .int .u64 n]) ∧ w = w' := by
  have HM : Hid (Calls Try.prog 81 #[.int .u64 1, .int .u64 n] w fun e w' => e = .returned (.tuple #[.int .u64 0, .int .u64 n]) ∧ w = w') := by
    show Calls _ _ _ _ _
    rcases (by omega : n = 1 ∨ n = 2 ∨ n = 3 ∨ n = 4 ∨ n = 5 ∨ n = 6 ∨ n = 7 ∨ n = 8 ∨ n = 9 ∨ n = 10 ∨ n = 11 ∨ n = 12) with rfl | rfl | rfl | rfl | rfl | rfl | rfl | rfl | rfl | rfl | rfl | rfl
    all_goals
      go_enter Try.func81, Try.ntmps81
      go_wp2
      go_ret2
      exact ⟨rfl, rfl⟩
  go_enter Try.func69, Try.ntmps69
  go_wp2_with fail
  refine HM.out.mono ?_
  rintro e w' ⟨rfl, rfl⟩
  go_wp2
  go_ret2
  exact ⟨rfl, rfl⟩

set_option maxRecDepth 100000 in
set_option maxHeartbeats 4000000 in
theorem repeat_any (g : Nat) (b : Int) (n : Nat) (w : World) (h1 : 1 ≤ n) (h2 : n ≤ 12) (hc : w.cell? ⟨g, 0, none⟩ = some (.int .u8 b)) :
    Calls Try.prog 54 #[.slice (some ⟨g, 0, none⟩) 1 1, .int .i64 n] w fun e w' => ∃ A, e = .returned (.slice A n n) ∧ SlAt byteS w' A (List.replicate n b) ∧ Below w.heap.size w w' := by
  have hgl := World.block_lt_of_cell? _ _ hc
  have HMU := Lib.hid (fun w => mul_one n h1 h2 w)
  obtain ⟨cs, hcall, hle, hmx⟩ := makeZ n h2 w
  obtain ⟨W, hW⟩ : ∃ W, W = (w.alloc (.cells cs 5)).drewN 2 := ⟨_, rfl⟩
  rw [← hW] at hcall
  have F0 : Fill w W w.heap.size n b 0 := by
    have B0 := Lib.Buf.start w cs 5 n 2 hle
    rw [← hW] at B0
    exact ⟨B0.below, by rw [hW]; simp, B0.there, B0.free, fun j hj => by omega⟩
  have hc1 : W.cell? ⟨g, 0, none⟩ = some (.int .u8 b) := (F0.below.cell (p := ⟨g, 0, none⟩) hgl).trans hc
  obtain ⟨W1, hcp, F1⟩ := fill_copy F0 ⟨g, 0, none⟩ 1 1 1 3 (by show 1 = min 1 (n - 0); omega) (Nat.zero_le _) (fun j hj => by
    have hj0 : j = 0 := by omega
    rw [hj0, Addr.add_lit]; exact hc1)
  rw [Nat.sub_zero] at hcp
  rw [Nat.zero_add] at F1
  have HF1 := Lib.hid F1
  have i1 : (n : Int) ≤ (cs.size : Int) := by omega
  have i2 : (0 : Int) < (n : Int) := by omega
  clear hW F0 F1 hc1 hc
  go_enter Try.func54, Try.ntmps54
  go_wp2_with fail
  refine (HMU.out _).mono ?_
  rintro e w' ⟨rfl, rfl⟩
  go_wp2_with (at_builtin; refine Lib.wpList_copy_run _ rfl _ _ 69 69 rfl _ _ rfl rfl hcp ?_)
  clear hcp hcall
  go_loopw [10] (fun p wr => ∃ B : Nat, 1 ≤ B ∧ B ≤ n ∧ p = .int .i64 B ∧ Fill w wr w.heap.size n b B) (fun p _ => n - (intOf p).toNat)
  case atStart => exact ⟨1, Nat.le_refl _, h1, rfl, HF1.out⟩
  case round =>
    obtain ⟨B, hB1, hBn, rfl, hf⟩ := hrel
    have HF := Lib.hid hf
    clear hf
    by_cases hlt : B < n
    · have hlt2 : (B : Int) < (n : Int) := by omega
      have hne : ¬ n = B := by omega
      have hmin : min (B : Int) (n : Int) = (B : Int) := by omega
      obtain ⟨C, hC⟩ : ∃ C, C = Nat.min B (n - B) := ⟨_, rfl⟩
      have hC2 : C = min B (n - B) := hC
      obtain ⟨W2, hcp, F2⟩ := fill_copy HF.out.drew ⟨w.heap.size, 0, none⟩ B n C 3 hC (by omega) (fun j hj => by
        rw [Addr.add_lit, Nat.zero_add]; exact HF.out.drew.holds j (by omega))
      have HF2 := Lib.hid F2
      have hCb : 1 ≤ C ∧ B + C ≤ n := by omega
      clear F2 hC hC2
      go_wp2
      all_goals (try (exfalso; omega))
      all_goals (
        go_region
        go_wp2
        go_roundw
        case rel => exact ⟨B + C, by omega, by omega, by go_num, HF2.out⟩
        case measure => simp [intOf]; omega)
    · obtain rfl : B = n := by omega
      have hlt2 : ¬ (B : Int) < (B : Int) := by omega
      have HSL : Hid (SlAt byteS wr (some ⟨w.heap.size, 0, none⟩) (List.replicate B b)) := by
        refine .inr ⟨w.heap.size, 0, rfl, HF.out.lt, fun k x hk j hj => ?_⟩
        obtain rfl : j = 0 := by have : j < 1 := hj; omega
        have hkb : k < B := by have := (List.getElem?_eq_some_iff.1 hk).1; simpa using this
        rw [List.getElem?_replicate, if_pos hkb] at hk
        injection hk with hk
        show wr.cell? ⟨w.heap.size, 0 + k * 1 + 0, none⟩ = some (.int .u8 x)
        rw [Nat.zero_add, Nat.mul_one, Nat.add_zero, HF.out.holds k hkb, hk]
      go_wp2
      go_ret
      exact ⟨_, rfl, HSL.out, HF.out.below⟩
end Go.Proofs.Ytodcacifpjakdaa
