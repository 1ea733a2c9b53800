/- Words: the laws' marks on slices of texts. -/
import Derived.Test.YtohfkikdcoefcaaMarkW
import Derived.Test.YtohfkikdcoefcaaWoW
import Derived.Laws.IdiomStrings
namespace Go.Proofs.Ytohfkikdcoefcaa
open Go.RowKit

/-- a mark's digits -/
def mtF : Nat → Nat → List UInt8
  | 0, _ => []
  | f + 1, k => if k = 0 then [] else mtF f (k / 10) ++ [UInt8.ofNat (48 + k % 10)]
def mtR (k : Nat) : List UInt8 := mtF k k
theorem mtF_fuel : ∀ f g k : Nat, k ≤ f → k ≤ g → mtF f k = mtF g k := by
  intro f
  induction f with
  | zero => intro g k hf _; obtain rfl : k = 0 := by omega
            cases g with
            | zero => rfl
            | succ g => rw [mtF, mtF, if_pos rfl]
  | succ f ih =>
    intro g k hf hg
    cases g with
    | zero => obtain rfl : k = 0 := by omega
              rw [mtF, mtF, if_pos rfl]
    | succ g =>
      rw [mtF, mtF]
      by_cases h : k = 0
      · rw [if_pos h, if_pos h]
      · rw [if_neg h, if_neg h, ih g (k / 10) (by omega) (by omega)]
theorem mtR_zero : mtR 0 = [] := rfl
theorem mtR_step {k : Nat} (h : k ≠ 0) : mtR k = mtR (k / 10) ++ [UInt8.ofNat (48 + k % 10)] := by
  obtain ⟨j, rfl⟩ := Nat.exists_eq_succ_of_ne_zero h
  unfold mtR
  rw [mtF, if_neg h, mtF_fuel j ((j + 1) / 10) ((j + 1) / 10) (by omega) (Nat.le_refl _)]
/-- a mark's last digit and the rest -/
theorem dig_facts (k : Nat) (h0 : k ≠ 0) (hk : k ≤ 2097152) : ∃ (q m : Nat) (u : UInt8), q < k ∧ m < 10 ∧ (k : Int).tdiv 10 = (q : Int) ∧ (k : Int).tmod 10 = (m : Int) ∧ mtR k = mtR q ++ [u] ∧ u = UInt8.ofNat (48 + m) := by
  refine ⟨k / 10, k % 10, _, by omega, by omega, ?_, ?_, mtR_step h0, rfl⟩
  · rw [Int.tdiv_eq_ediv_of_nonneg (by omega)]; omega
  · rw [Int.tmod_eq_emod_of_nonneg (by omega)]; omega
theorem mtR_len (k : Nat) : (mtR k).length ≤ k := by
  induction k using Nat.strongRecOn with
  | _ k ih =>
    by_cases h : k = 0
    · subst h; rw [mtR_zero]; exact Nat.le_refl _
    · have := ih (k / 10) (by omega)
      rw [mtR_step h, List.length_append, List.length_singleton]
      omega
def mkT (k : Nat) : ByteArray := mkB (109 :: mtR k)
def strMarks (k : Int) (n : Nat) : List ByteArray := (List.range n).map fun (i : Nat) => mkT (k + (i : Int)).toNat
theorem strMarks_len (k : Int) (n : Nat) : (strMarks k n).length = n := by simp [strMarks]
theorem strMarks_at (k : Int) (n j : Nat) (h : j < n) : (strMarks k n)[j]? = some (mkT (k + (j : Int)).toNat) := by simp [strMarks, h]
theorem strMarks_set (k : Int) (l : List ByteArray) (j : Nat) (h : j < l.length) : (strMarks k j ++ l.drop j).set j (mkT (k + (j : Int)).toNat) = strMarks k (j + 1) ++ l.drop (j + 1) := by
  rw [List.set_append_right _ _ (by rw [strMarks_len]; omega), strMarks_len, Nat.sub_self, List.drop_eq_getElem_cons h, List.set_cons_zero]
  unfold strMarks
  rw [List.range_succ, List.map_append, List.append_assoc]
  rfl

theorem bytes1W (W : World) (b : Nat) (v : Int) (h : W.cell? ⟨b, 0, none⟩ = some (.int .u8 v)) (h0 : 0 ≤ v) (h1 : v < 256) :
    (convert 46 9 (.slice (some ⟨b, 0, none⟩) 1 1)).run Try.prog W = .ok (.string ⟨#[UInt8.ofNat v.toNat]⟩) W := by
  have := run_convert_bytes_back (P := Try.prog) W 46 9 5 ⟨b, 0, none⟩ 1 [UInt8.ofNat v.toNat] Try.underlying46 Try.underlying5 Try.underlying9 (fun j hj => by
    have hj0 : j = 0 := by simpa using hj
    subst hj0
    simp only [List.getElem_cons_zero]
    have e : (Addr.add ⟨b, 0, none⟩ 0 : Addr) = ⟨b, 0, none⟩ := by simp [Addr.add]
    rw [e, h]
    congr 2
    have : v.toNat < 256 := by omega
    simp [Nat.mod_eq_of_lt this]
    omega)
  simpa using this
theorem conv1W (w : World) (v : Int) (h0 : 0 ≤ v) (h1 : v < 256) :
    (convert 46 9 (.slice (some ⟨w.heap.size, 0, none⟩) 1 1)).run Try.prog (w.alloc (Obj.cells #[.int .u8 v] 5)) = .ok (.string ⟨#[UInt8.ofNat v.toNat]⟩) (w.alloc (Obj.cells #[.int .u8 v] 5)) :=
  bytes1W _ _ v (by simp) h0 h1

set_option maxHeartbeats 4000000 in
set_option maxRecDepth 100000 in
theorem markText_any (k0 : Int) (h1 : 1 ≤ k0) (h2 : k0 ≤ 2097152) (w : World) :
    Calls Try.prog 25 #[.int .i64 k0] w fun e w' => e = .returned (.string (mkT k0.toNat)) ∧ Below w.heap.size w w' := by
  obtain ⟨n, rfl⟩ : ∃ n : Nat, k0 = n := ⟨k0.toNat, by omega⟩
  rw [Int.toNat_natCast]
  have hnl := mtR_len n
  go_enter Try.func25, Try.ntmps25
  go_wp2
  go_loopw [0, 3] (fun i s wr => ∃ (k : Nat) (t : List UInt8), k ≤ n ∧ i = .int .i64 k ∧ s = .string (mkB t) ∧ mtR k ++ t = mtR n ∧ Below w.heap.size w wr)
    (fun i _ _ => (intOf i).toNat)
  case atStart => exact ⟨n, [], Nat.le_refl _, rfl, rfl, List.append_nil _, Below.refl _ _⟩
  case round =>
    obtain ⟨k, t, hk, rfl, rfl, ht, hb⟩ := hrel
    have HB := Lib.hid hb
    have hsz := hb.size
    have HT := Lib.hid ht
    have htl : t.length ≤ n := by have := congrArg List.length ht; rw [List.length_append] at this; omega
    have hzt : (mkB t).size ≤ n := htl
    clear hb ht
    by_cases h0 : k = 0
    · have HE : Hid (t = mtR n) := Lib.hid (by have := HT.out; rw [h0, mtR_zero] at this; exact this)
      have HC : Hid ((⟨#[109]⟩ : ByteArray) ++ mkB t = mkT n) := Lib.hid (by rw [HE.out]; exact mkB_append [109] (mtR n))
      have z9 : (⟨#[109]⟩ : ByteArray).size = 1 := rfl
      subst h0
      go_wp2
      go_ret
      exact ⟨ret_str HC.out, HB.out⟩
    · have hk0 : (0 : Int) < k := by omega
      obtain ⟨q, m, u, hqk, hm0, hq, hm, hst, hu⟩ := dig_facts k h0 (by omega)
      have HST := Lib.hid hst
      have HU := Lib.hid hu
      have hcv := conv1W wr (48 + (m : Int)) (by omega) (by omega)
      rw [show (48 + (m : Int)).toNat = 48 + m by omega, ← hu] at hcv
      have k2 : IntKind.i64.wrap (48 + (m : Int)) = 48 + (m : Int) := IntWalk.i64_in _ (by omega)
      have k3 : IntKind.u8.wrap (48 + (m : Int)) = 48 + (m : Int) := by rw [IntKind.wrap_u8]; omega
      have hqb : q ≤ 2097152 := by omega
      have HC : Hid ((⟨#[u]⟩ : ByteArray) ++ mkB t = mkB (u :: t)) := Lib.hid (mkB_append [u] t)
      have z9 : (⟨#[u]⟩ : ByteArray).size = 1 := rfl
      clear hst hu
      go_wp2
      go_roundw
      case rel => exact ⟨q, u :: t, by omega, by go_num, congrArg Value.string HC.out, by rw [← HT.out, HST.out, List.append_assoc]; rfl, HB.out.trans ((Below.refl _ _).alloc hsz _)⟩
      case measure => simp [intOf]; omega

theorem SlOwn.str_store {w : World} {B g n c : Nat} {e : TypeId} {l : List ByteArray} (h : SlOwn strS w B e (.slice (some ⟨g, 0, none⟩) n c) l) {j : Nat} (hj : j < l.length) (x : ByteArray) :
    ∃ v0, w.cell? ⟨g, j, none⟩ = some v0 ∧ w.frozen? ⟨g, j, none⟩ = false ∧ SlOwn strS (w.setCell ⟨g, j, none⟩ (.string x)) B e (.slice (some ⟨g, 0, none⟩) n c) (l.set j x) ∧ w.grownBy (w.setCell ⟨g, j, none⟩ (.string x)) (some g) := by
  have hn : n = l.length := by
    rcases h.2 with ⟨h', _⟩ | ⟨g', cap', cur, h', _⟩
    · simp at h'
    · simp only [Value.slice.injEq] at h'
      exact h'.2.1
  subst hn
  have s0 := World.ownsRow.stored h j (.string x)
  have hr : ∀ (m : List ByteArray) (i : Nat), (strS.row m).set i (.string x) = strS.row (m.set i x) := by
    intro m
    induction m with
    | nil => intro i; simp [Shape.row]
    | cons y m ih =>
      intro i
      cases i with
      | zero => rfl
      | succ i => rw [Shape.row_cons]; show _ :: (strS.row m).set i _ = _; rw [ih i]; rfl
  have hx : (strS.row l)[j]? = some (.string (l[j]'hj)) := by
    have := strS.row_at l j _ (List.getElem?_eq_getElem hj) 0 (by decide)
    simpa [strS] using this
  refine ⟨_, (World.ownsRow.cellAt h j (by show j < l.length * 1; omega)).trans hx, World.ownsRow.frozenAt h _, ?_, s0.2⟩
  show World.ownsRow _ _ _ _ _ _ _
  rw [List.length_set, ← hr]
  exact s0.1

set_option maxHeartbeats 2000000 in
set_option maxRecDepth 100000 in
theorem markStringS_any (A : Option Addr) (c B : Nat) (l : List ByteArray) (k0 : Int) (w : World) (hk0 : 1 ≤ k0) (hk1 : k0 ≤ 1048576) (hn : (l.length : Int) ≤ 1048576) (h : SlOwn strS w B 9 (.slice A l.length c) l) :
    Calls Try.prog 13 #[.slice A l.length c, .int .i64 k0] w fun e w' => e = .returned (.int .i64 (k0 + l.length)) ∧ SlOwn strS w' B 9 (.slice A l.length c) (strMarks k0 l.length) ∧ w.grownBy w' (Value.slice A l.length c).ownBlock := by
  have H := Lib.hid h
  clear h
  obtain ⟨n, hn'⟩ : ∃ n, n = l.length := ⟨_, rfl⟩
  have HN := Lib.hid hn'
  rw [← hn'] at H hn ⊢
  clear hn'
  go_enter Try.func13, Try.ntmps13
  go_wp2
  go_loopw [1, 5] (fun v i wr => ∃ j : Nat, j ≤ n ∧ i = .int .i64 j ∧ v = .int .i64 (k0 + j) ∧ SlOwn strS wr B 9 (.slice A n c) (strMarks k0 j ++ l.drop j) ∧ w.grownBy wr (Value.slice A n c).ownBlock)
    (fun _ i _ => n - (intOf i).toNat)
  case atStart => exact ⟨0, Nat.zero_le _, rfl, by simp, by simpa [strMarks] using H.out, World.grownBy.refl _ _⟩
  case round =>
    obtain ⟨j, hj, rfl, rfl, hown, hg⟩ := hrel
    have HO := Lib.hid hown
    have HG := Lib.hid hg
    clear hown hg
    have hlen : (strMarks k0 j ++ l.drop j).length = n := by
      have := HN.out
      rw [List.length_append, strMarks_len, List.length_drop]; omega
    have HL := Lib.hid hlen
    clear hlen
    by_cases hlt : j < n
    · obtain ⟨g, rfl, -⟩ := own_some HO.out (by rw [HL.out]; omega)
      have HMT := Lib.hid (fun W => markText_any (k0 + j) (by omega) (by omega) W)
      have HST : Hid (∀ W, SlOwn strS W B 9 (.slice (some ⟨g, 0, none⟩) n c) (strMarks k0 j ++ l.drop j) → ∃ v0, W.cell? ⟨g, j, none⟩ = some v0 ∧ W.frozen? ⟨g, j, none⟩ = false ∧ SlOwn strS (W.setCell ⟨g, j, none⟩ (.string (mkT (k0 + (j : Int)).toNat))) B 9 (.slice (some ⟨g, 0, none⟩) n c) (strMarks k0 (j + 1) ++ l.drop (j + 1)) ∧ W.grownBy (W.setCell ⟨g, j, none⟩ (.string (mkT (k0 + (j : Int)).toNat))) (some g)) := Lib.hid fun W hW => by
        obtain ⟨v0, q0, f0, ho, hgr⟩ := hW.str_store (j := j) (by rw [HL.out]; exact hlt) (mkT (k0 + (j : Int)).toNat)
        rw [strMarks_set k0 l j (by have := HN.out; omega)] at ho
        exact ⟨v0, q0, f0, ho, hgr⟩
      generalize mkT (k0 + (j : Int)).toNat = t at *
      go_wp2_with fail
      refine (HMT.out _).mono ?_
      rintro e w2 ⟨rfl, hb2⟩
      obtain ⟨v0, q0, f0, ho, hgr⟩ := HST.out _ (HO.out.below hb2)
      have HO2 := Lib.hid ho
      have HG2 : Hid (wr.grownBy (w2.setCell ⟨g, j, none⟩ (.string t)) (some g)) := Lib.hid (grown_transS ⟨hb2.os, hb2.tape, hb2.output, hb2.size, fun k hk _ => hb2.block k hk⟩ hgr)
      clear ho hgr hb2
      go_wp2
      go_roundw
      case rel => exact ⟨j + 1, by omega, by go_num, by go_num, HO2.out, grown_trans HG.out HG2.out⟩
      case measure => simp [intOf]; omega
    · obtain rfl : j = n := by omega
      go_wp2
      go_ret
      refine ⟨ret_int rfl, ?_, HG.out⟩
      have h1 := HO.out
      have h2 : l.drop j = [] := List.drop_eq_nil_of_le (by have := HN.out; omega)
      rw [h2, List.append_nil] at h1
      exact h1
set_option maxHeartbeats 2000000 in
theorem heldStringS_any (A : Option Addr) (c n : Nat) (k0 : Int) (w : World) (hk0 : 1 ≤ k0) (hk1 : k0 ≤ 1048576) (hn : (n : Int) ≤ 1048576) (h : SlAt strS w A (strMarks k0 n)) :
    Calls Try.prog 14 #[.slice A n c, .int .i64 k0] w fun e w' => e = .returned (.int .i64 (k0 + n)) ∧ Below w.heap.size w w' := by
  have H := Lib.hid h
  clear h
  go_enter Try.func14, Try.ntmps14
  go_wp2
  go_loopw [1, 5] (fun v i wr => ∃ j : Nat, j ≤ n ∧ i = .int .i64 j ∧ v = .int .i64 (k0 + j) ∧ Below w.heap.size w wr) (fun _ i _ => n - (intOf i).toNat)
  case atStart => exact ⟨0, Nat.zero_le _, rfl, by simp, Below.refl _ _⟩
  case round =>
    obtain ⟨j, hj, rfl, rfl, hb⟩ := hrel
    have HB := Lib.hid hb
    have HAr := Lib.hid (H.out.below hb)
    have hsz := hb.size
    clear hb
    by_cases hlt : j < n
    · obtain ⟨b, off, rfl, l0, hc⟩ := HAr.out.str_at (show j < (strMarks k0 n).length by rw [strMarks_len]; exact hlt)
      have a0 := hc j _ (strMarks_at k0 n j hlt)
      have HMT := Lib.hid (fun W => markText_any (k0 + j) (by omega) (by omega) W)
      generalize mkT (k0 + (j : Int)).toNat = t at *
      clear hc
      have f0 := Ext.cell a0
      clear a0
      go_wp2
      refine wp_region_ext (by kernel_rfl) (by kernel_rfl) ?_
      repeat (first | go_big_quiet_skip | (go_big_quiet_want; go_big_quiet_op; first | go_big_quiet_on | (apply Exists.intro; refine ⟨fun _ => ?_, ?_⟩; (go_at_call 25; exact Ext.call (HMT.out _)); go_big_quiet_on)))
      refine wpQuiet_nil ?_
      rintro _ ⟨x, rfl⟩
      go_wp2
      go_roundw
      case rel => exact ⟨j + 1, by omega, by go_num, by go_num, HB.out.trans (x.h.mono hsz)⟩
      case measure => simp [intOf]; omega
    · obtain rfl : j = n := by omega
      go_wp2
      go_ret
      exact ⟨ret_int rfl, HB.out⟩
set_option maxHeartbeats 1000000 in
theorem eqStringS_true (A B : Option Addr) (c d : Nat) (l : List ByteArray) (w : World) (hn : (l.length : Int) ≤ 1048576) (hA : SlAt strS w A l) (hB : SlAt strS w B l) :
    Calls Try.prog 12 #[.slice A l.length c, .slice B l.length d] w fun e w' => e = .returned (.bool true) ∧ Below w.heap.size w w' := by
  have HA := Lib.hid hA
  have HB := Lib.hid hB
  clear hA hB
  go_enter Try.func12, Try.ntmps12
  go_wp2
  go_loopw [5] (fun i wr => ∃ k : Nat, k ≤ l.length ∧ i = .int .i64 k ∧ Below w.heap.size w wr)
    (fun i _ => l.length - (intOf i).toNat)
  case atStart => exact ⟨0, Nat.zero_le _, rfl, Below.refl _ _⟩
  case round =>
    obtain ⟨k, hk, rfl, hb⟩ := hrel
    have HBe := Lib.hid hb
    have HAr := Lib.hid (HA.out.below hb)
    have HBr := Lib.hid (HB.out.below hb)
    clear hb
    by_cases hlt : k < l.length
    · obtain ⟨b, off, rfl, l0, hc⟩ := HAr.out.str_at hlt
      obtain ⟨b', off', rfl, l0', hc'⟩ := HBr.out.str_at hlt
      have a0 := hc k _ (List.getElem?_eq_getElem hlt)
      have b0 := hc' k _ (List.getElem?_eq_getElem hlt)
      clear hc hc'
      generalize l[k]'hlt = x at *
      have f0 := Ext.cell a0
      have f1 := Ext.cell b0
      clear a0 b0
      go_wp2
      refine wp_region_ext (by kernel_rfl) (by kernel_rfl) ?_
      repeat (first | go_big_quiet_skip | (go_big_quiet_want; go_big_quiet_op; go_big_quiet_on))
      refine wpQuiet_nil ?_
      rintro _ ⟨x, rfl⟩
      go_wp2
      go_roundw
      case rel => exact ⟨k + 1, by omega, by go_num, HBe.out.trans (x.h.mono HBe.out.size)⟩
      case measure => simp [intOf]; omega
    · go_wp2
      go_ret
      exact ⟨ret_bool rfl, HBe.out⟩
end Go.Proofs.Ytohfkikdcoefcaa
