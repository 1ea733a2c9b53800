/- Puzzles, the program: SureWays. -/
import Derived.Test.YtiodlclaempihaaGreatPuzU
import Derived.Test.YtiodlclaempihaaGreatPzH
import Derived.Lib.ConvBytes
namespace Go.Proofs.YtiodlclaempihaaGreat
open Go.RowKit

def btU (s : ByteArray) (i : Nat) : UInt8 := s.data.toList.getD i 0
def sgB (S : List ByteArray) (m i : Nat) : Bool := (S.take m).all fun s => decide (btU s i = btU (S.getD 0 ⟨#[]⟩) i)
/-- the row behind m ways -/
def sU (S : List ByteArray) (m i : Nat) : UInt8 := if sgB S m i then btU (S.getD 0 ⟨#[]⟩) i else 63
theorem sU_zero (S : List ByteArray) (i : Nat) : sU S 0 i = btU (S.getD 0 ⟨#[]⟩) i := rfl
theorem sgB_succ {S : List ByteArray} {m : Nat} (hm : m < S.length) (i : Nat) : sgB S (m + 1) i = (sgB S m i && decide (btU S[m] i = btU (S.getD 0 ⟨#[]⟩) i)) := by
  unfold sgB
  rw [List.take_succ_eq_append_getElem hm, List.all_append]
  simp
theorem sU_same {S : List ByteArray} {m : Nat} (hm : m < S.length) {i : Nat} (h : btU S[m] i = sU S m i) : sU S (m + 1) i = sU S m i := by
  unfold sU at *
  rw [sgB_succ hm]
  cases hs : sgB S m i with
  | true => rw [hs] at h; simp at h; simp [h]
  | false => simp
theorem sU_diff {S : List ByteArray} {m : Nat} (hm : m < S.length) {i : Nat} (h : btU S[m] i ≠ sU S m i) : sU S (m + 1) i = 63 := by
  unfold sU at *
  rw [sgB_succ hm]
  cases hs : sgB S m i with
  | true => rw [hs] at h; simp at h; simp [h]
  | false => simp
theorem ltr_btU {s : ByteArray} {i : Nat} (h : i < s.size) : ltr s i = ⟨#[btU s i]⟩ := by
  have h' : i < s.data.size := h
  unfold ltr btU
  apply ByteArray.ext
  rw [ByteArray.data_extract]
  show _ = #[_]
  rw [List.getD_eq_getElem?_getD, Array.getElem?_toList, Array.getElem?_eq_getElem h']
  apply Array.ext
  · simp; omega
  · intro j h1 h2
    simp at h1 h2
    subst h2
    simp
theorem sureL_sU {S : List ByteArray} {n : Nat} (hS : ∀ x ∈ S, x.size = n) (hp : 0 < S.length) {i : Nat} (hi : i < n) : sureL S i = ⟨#[sU S S.length i]⟩ := by
  have hg : S.getD 0 ⟨#[]⟩ = S[0] := by rw [List.getD_eq_getElem?_getD, List.getElem?_eq_getElem hp]; rfl
  have h0 : i < (S.getD 0 ⟨#[]⟩).size := by rw [hg, hS _ (List.getElem_mem hp)]; exact hi
  have he : agreeB S i = sgB S S.length i := by
    unfold agreeB sgB
    rw [List.take_length, Bool.eq_iff_iff]
    simp only [List.all_eq_true, decide_eq_true_eq]
    constructor
    · intro h x hx
      have := h x hx
      rw [ltr_btU (by rw [hS x hx]; exact hi), ltr_btU h0] at this
      simpa using this
    · intro h x hx
      rw [ltr_btU (by rw [hS x hx]; exact hi), ltr_btU h0, h x hx]
  unfold sureL sU
  rw [he]
  split
  · exact ltr_btU h0
  · rfl
theorem sureT_mk {S : List ByteArray} {n : Nat} (hS : ∀ x ∈ S, x.size = n) (hp : 0 < S.length) : ∀ i, i ≤ n → sureT S i = ⟨((List.range i).map (sU S S.length)).toArray⟩ := by
  intro i
  induction i with
  | zero => intro _; rfl
  | succ i ih =>
    intro h
    show sureT S i ++ sureL S i = _
    rw [ih (by omega), sureL_sU hS hp (by omega), List.range_succ, List.map_append]
    apply ByteArray.ext
    rw [ByteArray.data_append]
    simp

/-- a row of bytes in a block -/
def RowU (w : World) (g n : Nat) (f : Nat → UInt8) : Prop := ∀ j, j < n → w.cell? ⟨g, j, none⟩ = some (.int .u8 ((f j).toNat : Int)) ∧ w.frozen? ⟨g, j, none⟩ = false
theorem RowU.congr {w : World} {g n : Nat} {f f' : Nat → UInt8} (h : RowU w g n f) (he : ∀ j, j < n → f j = f' j) : RowU w g n f' := fun j hj => by rw [← he j hj]; exact h j hj
theorem RowU.store {w : World} {g n : Nat} {f : Nat → UInt8} (h : RowU w g n f) {i : Nat} (hi : i < n) (u : UInt8) : RowU (w.setCell ⟨g, i, none⟩ (.int .u8 (u.toNat : Int))) g n (fun j => if j = i then u else f j) := by
  intro j hj
  constructor
  · show _ = some (Value.int .u8 (((if j = i then u else f j)).toNat : Int))
    by_cases he : j = i
    · subst he
      rw [World.cell?_setCell_same _ _ _ (h j hj).1, if_pos rfl]
    · rw [World.cell?_setCell_other _ _ _ _ (by intro hh; simp only [Addr.mk.injEq] at hh; omega), if_neg he]
      exact (h j hj).1
  · have := (h j hj).2
    simpa [go_sem] using this
theorem RowU.drew {w : World} {g n : Nat} {f : Nat → UInt8} (h : RowU w g n f) : RowU w.drew g n f := h
theorem rowU_bytes (w : World) (e : TypeId) (x : ByteArray) : RowU (Lib.bytesWorld w e x) w.heap.size x.size (btU x) := fun j hj => by
  refine ⟨Lib.bytesWorld_cell w e x j hj, ?_⟩
  have h := Lib.bytesWorld_at_new w e x
  have hs : x.size ≤ (Lib.bytesCells w e x).size := by unfold Lib.bytesCells; simp
  simp [World.frozen?, h]
  omega
theorem below_bytes (w : World) (e : TypeId) (x : ByteArray) : Below w.heap.size w (Lib.bytesWorld w e x) := by
  refine ⟨?_, ?_, ?_, ?_, fun k hk => Lib.bytesWorld_at_old w e x k hk⟩
  · rfl
  · rfl
  · rfl
  · rw [Lib.bytesWorld_size]; omega
theorem ret_strb' {a b : ByteArray} {x : Bool} (h : a = b) : Ending.returned (.tuple #[.string a, .bool x]) = .returned (.tuple #[.string b, .bool x]) := by rw [h]
set_option maxRecDepth 100000 in
set_option maxHeartbeats 4000000 in
theorem implSureWays_any (L : Int) (A C : Option Addr) (c d : Nat) (l : List Int) (cs : List (Int × Int × Int)) (w : World) (hn : (l.length : Int) ≤ 9223372036854775807) (hm : (cs.length : Int) ≤ 9223372036854775807) (hA : SlAt intS w A l) (hC : SlAt tripS w C cs) :
    Calls Tryz.prog 26 #[.agg #[.int .i64 L, .slice A l.length c, .slice C cs.length d]] w fun e w' => e = .returned (.tuple #[.string (suV L l cs), .bool (fsoB L l cs)]) ∧ Below w.heap.size w w' := by
  have HA := Lib.hid (hA.alloc (Obj.cells #[Value.int IntKind.i64 L, Value.slice A l.length c, Value.slice C cs.length d] 32))
  have HC := Lib.hid (hC.alloc (Obj.cells #[Value.int IntKind.i64 L, Value.slice A l.length c, Value.slice C cs.length d] 32))
  have HSO := Lib.hid (fun w h h' => implSolutions_any L A C c d l cs w hn hm h h')
  have HF : Hid (fsoB L l cs = decide (0 < (sosV L l cs).length)) := rfl
  have HSL := Lib.hid (sosV_len L l cs)
  have HSZ : Hid (0 < (sosV L l cs).length → sosV L l cs = solV L l cs ∧ l.length ≤ 8) := fun h => by
    unfold sosV at *
    split at h
    · rename_i hp
      rw [if_pos hp]
      exact ⟨rfl, (hplB_len (puzB_parts hp).1).2⟩
    · simp at h
  clear hA hC
  generalize puzB L l cs = pb at *
  go_enter Tryz.func26, Tryz.ntmps26
  go_wp2_with fail
  refine (HSO.out _ HA.out HC.out).mono ?_
  rintro e w2 ⟨A2, n2, c2, rfl, hn2, ho2, hb2⟩
  have HB2 := Lib.hid (((Below.refl _ w).alloc (Nat.le_refl _) (Obj.cells #[Value.int IntKind.i64 L, Value.slice A l.length c, Value.slice C cs.length d] 32)).trans (hb2.mono (by simp)))
  clear hb2
  by_cases h0 : n2 = 0
  · have HV3 : Hid (fsoB L l cs = false ∧ suV L l cs = ⟨#[]⟩) := by
      have h1 : fsoB L l cs = false := by rw [HF.out, ← hn2, h0]; rfl
      show _ ∧ _
      unfold suV
      rw [h1]
      exact ⟨rfl, rfl⟩
    subst h0
    clear hn2 ho2
    go_wp2
    go_ret2
    exact ⟨ret_strb HV3.out.2.symm HV3.out.1.symm, HB2.out⟩
  · have hpos : 0 < (sosV L l cs).length := by omega
    have HV3 : Hid (fsoB L l cs = true ∧ suV L l cs = sureT (sosV L l cs) l.length) := by
      have h1 : fsoB L l cs = true := by rw [HF.out]; exact decide_eq_true hpos
      show _ ∧ _
      unfold suV
      rw [h1, (HSZ.out hpos).1]
      exact ⟨rfl, rfl⟩
    have hl8 := (HSZ.out hpos).2
    have HSX : Hid (∀ x ∈ sosV L l cs, x.size = l.length) := fun x hx => by rw [(HSZ.out hpos).1] at hx; exact solV_mem hx
    clear HSZ HF
    generalize sosV L l cs = S at *
    have HN2 := Lib.hid hn2
    obtain ⟨b, off, hAe, l0, hc⟩ := ho2.sl.str_at hpos
    have a0 := hc 0 _ (List.getElem?_eq_getElem hpos)
    have hx0 : (S[0]).size = l.length := HSX.out _ (List.getElem_mem hpos)
    have HC9 := Lib.hid hc
    have HMK := Lib.hid (sureT_mk HSX.out hpos l.length (Nat.le_refl _))
    have HS0 : Hid (∀ j, btU S[0] j = sU S 0 j) := fun j => by rw [sU_zero, List.getD_eq_getElem?_getD, List.getElem?_eq_getElem hpos]; rfl
    have HSS := Lib.hid (fun m (hm : m < S.length) i h => sU_same (i := i) hm h)
    have HSD := Lib.hid (fun m (hm : m < S.length) i h => sU_diff (i := i) hm h)
    subst hAe
    rw [Nat.add_zero] at a0
    generalize S[0] = x0 at *
    have h1 : (0 : Int) < (n2 : Int) := by omega
    have h2 : ¬ (n2 : Int) = 0 := by omega
    have h3 : ((n2 : Int) == 0) = false := by simp; omega
    have h256 : (n2 : Int) ≤ 256 := by have := HSL.out; omega
    have hcv : ∀ W : World, (convert 9 60 (.string x0)).run Tryz.prog W = .ok (.slice (some ⟨W.heap.size, 0, none⟩) x0.size (grownCap W x0.size 0 5)) (Lib.bytesWorld W 5 x0) := fun W => Lib.run_convert_string_bytes W _ _ _ x0 Tryz.underlying9 Tryz.underlying60 Tryz.underlying5
    obtain ⟨W0, hW0⟩ : ∃ W, W = Lib.bytesWorld w2 5 x0 := ⟨_, rfl⟩
    obtain ⟨G, hG⟩ : ∃ G, G = grownCap w2 x0.size 0 5 := ⟨_, rfl⟩
    have hcw := hcv w2
    rw [← hW0, ← hG] at hcw
    have HBW : Hid (Below w2.heap.size w2 W0) := by show Below _ _ _; rw [hW0]; exact below_bytes w2 _ x0
    have HR0 : Hid (RowU W0 w2.heap.size l.length (sU S 0)) := by
      show RowU _ _ _ _
      have := rowU_bytes w2 5 x0
      rw [hx0, ← hW0] at this
      exact this.congr fun j _ => HS0.out j
    have hls2 : b < w2.heap.size := l0
    clear hcv hW0 hG hn2 ho2 hc
    go_wp2
    go_loopw [24] (fun i wr => ∃ m : Nat, m ≤ n2 ∧ i = .int .i64 m ∧ Below w2.heap.size w2 wr ∧ RowU wr w2.heap.size l.length (sU S m))
      (fun i _ => n2 - (intOf i).toNat)
    case atStart => exact ⟨0, Nat.zero_le _, rfl, HBW.out, HR0.out⟩
    case round =>
      obtain ⟨W1, rfl⟩ : ∃ W, W = wr := ⟨_, rfl⟩
      obtain ⟨m, hm, rfl, hb, hr⟩ := hrel
      have HBR := Lib.hid hb
      have HRR := Lib.hid hr
      by_cases hml : m < n2
      · have hmS : m < S.length := by have := HN2.out; omega
        have hmi : (m : Int) < (n2 : Int) := by omega
        have am := Below.cell_some hb (HC9.out m _ (List.getElem?_eq_getElem hmS))
        have hym : (S[m]).size = l.length := HSX.out _ (List.getElem_mem hmS)
        have HSSm := Lib.hid (HSS.out m hmS)
        have HSDm := Lib.hid (HSD.out m hmS)
        clear hb hr
        generalize S[m] = y at *
        have hbt := get_btL y
        go_wp2
        go_loopw [30] (fun i wz => ∃ k : Nat, k ≤ l.length ∧ i = .int .i64 k ∧ Below w2.heap.size w2 wz ∧ RowU wz w2.heap.size l.length (fun j => if j < k then sU S (m + 1) j else sU S m j))
          (fun i _ => l.length - (intOf i).toNat)
        case atStart => exact ⟨0, Nat.zero_le _, rfl, HBR.out, HRR.out⟩
        case round =>
          obtain ⟨W3, rfl⟩ : ∃ W, W = wr := ⟨_, rfl⟩
          obtain ⟨k, hk, rfl, hbz, hrz⟩ := hrel
          have HBZ := Lib.hid hbz
          have HRZ := Lib.hid hrz
          clear hbz
          by_cases hkl : k < l.length
          · have hki : (k : Int) < (l.length : Int) := by omega
            obtain ⟨ck, fk⟩ := hrz k hkl
            simp only [Nat.lt_irrefl, if_false] at ck
            clear hrz
            by_cases hq : btU y k = sU S m k
            · have HT := Lib.hid (HSSm.out k hq)
              have hq1 : btL y.data.toList k = ((sU S m k).toNat : Int) := by show ((btU y k).toNat : Int) = _; rw [hq]
              clear hq
              go_wp2
              go_region_held3 (fun w' => w'.cell? ⟨w2.heap.size, k, none⟩ = some (.int .u8 ((sU S m k).toNat : Int)))
                (first | exact ck | go_keep)
                (fail)
              go_wp2
              go_roundw
              case rel =>
                refine ⟨k + 1, by omega, by go_num, HBZ.out.drew, RowU.drew (HRZ.out.congr fun j hj => ?_)⟩
                show (if j < k then sU S (m + 1) j else sU S m j) = if j < k + 1 then sU S (m + 1) j else sU S m j
                by_cases h5 : j < k
                · rw [if_pos h5, if_pos (by omega)]
                · by_cases h6 : j = k
                  · subst h6; rw [if_neg h5, if_pos (by omega), HT.out]
                  · rw [if_neg h5, if_neg (by omega)]
              case measure => simp [intOf]; omega
            · have HT := Lib.hid (HSDm.out k hq)
              have hq1 : ¬ btL y.data.toList k = ((sU S m k).toNat : Int) := by
                intro h
                apply hq
                have h' : (btU y k).toNat = (sU S m k).toNat := by exact Int.ofNat.inj h
                exact UInt8.toNat_inj.1 h'
              clear hq
              go_wp2
              go_region_held3 (fun w' => w'.cell? ⟨w2.heap.size, k, none⟩ = some (.int .u8 ((sU S m k).toNat : Int)))
                (first | exact ck | go_keep)
                (fail)
              go_wp2
              go_roundw
              case rel =>
                refine ⟨k + 1, by omega, by go_num, HBZ.out.drew.setCell (by simp) _, ((RowU.drew HRZ.out).store hkl 63).congr fun j hj => ?_⟩
                show (if j = k then (63 : UInt8) else if j < k then sU S (m + 1) j else sU S m j) = if j < k + 1 then sU S (m + 1) j else sU S m j
                by_cases h6 : j = k
                · subst h6; rw [if_pos rfl, if_pos (by omega), HT.out]
                · rw [if_neg h6]
                  by_cases h5 : j < k
                  · rw [if_pos h5, if_pos (by omega)]
                  · rw [if_neg h5, if_neg (by omega)]
              case measure => simp [intOf]; omega
          · obtain rfl : k = l.length := by omega
            have hki : ¬ (l.length : Int) < (l.length : Int) := by omega
            clear hrz
            go_wp2
            go_roundw
            case rel => exact ⟨m + 1, by omega, by go_num, HBZ.out, HRZ.out.congr fun j hj => if_pos hj⟩
            case measure => simp [intOf]; omega
      · obtain rfl : m = n2 := by omega
        have hmi : ¬ (m : Int) < (m : Int) := by omega
        have hcb : (convert 60 9 (.slice (some ⟨w2.heap.size, 0, none⟩) l.length G)).run Tryz.prog W1 = .ok (.string (sureT S l.length)) W1 := by
          have h := run_convert_bytes_back (P := Tryz.prog) W1 60 9 5 ⟨w2.heap.size, 0, none⟩ G ((List.range l.length).map (sU S S.length)) Tryz.underlying60 Tryz.underlying5 Tryz.underlying9 (fun j hj => by
            have hj' : j < l.length := by simpa using hj
            rw [List.getElem_map, List.getElem_range, ← HN2.out]
            have h9 := (HRR.out j hj').1
            rw [show (⟨w2.heap.size, 0, none⟩ : Addr).add j = ⟨w2.heap.size, j, none⟩ by simp [go_sem]]
            exact h9)
          rw [List.length_map, List.length_range, ← HMK.out] at h
          exact h
        clear hb hr
        go_wp2
        go_ret2
        exact ⟨ret_strb HV3.out.2.symm HV3.out.1.symm, HB2.out.trans (HBR.out.mono HB2.out.size)⟩
end Go.Proofs.YtiodlclaempihaaGreat
