/- Words: the library's functions of texts, as this program meets them. -/
import Derived.Test.YtfojldkiagemeaaDoorWoA
import Derived.Test.YtfojldkiagemeaaDoorShelfW
namespace Go.Proofs.YtfojldkiagemeaaDoor
open Go.RowKit

def MaxL (w : World) : Prop := ∃ m, w.cell? ⟨0, 0, none⟩ = some (.int .i64 m)
theorem MaxL.below {w w' : World} (h : MaxL w) (hb : Below w.heap.size w w') : MaxL w' := by
  obtain ⟨m, hm⟩ := h
  exact ⟨m, Below.cell_some hb hm⟩

theorem byteInfo : (Tryd.prog.info? 5).map (fun i => (i.zero, i.size, i.bytes)) = some (some (.int .u8 0), 1, 1) := by kernel_rfl

theorem repeatX : Builder.Extra Tryd.prog repeatT_ren where
  sizeBuilder := by kernel_rfl
  liesBuilder := by kernel_rfl
  t5 := Tryd.underlying5
  a5 := Tryd.isAgg5
  z5 := Tryd.sizeOf5
  v5 := Tryd.zeroValue5
  infoByte := by kernel_rfl
  cellsByte := by kernel_rfl
  sizeByte := by kernel_rfl
  neB5 := by decide
theorem repeat_any (c : UInt8) (n : Nat) (hn : n ≤ 1048576) (w : World) :
    Calls Tryd.prog 24 #[.string ⟨#[c]⟩, .int .i64 n] w fun e w' => e = .returned (.string (mkB (List.replicate n c))) ∧ Below w.heap.size w w' :=
  (Any.strings_Repeat repeatT repeatX ⟨#[c]⟩ n w (by omega) (by rw [show (⟨#[c]⟩ : ByteArray).size = 1 from rfl]; omega)).mono fun e w' ⟨he, hb⟩ => ⟨by rw [he]; show Ending.returned (.string (mkB (Lib.repeatL [c] n))) = _; rw [repeatL_one], hb⟩

theorem count_one_any (l : List UInt8) (c : UInt8) (w : World) :
    Calls Tryd.prog 16 #[.string (mkB l), .string ⟨#[c]⟩] w fun e w' => e = .returned (.int .i64 (l.count c : Nat)) ∧ w' = w :=
  Any.strings_Count_one countT (mkB l) c w

set_option maxHeartbeats 1000000 in
theorem restWith_any (a b : Nat) (ha : a ≤ 100) (hb : b ≤ 100) (w : World) :
    Calls Tryd.prog 14 #[.int .i64 a, .int .i64 b] w fun e w' => e = .returned (.string (mkB (rst a b))) ∧ Below w.heap.size w w' := by
  have H1 := Lib.hid (fun W => repeat_any 108 a (by omega) W)
  have H2 := Lib.hid (fun W => repeat_any 114 b (by omega) W)
  have z1 : (mkB (List.replicate a 108)).size = a := by rw [mkB_size, List.length_replicate]
  have z2 : (mkB (List.replicate b 114)).size = b := by rw [mkB_size, List.length_replicate]
  have HA : Hid (mkB (List.replicate a 108) ++ mkB (List.replicate b 114) = mkB (rst a b)) := Lib.hid (mkB_append _ _)
  generalize mkB (List.replicate a 108) = s at *
  generalize mkB (List.replicate b 114) = t at *
  have f1 : ¬ 9223372036854775807 < s.size + t.size := by omega
  go_enter Tryd.func14, Tryd.ntmps14
  go_wp2_with fail
  refine (H1.out _).mono ?_
  rintro e w1 ⟨rfl, hb1⟩
  go_wp2_with fail
  refine (H2.out _).mono ?_
  rintro e w2 ⟨rfl, hb2⟩
  go_wp2
  go_ret
  exact ⟨ret_str HA.out, hb1.trans (hb2.mono hb1.size)⟩

set_option maxHeartbeats 1000000 in
theorem countSigns_any (l : List UInt8) (w : World) :
    Calls Tryd.prog 12 #[.string (mkB l)] w fun e w' => e = .returned (.tuple #[.int .i64 (l.count 108 : Nat), .int .i64 (l.count 114 : Nat)]) ∧ w' = w := by
  have H1 := Lib.hid (fun W => count_one_any l 108 W)
  have H2 := Lib.hid (fun W => count_one_any l 114 W)
  generalize l.count 108 = a at *
  generalize l.count 114 = b at *
  go_enter Tryd.func12, Tryd.ntmps12
  go_wp2_with fail
  refine (H1.out _).mono ?_
  rintro e w1 ⟨rfl, rfl⟩
  go_wp2_with fail
  refine (H2.out _).mono ?_
  rintro e w2 ⟨rfl, rfl⟩
  go_wp2
  go_ret2
  exact ⟨rfl, rfl⟩



theorem setInfo : (Tryd.prog.info? 37).map (fun i => (i.zero, i.size)) = some (some (.agg (Array.replicate 256 (.bool false))), 256) := by kernel_rfl
set_option maxHeartbeats 1000000 in
theorem isWord_any (s : ByteArray) (hs : s.size ≤ 1048576) (w : World) :
    Calls Tryd.prog 9 #[.string s] w fun e w' => e = .returned (.bool (okW s.data.toList)) ∧ Below w.heap.size w w' := by
  have hl := len_toList s
  by_cases h : s.size ≤ 14
  · obtain ⟨t, ht⟩ : ∃ t : ByteArray, t = ⟨(Lib.trimS s.data.toList [108, 114]).toArray⟩ := ⟨_, rfl⟩
    have H : Hid (∀ W, Calls Tryd.prog 13 #[.string s, .string ⟨#[108, 114]⟩] W fun e w' => e = .returned (.string t) ∧ Below W.heap.size W w') := Lib.hid fun W => by
      rw [ht]
      exact Any.strings_Trim_laid trimT setInfo s ⟨#[108, 114]⟩ W (by omega) (by decide) (ascii_of_all (by decide))
    have he : t.toList.isEmpty = okW s.data.toList := by
      have e1 : t.toList = Lib.trimS s.data.toList [108, 114] := by rw [ht, Lib.toList_data]
      have e2 := trim_nil s.data.toList [108, 114]
      have e3 : okW s.data.toList = s.data.toList.all isLr := by unfold okW; rw [decide_eq_true (by omega)]; rfl
      rw [show (fun x => ([108, 114] : List UInt8).contains x) = isLr from lr_contains] at e2
      rw [e1, e3]
      cases ha : s.data.toList.all isLr with
      | true => rw [e2.2 ha]; rfl
      | false =>
        cases hb : Lib.trimS s.data.toList [108, 114] with
        | nil => rw [e2.1 hb] at ha; cases ha
        | cons x y => rfl
    generalize okW s.data.toList = r at *
    clear ht hl
    go_enter Tryd.func9, Tryd.ntmps9
    go_wp2_with fail
    refine (H.out _).mono ?_
    rintro e w1 ⟨rfl, hb1⟩
    go_wp2
    go_ret
    exact ⟨rfl, hb1⟩
  · have HN : Hid (okW s.data.toList = false) := Lib.hid (by unfold okW; rw [decide_eq_false (by omega)]; rfl)
    go_enter Tryd.func9, Tryd.ntmps9
    go_wp2
    go_ret
    exact ⟨ret_bool HN.out.symm, Below.refl _ _⟩
end Go.Proofs.YtfojldkiagemeaaDoor
