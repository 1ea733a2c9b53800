/- (WoL beside Good.) Words: the library's functions of texts, as this program meets them. -/
import Derived.Test.YtenpmjinbjlpbaaDoorWoD
import Derived.Test.YtenpmjinbjlpbaaDoorShelfW
namespace Go.Proofs.YtenpmjinbjlpbaaDoor
open Go.RowKit

def MaxL (w : World) : Prop := ∃ m, w.cell? ⟨2, 0, none⟩ = some (.int .i64 m)
theorem MaxL.below {w w' : World} (h : MaxL w) (hb : Below w.heap.size w w') : MaxL w' := by
  obtain ⟨m, hm⟩ := h
  exact ⟨m, Below.cell_some hb hm⟩

theorem byteInfo : (Tryd.prog.info? 5).map (fun i => (i.zero, i.size, i.bytes)) = some (some (.int .u8 0), 1, 1) := by kernel_rfl


theorem count_one_any (l : List UInt8) (c : UInt8) (w : World) :
    Calls Tryd.prog 109 #[.string (mkB l), .string ⟨#[c]⟩] w fun e w' => e = .returned (.int .i64 (l.count c : Nat)) ∧ w' = w :=
  Any.strings_Count_one countT (mkB l) c w





theorem setInfo : (Tryd.prog.info? 130).map (fun i => (i.zero, i.size)) = some (some (.agg (Array.replicate 256 (.bool false))), 256) := by kernel_rfl
set_option maxHeartbeats 1000000 in
theorem isWord_any (s : ByteArray) (hs : s.size ≤ 1048576) (w : World) :
    Calls Tryd.prog 33 #[.string s] w fun e w' => e = .returned (.bool (okW s.data.toList)) ∧ Below w.heap.size w w' := by
  have hl := len_toList s
  by_cases h : s.size ≤ 14
  · obtain ⟨t, ht⟩ : ∃ t : ByteArray, t = ⟨(Lib.trimS s.data.toList [108, 114]).toArray⟩ := ⟨_, rfl⟩
    have H : Hid (∀ W, Calls Tryd.prog 67 #[.string s, .string ⟨#[108, 114]⟩] W fun e w' => e = .returned (.string t) ∧ Below W.heap.size W w') := Lib.hid fun W => by
      rw [ht]
      exact Any.strings_Trim_laid trimT setInfo s ⟨#[108, 114]⟩ W (by omega) (by decide) (ascii_of_all (by decide))
    have he : t.toList.isEmpty = okW s.data.toList := by
      have e1 : t.toList = Lib.trimS s.data.toList [108, 114] := by rw [ht, Lib.toList_data]
      have e2 := trim_nil s.data.toList [108, 114]
      have e3 : okW s.data.toList = s.data.toList.all isLr := by unfold okW; rw [decide_eq_true (by omega)]; rfl
      rw [show (fun x => ([108, 114] : List UInt8).contains x) = isLr from lr_contains] at e2
      rw [e1, e3]
      cases ha : s.data.toList.all isLr with
      | true => rw [e2.2 ha]; rfl
      | false =>
        cases hb : Lib.trimS s.data.toList [108, 114] with
        | nil => rw [e2.1 hb] at ha; cases ha
        | cons x y => rfl
    generalize okW s.data.toList = r at *
    clear ht hl
    go_enter Tryd.func33, Tryd.ntmps33
    go_wp2_with fail
    refine (H.out _).mono ?_
    rintro e w1 ⟨rfl, hb1⟩
    go_wp2
    go_ret
    exact ⟨rfl, hb1⟩
  · have HN : Hid (okW s.data.toList = false) := Lib.hid (by unfold okW; rw [decide_eq_false (by omega)]; rfl)
    go_enter Tryd.func33, Tryd.ntmps33
    go_wp2
    go_ret
    exact ⟨ret_bool HN.out.symm, Below.refl _ _⟩
end Go.Proofs.YtenpmjinbjlpbaaDoor
