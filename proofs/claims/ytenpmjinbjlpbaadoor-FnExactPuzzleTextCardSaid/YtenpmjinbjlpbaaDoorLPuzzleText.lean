/- The law FnExactPuzzleText returns true at every input, and leaves its arguments as they were. No condition. -/
import Derived.Test.YtenpmjinbjlpbaaDoorRows
import Derived.Test.YtenpmjinbjlpbaaDoorOpenZ
import Derived.Test.YtenpmjinbjlpbaaDoorFactA
import Derived.Test.YtenpmjinbjlpbaaDoorFactB
import Derived.Test.YtenpmjinbjlpbaaDoorFactC
import Derived.Test.YtenpmjinbjlpbaaDoorPtC
import Derived.Test.YtenpmjinbjlpbaaDoorHelpZ
import Derived.Deep.RegionHeld3
import Derived.Test.YtenpmjinbjlpbaaDoorTie
import Derived.Test.YtenpmjinbjlpbaaDoorCards
import Derived.LaidMore
import Derived.Stop.Joined
import Derived.Stop.LaidErr
import Derived.SevenTiedAt
import Derived.MakeChecks
import Derived.Lib.LaidTab
namespace Go.Proofs.YtenpmjinbjlpbaaDoor.lPuzzleText
open Go.RowKit
open Go.ChangeShapes Go.WideShapes Go.ChangeAt
set_option linter.unusedVariables false

set_option maxHeartbeats 1000000 in
theorem big (L : Int) (A C : Option Addr) (c d : Nat) (l : List Int) (cs : List (Int × Int × Int)) (w : World) (hn : (l.length : Int) ≤ 9223372036854775807) (hm : (cs.length : Int) ≤ 9223372036854775807) (h : (1048576 : Int) < l.length + cs.length) :
    Calls Tryd.prog 5 #[.agg #[.int .i64 L, .slice A l.length c, .slice C cs.length d]] w fun e w' => e = .returned (.bool true) ∧ Below w.heap.size w w' := by
  have H : Hid (∀ w, Calls Tryd.prog 16 #[.agg #[.int .i64 L, .slice A l.length c, .slice C cs.length d], .int .i64 1048576] w fun e w' => e = .returned (.int .i64 (-1)) ∧ Below w.heap.size w w') :=
    fun w => szPuzzle_big L A C l.length c cs.length d w hn hm h
  clear h hn hm
  go_enter Tryd.func5, Tryd.ntmps5
  go_wp2_with fail
  refine (H.out _).mono ?_
  rintro e w1 ⟨rfl, hb⟩
  go_wp2
  go_ret
  exact ⟨ret_bool rfl, ((Below.refl _ _).alloc (Nat.le_refl _) _).trans (hb.mono (by simp <;> omega))⟩

set_option maxRecDepth 100000 in
set_option maxHeartbeats 8000000 in
theorem fits (L : Int) (A C : Option Addr) (c d : Nat) (l : List Int) (cs : List (Int × Int × Int)) (w : World) (h : ¬ (1048576 : Int) < l.length + cs.length) (hA : SlAt intS w A l) (hC : SlAt tripS w C cs) (hT : Tab w) :
    Calls Tryd.prog 5 #[.agg #[.int .i64 L, .slice A l.length c, .slice C cs.length d]] w fun e w' => e = .returned (.bool true) ∧ Below w.heap.size w w' := by
  obtain ⟨r, hr⟩ : ∃ r : Int, r = 1048576 - l.length - cs.length := ⟨_, rfl⟩
  have HSZ : Hid (∀ w, Calls Tryd.prog 16 #[.agg #[.int .i64 L, .slice A l.length c, .slice C cs.length d], .int .i64 1048576] w fun e w' => e = .returned (.int .i64 r) ∧ Below w.heap.size w w') :=
    fun w => by rw [hr]; exact szPuzzle_fits L A C l.length c cs.length d w h
  have hz : ¬ r < 0 := by omega
  have hl : (l.length : Int) ≤ 1048576 := by omega
  have hcs : (cs.length : Int) ≤ 1048576 := by omega
  have hl9 : (l.length : Int) ≤ 9223372036854775807 := by omega
  have hcs9 : (cs.length : Int) ≤ 9223372036854775807 := by omega
  have HT0 := Lib.hid hT
  have HA0 := Lib.hid hA
  have HC0 := Lib.hid hC
  clear hA hC hT h hr
  go_enter Tryd.func5, Tryd.ntmps5
  go_wp2_with fail
  refine (HSZ.out _).mono ?_
  rintro e w1 ⟨rfl, hb1⟩
  have HB1 : Hid (Below w.heap.size w w1) := ((Below.refl _ w).alloc (Nat.le_refl _) _).trans (hb1.mono (by simp <;> omega))
  have s1 : w.heap.size + 1 ≤ w1.heap.size := by have := hb1.size; simp at this; omega
  have c0 : w1.cell? ⟨w.heap.size, 0, none⟩ = some (.int .i64 L) := by rw [hb1.cell (p := ⟨w.heap.size, 0, none⟩) (by simp <;> omega)]; simp [go_sem]
  have c1 : w1.cell? ⟨w.heap.size, 1, none⟩ = some (.slice A l.length c) := by rw [hb1.cell (p := ⟨w.heap.size, 1, none⟩) (by simp <;> omega)]; simp [go_sem]
  have c2 : w1.cell? ⟨w.heap.size, 2, none⟩ = some (.slice C cs.length d) := by rw [hb1.cell (p := ⟨w.heap.size, 2, none⟩) (by simp <;> omega)]; simp [go_sem]
  clear hb1
  go_wp2_with fail
  -- the copy for the model
  refine (toPuzzle_any L A C c d l cs _ hl hcs (HA0.out.below HB1.out) (HC0.out.below HB1.out)).mono ?_
  rintro e w2 ⟨A2, k2, C2, j2, rfl, ho2, hp2, hb2⟩
  have s2 : w1.heap.size ≤ w2.heap.size := hb2.size
  have HB2 : Hid (Below w.heap.size w w2) := HB1.out.trans (hb2.mono HB1.out.size)
  have c0 := Below.cell_some hb2 c0
  have c1 := Below.cell_some hb2 c1
  have c2 := Below.cell_some hb2 c2
  have IOa : Hid (∀ b, (Value.slice A2 l.length k2).ownBlock = some b → w1.heap.size ≤ b ∧ b < w2.heap.size) := World.ownsRow.lt ho2
  have HOa2 := Lib.hid ho2
  have IOc : Hid (∀ b, (Value.slice C2 cs.length j2).ownBlock = some b → w1.heap.size ≤ b ∧ b < w2.heap.size) := World.ownsRow.lt hp2
  have HOc2 := Lib.hid hp2
  clear hb2 ho2 hp2
  go_wp2_with fail
  -- the model
  refine (specPT_any L A2 C2 k2 j2 l cs _ hl9 hcs9 HOa2.out.sl HOc2.out.sl).mono ?_
  rintro e w3 ⟨rfl, hb3⟩
  have s3 : w2.heap.size ≤ w3.heap.size := hb3.size
  have HB3 : Hid (Below w.heap.size w w3) := HB2.out.trans (hb3.mono HB2.out.size)
  have c0 := Below.cell_some hb3 c0
  have c1 := Below.cell_some hb3 c1
  have c2 := Below.cell_some hb3 c2
  have HOa3 := Lib.hid (SlOwn.below HOa2.out hb3)
  have HOc3 := Lib.hid (SlOwn.below HOc2.out hb3)
  clear hb3
  go_wp2_with fail
  -- the copy for the program
  refine (toPuzzle_any L A C c d l cs _ hl hcs (HA0.out.below HB3.out) (HC0.out.below HB3.out)).mono ?_
  rintro e w4 ⟨A4, k4, C4, j4, rfl, ho4, hp4, hb4⟩
  have s4 : w3.heap.size ≤ w4.heap.size := hb4.size
  have HB4 : Hid (Below w.heap.size w w4) := HB3.out.trans (hb4.mono HB3.out.size)
  have c0 := Below.cell_some hb4 c0
  have c1 := Below.cell_some hb4 c1
  have c2 := Below.cell_some hb4 c2
  have IXa : Hid (∀ b, (Value.slice A4 l.length k4).ownBlock = some b → w3.heap.size ≤ b ∧ b < w4.heap.size) := World.ownsRow.lt ho4
  have HXa4 := Lib.hid ho4
  have IXc : Hid (∀ b, (Value.slice C4 cs.length j4).ownBlock = some b → w3.heap.size ≤ b ∧ b < w4.heap.size) := World.ownsRow.lt hp4
  have HXc4 := Lib.hid hp4
  clear hb4 ho4 hp4
  obtain ⟨w5, hw5⟩ : ∃ W, W = w4.alloc (Obj.cells #[Value.int IntKind.i64 L, Value.slice A4 l.length k4, Value.slice C4 cs.length j4] 49) := ⟨_, rfl⟩
  have hb5 : Below w4.heap.size w4 w5 := by rw [hw5]; exact (Below.refl _ _).alloc (Nat.le_refl _) _
  have s5 : w4.heap.size + 1 ≤ w5.heap.size := by rw [hw5]; simp
  have HB5 : Hid (Below w.heap.size w w5) := HB4.out.trans (hb5.mono HB4.out.size)
  have yc0 := alloc_some c0 (Obj.cells #[Value.int IntKind.i64 L, Value.slice A4 l.length k4, Value.slice C4 cs.length j4] 49)
  have yc1 := alloc_some c1 (Obj.cells #[Value.int IntKind.i64 L, Value.slice A4 l.length k4, Value.slice C4 cs.length j4] 49)
  have yc2 := alloc_some c2 (Obj.cells #[Value.int IntKind.i64 L, Value.slice A4 l.length k4, Value.slice C4 cs.length j4] 49)
  have c0 := Below.cell_some hb5 c0
  have c1 := Below.cell_some hb5 c1
  have c2 := Below.cell_some hb5 c2
  have HXa5 := Lib.hid (SlOwn.below HXa4.out hb5)
  have HXc5 := Lib.hid (SlOwn.below HXc4.out hb5)
  have d0 : w5.cell? ⟨w4.heap.size, 0, none⟩ = some (.int .i64 L) := by rw [hw5]; simp [go_sem]
  have d1 : w5.cell? ⟨w4.heap.size, 1, none⟩ = some (.slice A4 l.length k4) := by rw [hw5]; simp [go_sem]
  have d2 : w5.cell? ⟨w4.heap.size, 2, none⟩ = some (.slice C4 cs.length j4) := by rw [hw5]; simp [go_sem]
  clear hb5
  go_wp2_with fail
  try rw [← hw5]
  clear hw5 yc0 yc1 yc2
  -- the program
  refine (implPT_any L A4 C4 k4 j4 l cs _ hl9 hcs9 HXa5.out.sl HXc5.out.sl (HT0.out.below HB5.out)).mono ?_
  rintro e w6 ⟨rfl, hb6⟩
  have s6 : w5.heap.size ≤ w6.heap.size := hb6.size
  have HB6 : Hid (Below w.heap.size w w6) := HB5.out.trans (hb6.mono HB5.out.size)
  have c0 := Below.cell_some hb6 c0
  have c1 := Below.cell_some hb6 c1
  have c2 := Below.cell_some hb6 c2
  have d0 := Below.cell_some hb6 d0
  have d1 := Below.cell_some hb6 d1
  have d2 := Below.cell_some hb6 d2
  have HXa6 := Lib.hid (SlOwn.below HXa5.out hb6)
  have HXc6 := Lib.hid (SlOwn.below HXc5.out hb6)
  clear hb6
  have HAA := Lib.hid (HA0.out.below HB6.out)
  have HCC := Lib.hid (HC0.out.below HB6.out)
  have HXA := Lib.hid (HXa6.out.sl)
  have HXC := Lib.hid (HXc6.out.sl)
  go_wp2
  go_region_held3 (fun w' => w'.cell? ⟨w4.heap.size, 0, none⟩ = some (.int .i64 L) ∧ w'.cell? ⟨w4.heap.size, 1, none⟩ = some (.slice A4 l.length k4) ∧ w'.cell? ⟨w4.heap.size, 2, none⟩ = some (.slice C4 cs.length j4) ∧ w'.cell? ⟨w.heap.size, 0, none⟩ = some (.int .i64 L) ∧ w'.cell? ⟨w.heap.size, 1, none⟩ = some (.slice A l.length c) ∧ w'.cell? ⟨w.heap.size, 2, none⟩ = some (.slice C cs.length d))
    (first
      | go_keep
      | exact ⟨Below.cell_some hbx d0, Below.cell_some hbx d1, Below.cell_some hbx d2, Below.cell_some hbx c0, Below.cell_some hbx c1, Below.cell_some hbx c2⟩
      | exact ⟨Below.cell_some hby d0', Below.cell_some hby d1', Below.cell_some hby d2', Below.cell_some hby c0', Below.cell_some hby c1', Below.cell_some hby c2'⟩)
    (first
      | (go_at_call 18; refine (toPuzzle_any L A C c d l cs w6.drew hl hcs HAA.out HCC.out).mono ?_; rintro e w7 ⟨A7, k7, C7, j7, rfl, ho7, hp7, hbx0⟩; have hbx := below_drew hbx0; clear hbx0; have HYA := Lib.hid ho7.sl; have HYC := Lib.hid hp7.sl; have HXA' := Lib.hid (HXA.out.below hbx); have HXC' := Lib.hid (HXC.out.below hbx); have d0' := Below.cell_some hbx d0; have d1' := Below.cell_some hbx d1; have d2' := Below.cell_some hbx d2; have c0' := Below.cell_some hbx c0; have c1' := Below.cell_some hbx c1; have c2' := Below.cell_some hbx c2)
      | (go_at_call 20; refine (eqPuzzle_true L A4 A7 C4 C7 k4 k7 j4 j7 l cs _ hl hcs HXA'.out HYA.out HXC'.out HYC.out).mono ?_; rintro e w8 ⟨rfl, hby⟩))
  have hb8 : Below w6.heap.size w6 w8 := hbx.trans (hby.mono hbx.size)
  have HB8 := Lib.hid (HB6.out.trans (hb8.mono HB6.out.size))
  go_wp2
  go_ret
  exact ⟨ret_bool rfl, HB8.out⟩

theorem law (L : Int) (A C : Option Addr) (c d : Nat) (l : List Int) (cs : List (Int × Int × Int)) (w : World) (hn : (l.length : Int) ≤ 9223372036854775807) (hm : (cs.length : Int) ≤ 9223372036854775807) (hA : SlAt intS w A l) (hC : SlAt tripS w C cs) (hT : Tab w) :
    Calls Tryd.prog 5 #[.agg #[.int .i64 L, .slice A l.length c, .slice C cs.length d]] w fun e w' => e = .returned (.bool true) ∧ Below w.heap.size w w' := by
  by_cases h : (1048576 : Int) < l.length + cs.length
  · exact big L A C c d l cs w hn hm h
  · exact fits L A C c d l cs w h hA hC hT

theorem laidEq : (Rows.laid_internal_strconv_uint64pow10 : DataW Unit) = Lib.tabData .u64 Lib.pow10Tab := by kernel_rfl
theorem gTab : Tryd.prog.globalNamed "internal/strconv.uint64pow10" = some 3 := by kernel_rfl
theorem tTab : (Tryd.prog.globals[3]?).map (·.type) = some 176 := by kernel_rfl
theorem cellsU64 : Tryd.prog.cellsOf 157 = 1 := by kernel_rfl
theorem cellsTab : Tryd.prog.cellsOf 176 = 20 := by kernel_rfl

theorem tab_of_laid {W : World} (h : laidMetH Tryd.prog Rows.fnExactPuzzleTextRow.laid W) : Tab W := by
  rw [MakeChecks.laidMetH_plain _ _ _ (by kernel_rfl)] at h
  have h2 : laidMet Tryd.prog [("internal/strconv.uint64pow10", Rows.laid_internal_strconv_uint64pow10)] W := (h.tail).tail
  rw [laidEq] at h2
  exact Lib.tabIs_of_head gTab tTab Tryd.underlying176 Tryd.underlying157 cellsU64 cellsTab h2

theorem doorMet (os : Os) (args : Array Value) : laidMetH Tryd.prog Rows.fnExactPuzzleTextRow.laid ((World.doorLaid Tryd.prog 400 os).forCall (fun _ _ => 0) ⟨#[], args, []⟩).memory :=
  laidMetH_of_parts3 (fuel := 8) (laidMet_of_run' 8 (by kernel_rfl) (by kernel_rfl)) (by kernel_rfl) (by kernel_rfl)

set_option maxRecDepth 100000 in
theorem lawPuzzleText_lifted (os : Os) (started : os.Started) (H : Type) (enc : TypeId × Value → H) :
    ReturnsInHanded {} Tryd.checked os 5 .any (fun w args => (Rows.fnExactPuzzleTextSpec.pre enc Tryd.prog Tryd.f5 [] false w args ∧ laidMetH Tryd.prog Rows.fnExactPuzzleTextRow.laid w) ∧ sizedMet enc Tryd.prog Tryd.f5 (OpenSpec.ofChange Rows.fnExactPuzzleTextSpec) false w args)
      (Rows.fnExactPuzzleTextSpec.post enc Tryd.prog Tryd.f5 false true false false) := by
  refine returnsInHanded_of_change_and (C := Tryd.checked) (X := fun w _ => laidMetH Tryd.prog Rows.fnExactPuzzleTextRow.laid w) (fun _ _ _ hh h => h.of_heap hh) own started (by kernel_rfl) Tryd.func5
    (ChangeSpec.witness_shaped (enc := enc) (C := Tryd.checked) (os := os) (X := fun w _ => laidMetH Tryd.prog Rows.fnExactPuzzleTextRow.laid w) false (World.doorLaid Tryd.prog 400 os) #[.agg #[.int .i64 0, .slice none 0 0, .slice none 0 0]] 8 rfl (World.shaped_of_RefB (by kernel_rfl) (by kernel_rfl)) (by kernel_rfl) (by kernel_rfl) (by kernel_rfl) (doorMet os _)) ?_
  intro W base args ds gs before hval0 hW _ _ hL _
  have hval : ∀ (j : Nat) t v, Tryd.f5.params[j]? = some t → args[j]? = some v → Value.okWide Tryd.prog W .any base t v := hval0
  have hW' := hW
  obtain ⟨p, q, hA0, hV, rfl, hfz, hnd⟩ := hW
  have hA : DataW.TrodAll enc Tryd.prog W 0 (fun _ => true) true Tryd.f5.params.toList args.toList ds p := hA0
  rw [Tryd.params5] at hA hval
  obtain ⟨v0, vs0, d0, ds0, p0, q0, hargs, rfl, rfl, h0, r0⟩ := trodAll_cons hA
  obtain ⟨rfl, rfl, rfl⟩ := trodAll_nil r0
  obtain rfl : args = #[v0] := by cases args; simp_all
  obtain ⟨rfl, rfl⟩ := trodVars_none hV
  have k0 := h0
  have lt0 : ∀ x ∈ p0, x.block < W.heap.size := by obtain ⟨m, hm⟩ := k0; exact DataW.trod_lt m _ _ _ hm
  obtain ⟨L, A, c, l, C, d, cs, rfl, hAt, hCt, hlen, hmen⟩ := open_puzzle (hval 0 43 v0 rfl rfl) h0
  clear hA0 hval0
  refine (law L A C c d l cs W hlen hmen hAt hCt (tab_of_laid hL)).mono fun e W' ⟨he, bel⟩ => ?_
  subst he
  exact ⟨_, rfl, _, _, _, [], _, [], hW', trodAll_mk1 (shut_bool Tryd.underlying4 _), (trodAll_cons_mk (Below.trod laidOut (by kernel_rfl) (of_decide_eq_true (by kernel_rfl)) k0 bel lt0) trodAll_mk0), rfl, bel.frame _, fun h => by cases h⟩

theorem lawPuzzleText_closed : joinedFacts Tryd.prog 5 Tryd.f5 Rows.fnExactPuzzleTextSpec Rows.fnExactPuzzleTextRow = true := by
  unfold joinedFacts
  repeat' with_reducible refine and_t ?_ ?_
  · kernel_rfl
  · kernel_rfl
  · kernel_rfl
  · kernel_rfl
  · kernel_rfl
  · kernel_rfl
  · kernel_rfl
  · kernel_rfl
  · kernel_rfl
  · kernel_rfl
  · kernel_rfl
  · kernel_rfl
  · kernel_rfl
  · kernel_rfl
  · kernel_rfl
  · kernel_rfl
  · kernel_rfl
  · kernel_rfl
  · kernel_rfl
  · kernel_rfl
  · kernel_rfl
  · kernel_rfl
  · kernel_rfl
  · kernel_rfl
  · kernel_rfl
  · exact factMayEnter
  · exact factLifts
  · exact factMake
  · kernel_rfl
  · kernel_rfl
  · kernel_rfl
  · kernel_rfl

theorem lawPuzzleText_over : Rows.fnExactPuzzleTextRow.holds Tryd.pinned (OpenSpec.ofChange Rows.fnExactPuzzleTextSpec) :=
  OpenClaim.holds_of_wide 5 Tryd.f5 rfl rfl rfl rfl rfl rfl rfl ⟨rfl, rfl, rfl, rfl, rfl⟩ rfl rfl rfl rfl rfl (by kernel_rfl) Tryd.func5 lawPuzzleText_closed
    (of_decide_eq_true (by kernel_rfl)) (by unfold Func.isWrapper; first | (rw [if_pos (by decide +kernel)]; kernel_rfl) | (rw [if_neg (by decide +kernel)]; exact ⟨rfl, rfl⟩))
    (fun os started H enc _ => lawPuzzleText_lifted os started H enc)

/-- the statement -/
theorem lawPuzzleText_proved : Rows.FnExactPuzzleTextSaid := lawPuzzleText_over

/-- the card: the row, tied to the program's text -/
theorem card : Rows.FnExactPuzzleTextCardSaid :=
  Claim7.holds_tied_plain_at .later [] [.data, .data, .data] true (true, "fab4676b1c6be416231cf11342b9eb982db8c75222987179240ed2357a721673") true
    lawPuzzleText_proved (fun _ h => by cases h) (by kernel_rfl) (fun _ h => by cases h) fnExactPuzzleText_row_tie rfl ⟨rfl, rfl⟩ (by kernel_rfl) rfl
    (fun f fn hf hfn => by
      obtain rfl : f = 5 := Option.some.inj ((show Tryd.prog.funcNamed "loop.example/g01270/laws.FnExactPuzzleText" = some 5 by kernel_rfl).symm.trans hf) |>.symm
      obtain rfl : fn = Tryd.f5 := (Option.some.inj (Tryd.func5.symm.trans hfn)).symm
      exact ⟨by kernel_rfl, fun j t ht => by
        rw [Tryd.params5] at ht
        have hm : t ∈ [43] := by simpa using Array.mem_of_getElem? ht
        have hall : ([43].all fun u => !Tryd.prog.wantsStandIn u) = true := by kernel_rfl
        exact (show Tryd.prog.wantsStandIn t = false by simpa using List.all_eq_true.1 hall t hm)⟩)
    (by kernel_rfl)
#print axioms card

end Go.Proofs.YtenpmjinbjlpbaaDoor.lPuzzleText
