/- The law FnExactFirstDesk returns true. The listed tables and sentinels of the library lie as the text lays them. -/
import Derived.Test.YtenpmjinbjlpbaaDoorRows
import Derived.Test.YtenpmjinbjlpbaaDoorDkB
import Derived.Test.YtenpmjinbjlpbaaDoorOpen
import Derived.Test.YtenpmjinbjlpbaaDoorFactA
import Derived.Test.YtenpmjinbjlpbaaDoorFactB
import Derived.Test.YtenpmjinbjlpbaaDoorFactC
import Derived.Test.YtenpmjinbjlpbaaDoorHelp
import Derived.Test.YtenpmjinbjlpbaaDoorMark
import Derived.Test.YtenpmjinbjlpbaaDoorTie
import Derived.Test.YtenpmjinbjlpbaaDoorCards
import Derived.LaidMore
import Derived.Stop.Joined
import Derived.Stop.LaidErr
import Derived.SevenTiedAt
import Derived.MakeChecks
import Derived.Lib.LaidTab
import Derived.ChangeMaps5
import Derived.Shelf.Vars
namespace Go.Proofs.YtenpmjinbjlpbaaDoor.lFirstDesk
open Go.RowKit
open Go.ChangeShapes Go.WideShapes Go.ChangeAt
set_option linter.unusedVariables false

set_option maxRecDepth 100000 in
set_option maxHeartbeats 4000000 in
theorem law (w : World) (hE : Errs w) (hT : Tab w) (hM : MaxL w) :
    Calls Tryd.prog 3 #[] w fun e w' => e = .returned (.bool true) ∧ Below w.heap.size w w' := by
  have HE := Lib.hid hE
  have HT := Lib.hid hT
  have HM := Lib.hid hM
  have HS := Lib.hid specFirst_any
  have HI := Lib.hid implFirst_any
  have HL : Hid ((fdA.length : Int) ≤ 1048576) := by show _ ≤ _; decide
  clear hE hT hM
  generalize fdA = l at *
  go_enter Tryd.func3, Tryd.ntmps3
  have HB0 : Hid (Below w.heap.size w w) := Below.refl _ _
  go_wp2_with fail
  refine (HS.out _).mono ?_
  rintro e w1 ⟨A1, k1, rfl, ho1, hb1⟩
  have s1 : w.heap.size ≤ w1.heap.size := hb1.size
  have HB1 : Hid (Below w.heap.size w w1) := HB0.out.trans (hb1.mono HB0.out.size)
  have IW : Hid (∀ b, (Value.slice A1 l.length k1).ownBlock = some b → w.heap.size ≤ b ∧ b < w1.heap.size) := World.ownsRow.lt ho1
  have HW1 := Lib.hid ho1
  clear hb1 ho1
  obtain ⟨w2, hw2⟩ : ∃ W, W = w1.alloc (Obj.cells #[Value.int IntKind.i64 20, Value.slice A1 l.length k1, Value.string fdW] 26) := ⟨_, rfl⟩
  have hb2 : Below w1.heap.size w1 w2 := by rw [hw2]; exact (Below.refl _ _).alloc (Nat.le_refl _) _
  have s2 : w1.heap.size + 1 ≤ w2.heap.size := by rw [hw2]; simp
  have HB2 : Hid (Below w.heap.size w w2) := HB1.out.trans (hb2.mono HB1.out.size)
  have HW2 := Lib.hid (SlOwn.below HW1.out hb2)
  have m0 : w2.cell? ⟨w1.heap.size, 0, none⟩ = some (.int .i64 20) := by rw [hw2]; simp [go_sem]
  have m1 : w2.cell? ⟨w1.heap.size, 1, none⟩ = some (.slice A1 l.length k1) := by rw [hw2]; simp [go_sem]
  have m2 : w2.cell? ⟨w1.heap.size, 2, none⟩ = some (.string fdW) := by rw [hw2]; simp [go_sem]
  clear hb2
  go_wp2_with fail
  try rw [← hw2]
  clear hw2
  refine (HI.out _ (HE.out.below HB2.out) (HT.out.below HB2.out) (HM.out.below HB2.out)).mono ?_
  rintro e w3 ⟨A3, k3, rfl, ho3, hb3⟩
  have s3 : w2.heap.size ≤ w3.heap.size := hb3.size
  have HB3 : Hid (Below w.heap.size w w3) := HB2.out.trans (hb3.mono HB2.out.size)
  have m0 := Below.cell_some hb3 m0
  have m1 := Below.cell_some hb3 m1
  have m2 := Below.cell_some hb3 m2
  have HW3 := Lib.hid (SlOwn.below HW2.out hb3)
  have IG : Hid (∀ b, (Value.slice A3 l.length k3).ownBlock = some b → w2.heap.size ≤ b ∧ b < w3.heap.size) := World.ownsRow.lt ho3
  have HG3 := Lib.hid ho3
  clear hb3 ho3
  obtain ⟨w4, hw4⟩ : ∃ W, W = w3.alloc (Obj.cells #[Value.int IntKind.i64 20, Value.slice A3 l.length k3, Value.string fdW] 26) := ⟨_, rfl⟩
  have hb4 : Below w3.heap.size w3 w4 := by rw [hw4]; exact (Below.refl _ _).alloc (Nat.le_refl _) _
  have s4 : w3.heap.size + 1 ≤ w4.heap.size := by rw [hw4]; simp
  have HB4 : Hid (Below w.heap.size w w4) := HB3.out.trans (hb4.mono HB3.out.size)
  have ym0 := alloc_some m0 (Obj.cells #[Value.int IntKind.i64 20, Value.slice A3 l.length k3, Value.string fdW] 26)
  have ym1 := alloc_some m1 (Obj.cells #[Value.int IntKind.i64 20, Value.slice A3 l.length k3, Value.string fdW] 26)
  have ym2 := alloc_some m2 (Obj.cells #[Value.int IntKind.i64 20, Value.slice A3 l.length k3, Value.string fdW] 26)
  have m0 := Below.cell_some hb4 m0
  have m1 := Below.cell_some hb4 m1
  have m2 := Below.cell_some hb4 m2
  have HW4 := Lib.hid (SlOwn.below HW3.out hb4)
  have HG4 := Lib.hid (SlOwn.below HG3.out hb4)
  have n0 : w4.cell? ⟨w3.heap.size, 0, none⟩ = some (.int .i64 20) := by rw [hw4]; simp [go_sem]
  have n1 : w4.cell? ⟨w3.heap.size, 1, none⟩ = some (.slice A3 l.length k3) := by rw [hw4]; simp [go_sem]
  have n2 : w4.cell? ⟨w3.heap.size, 2, none⟩ = some (.string fdW) := by rw [hw4]; simp [go_sem]
  clear hb4
  go_wp2_with fail
  try rw [← hw4]
  clear hw4 ym0 ym1 ym2
  refine (eqDesk_true 20 A3 A1 k3 k1 l fdW _ HL.out (AntsOwn.ants (antsOwn_iff.2 HG4.out)) (AntsOwn.ants (antsOwn_iff.2 HW4.out))).mono ?_
  rintro e w5 ⟨rfl, hb5⟩
  have s5 : w4.heap.size ≤ w5.heap.size := hb5.size
  have HB5 : Hid (Below w.heap.size w w5) := HB4.out.trans (hb5.mono HB4.out.size)
  have m0 := Below.cell_some hb5 m0
  have m1 := Below.cell_some hb5 m1
  have m2 := Below.cell_some hb5 m2
  have n0 := Below.cell_some hb5 n0
  have n1 := Below.cell_some hb5 n1
  have n2 := Below.cell_some hb5 n2
  have HW5 := Lib.hid (SlOwn.below HW4.out hb5)
  have HG5 := Lib.hid (SlOwn.below HG4.out hb5)
  clear hb5
  go_wp2_with fail
  refine (markDesk_any 20 A3 k3 _ l fdW _ HL.out (antsOwn_iff.2 HG5.out)).mono ?_
  rintro e w6 ⟨rfl, ho6, hg6⟩
  have s6 : w5.heap.size ≤ w6.heap.size := hg6.size
  have m0 := grown_cell hg6 IG.out (by simp only; omega) m0
  have m1 := grown_cell hg6 IG.out (by simp only; omega) m1
  have m2 := grown_cell hg6 IG.out (by simp only; omega) m2
  have n0 := grown_cell hg6 IG.out (by simp only; omega) n0
  have n1 := grown_cell hg6 IG.out (by simp only; omega) n1
  have n2 := grown_cell hg6 IG.out (by simp only; omega) n2
  have HB6 : Hid (Below w.heap.size w w6) := HB5.out.trans (grown_below hg6 IG.out (by omega) HB5.out.size)
  have HW6 := Lib.hid (grown_own hg6 IG.out (S := pairS) HW5.out (fun b hb => by have := IW.out b hb; omega))
  have HG6 := Lib.hid (antsOwn_iff.1 ho6)
  clear hg6 ho6
  have hm1 : ¬ (1 + 2 * (l.length : Int)) < 0 := by omega
  go_wp2_with fail
  refine (heldDesk_any 20 A3 k3 l.length fdW _ HL.out (AntsOwn.ants (antsOwn_iff.2 HG6.out))).mono ?_
  rintro e w7 ⟨rfl, hb7⟩
  have s7 : w6.heap.size ≤ w7.heap.size := hb7.size
  have HB7 : Hid (Below w.heap.size w w7) := HB6.out.trans (hb7.mono HB6.out.size)
  have m0 := Below.cell_some hb7 m0
  have m1 := Below.cell_some hb7 m1
  have m2 := Below.cell_some hb7 m2
  have n0 := Below.cell_some hb7 n0
  have n1 := Below.cell_some hb7 n1
  have n2 := Below.cell_some hb7 n2
  have HW7 := Lib.hid (SlOwn.below HW6.out hb7)
  have HG7 := Lib.hid (SlOwn.below HG6.out hb7)
  clear hb7
  go_wp2_with fail
  refine (HI.out _ (HE.out.below HB7.out) (HT.out.below HB7.out) (HM.out.below HB7.out)).mono ?_
  rintro e w8 ⟨A8, k8, rfl, ho8, hb8⟩
  have s8 : w7.heap.size ≤ w8.heap.size := hb8.size
  have HB8 : Hid (Below w.heap.size w w8) := HB7.out.trans (hb8.mono HB7.out.size)
  have m0 := Below.cell_some hb8 m0
  have m1 := Below.cell_some hb8 m1
  have m2 := Below.cell_some hb8 m2
  have n0 := Below.cell_some hb8 n0
  have n1 := Below.cell_some hb8 n1
  have n2 := Below.cell_some hb8 n2
  have HW8 := Lib.hid (SlOwn.below HW7.out hb8)
  have HG8 := Lib.hid (SlOwn.below HG7.out hb8)
  have IN : Hid (∀ b, (Value.slice A8 l.length k8).ownBlock = some b → w7.heap.size ≤ b ∧ b < w8.heap.size) := World.ownsRow.lt ho8
  have HN8 := Lib.hid ho8
  clear hb8 ho8
  obtain ⟨w9, hw9⟩ : ∃ W, W = w8.alloc (Obj.cells #[Value.int IntKind.i64 20, Value.slice A8 l.length k8, Value.string fdW] 26) := ⟨_, rfl⟩
  have hb9 : Below w8.heap.size w8 w9 := by rw [hw9]; exact (Below.refl _ _).alloc (Nat.le_refl _) _
  have s9 : w8.heap.size + 1 ≤ w9.heap.size := by rw [hw9]; simp
  have HB9 : Hid (Below w.heap.size w w9) := HB8.out.trans (hb9.mono HB8.out.size)
  have ym0 := alloc_some m0 (Obj.cells #[Value.int IntKind.i64 20, Value.slice A8 l.length k8, Value.string fdW] 26)
  have ym1 := alloc_some m1 (Obj.cells #[Value.int IntKind.i64 20, Value.slice A8 l.length k8, Value.string fdW] 26)
  have ym2 := alloc_some m2 (Obj.cells #[Value.int IntKind.i64 20, Value.slice A8 l.length k8, Value.string fdW] 26)
  have yn0 := alloc_some n0 (Obj.cells #[Value.int IntKind.i64 20, Value.slice A8 l.length k8, Value.string fdW] 26)
  have yn1 := alloc_some n1 (Obj.cells #[Value.int IntKind.i64 20, Value.slice A8 l.length k8, Value.string fdW] 26)
  have yn2 := alloc_some n2 (Obj.cells #[Value.int IntKind.i64 20, Value.slice A8 l.length k8, Value.string fdW] 26)
  have m0 := Below.cell_some hb9 m0
  have m1 := Below.cell_some hb9 m1
  have m2 := Below.cell_some hb9 m2
  have n0 := Below.cell_some hb9 n0
  have n1 := Below.cell_some hb9 n1
  have n2 := Below.cell_some hb9 n2
  have HW9 := Lib.hid (SlOwn.below HW8.out hb9)
  have HG9 := Lib.hid (SlOwn.below HG8.out hb9)
  have HN9 := Lib.hid (SlOwn.below HN8.out hb9)
  have r0 : w9.cell? ⟨w8.heap.size, 0, none⟩ = some (.int .i64 20) := by rw [hw9]; simp [go_sem]
  have r1 : w9.cell? ⟨w8.heap.size, 1, none⟩ = some (.slice A8 l.length k8) := by rw [hw9]; simp [go_sem]
  have r2 : w9.cell? ⟨w8.heap.size, 2, none⟩ = some (.string fdW) := by rw [hw9]; simp [go_sem]
  clear hb9
  go_wp2_with fail
  try rw [← hw9]
  clear hw9 ym0 ym1 ym2 yn0 yn1 yn2
  refine (eqDesk_true 20 A8 A1 k8 k1 l fdW _ HL.out (AntsOwn.ants (antsOwn_iff.2 HN9.out)) (AntsOwn.ants (antsOwn_iff.2 HW9.out))).mono ?_
  rintro e w10 ⟨rfl, hb10⟩
  have s10 : w9.heap.size ≤ w10.heap.size := hb10.size
  have HB10 : Hid (Below w.heap.size w w10) := HB9.out.trans (hb10.mono HB9.out.size)
  have m0 := Below.cell_some hb10 m0
  have m1 := Below.cell_some hb10 m1
  have m2 := Below.cell_some hb10 m2
  have n0 := Below.cell_some hb10 n0
  have n1 := Below.cell_some hb10 n1
  have n2 := Below.cell_some hb10 n2
  have r0 := Below.cell_some hb10 r0
  have r1 := Below.cell_some hb10 r1
  have r2 := Below.cell_some hb10 r2
  have HW10 := Lib.hid (SlOwn.below HW9.out hb10)
  have HG10 := Lib.hid (SlOwn.below HG9.out hb10)
  have HN10 := Lib.hid (SlOwn.below HN9.out hb10)
  clear hb10
  go_wp2_with fail
  refine (heldDesk_any 20 A3 k3 l.length fdW _ HL.out (AntsOwn.ants (antsOwn_iff.2 HG10.out))).mono ?_
  rintro e w11 ⟨rfl, hb11⟩
  have s11 : w10.heap.size ≤ w11.heap.size := hb11.size
  have HB11 : Hid (Below w.heap.size w w11) := HB10.out.trans (hb11.mono HB10.out.size)
  have m0 := Below.cell_some hb11 m0
  have m1 := Below.cell_some hb11 m1
  have m2 := Below.cell_some hb11 m2
  have n0 := Below.cell_some hb11 n0
  have n1 := Below.cell_some hb11 n1
  have n2 := Below.cell_some hb11 n2
  have r0 := Below.cell_some hb11 r0
  have r1 := Below.cell_some hb11 r1
  have r2 := Below.cell_some hb11 r2
  have HW11 := Lib.hid (SlOwn.below HW10.out hb11)
  have HG11 := Lib.hid (SlOwn.below HG10.out hb11)
  have HN11 := Lib.hid (SlOwn.below HN10.out hb11)
  clear hb11
  go_wp2
  go_ret
  exact ⟨ret_bool rfl, HB11.out⟩

theorem laidEq : (Rows.laid_internal_strconv_uint64pow10 : DataW Unit) = Lib.tabData .u64 Lib.pow10Tab := by kernel_rfl
theorem gTab : Tryd.prog.globalNamed "internal/strconv.uint64pow10" = some 3 := by kernel_rfl
theorem tTab : (Tryd.prog.globals[3]?).map (·.type) = some 176 := by kernel_rfl
theorem cellsU64 : Tryd.prog.cellsOf 157 = 1 := by kernel_rfl
theorem cellsTab : Tryd.prog.cellsOf 176 = 20 := by kernel_rfl
theorem gRange : Tryd.prog.globalNamed "strconv.ErrRange" = some 1 := by kernel_rfl
theorem tRange : (Tryd.prog.globals[1]?).map (·.type) = some 82 := by kernel_rfl
theorem gSyntax : Tryd.prog.globalNamed "strconv.ErrSyntax" = some 0 := by kernel_rfl
theorem tSyntax : (Tryd.prog.globals[0]?).map (·.type) = some 82 := by kernel_rfl
theorem cellsErr : Tryd.prog.cellsOf 183 = 1 := by kernel_rfl
theorem cellsStr : Tryd.prog.cellsOf 9 = 1 := by kernel_rfl
theorem starErr : "*" ++ "errors.errorString" = "*errors.errorString" := by decide
theorem rowErr (u : TypeId) (h : Tryd.prog.typeName? 3 u = some "*errors.errorString") : u = 181 :=
  typeName_ptr_named (nm := "errors.errorString") (by rw [starErr]; kernel_rfl) (by kernel_rfl) (by decide) u (by rw [starErr]; exact h)

theorem laid_parts {W : World} (h : laidMetH Tryd.prog Rows.fnExactFirstDeskRow.laid W) : Errs W ∧ Tab W := by
  rw [MakeChecks.laidMetH_plain _ _ _ (by kernel_rfl)] at h
  have h2 : laidMet Tryd.prog [("internal/strconv.uint64pow10", Rows.laid_internal_strconv_uint64pow10), ("strconv.ErrRange", Rows.laid_strconv_ErrRange), ("strconv.ErrSyntax", Rows.laid_strconv_ErrSyntax)] W := (h.tail).tail
  have h3 : laidMet Tryd.prog [("strconv.ErrRange", Rows.laid_strconv_ErrRange), ("strconv.ErrSyntax", Rows.laid_strconv_ErrSyntax)] W := h2.tail
  have h4 : laidMet Tryd.prog [("strconv.ErrSyntax", Rows.laid_strconv_ErrSyntax)] W := h3.tail
  obtain ⟨a, _, ha, _⟩ := laid_sentinel h3 gRange tRange Tryd.underlying82 rowErr Tryd.underlying181 Tryd.underlying183 rfl rfl Tryd.underlying9 cellsErr cellsStr
  obtain ⟨b, _, hb, _⟩ := laid_sentinel h4 gSyntax tSyntax Tryd.underlying82 rowErr Tryd.underlying181 Tryd.underlying183 rfl rfl Tryd.underlying9 cellsErr cellsStr
  rw [laidEq] at h2
  exact ⟨⟨⟨_, _, hb⟩, ⟨_, _, ha⟩⟩, Lib.tabIs_of_head gTab tTab Tryd.underlying176 Tryd.underlying157 cellsU64 cellsTab h2⟩

theorem maxL_of_shape {W : World} (h : W.ShapedOpen Tryd.prog) : MaxL W :=
  cell_of_shapedOpen_int (g := 2) (t := 3) (zero := #[.int .i64 0]) h (of_decide_eq_true (by kernel_rfl)) (by kernel_rfl) rfl (by kernel_rfl) (by kernel_rfl) Tryd.underlying3

theorem doorMet (os : Os) (args : Array Value) : laidMetH Tryd.prog Rows.fnExactFirstDeskRow.laid ((World.doorLaid Tryd.prog 400 os).forCall (fun _ _ => 0) ⟨#[], args, []⟩).memory :=
  laidMetH_of_parts3 (fuel := 8) (laidMet_of_run' 8 (by kernel_rfl) (by kernel_rfl)) (by kernel_rfl) (by kernel_rfl)

set_option maxRecDepth 100000 in
theorem lawFirstDesk_lifted (os : Os) (started : os.Started) (H : Type) (enc : TypeId × Value → H) :
    ReturnsInHanded {} Tryd.checked os 3 .any (fun w args => (Rows.fnExactFirstDeskSpec.pre enc Tryd.prog Tryd.f3 [] false w args ∧ laidMetH Tryd.prog Rows.fnExactFirstDeskRow.laid w) ∧ sizedMet enc Tryd.prog Tryd.f3 (OpenSpec.ofChange Rows.fnExactFirstDeskSpec) false w args)
      (Rows.fnExactFirstDeskSpec.post enc Tryd.prog Tryd.f3 false true false false) := by
  refine returnsInHanded_of_calls (C := Tryd.checked) own started (by kernel_rfl)
    (ChangeSpec.witness_shaped (enc := enc) (C := Tryd.checked) (os := os) (X := fun w _ => laidMetH Tryd.prog Rows.fnExactFirstDeskRow.laid w) false (World.doorLaid Tryd.prog 400 os) #[] 8 rfl (World.shaped_of_RefB (by kernel_rfl) (by kernel_rfl)) (by kernel_rfl) (by kernel_rfl) (by kernel_rfl) (doorMet os _)) ?_
  intro w tape i _ hsh _ hok hpre hholds
  obtain ⟨_, _, _, fn', hfn', _, _, _, _, hval0⟩ := hok
  have efn : fn' = Tryd.f3 := Option.some.inj (hfn'.symm.trans Tryd.func3)
  subst efn
  obtain ⟨⟨⟨ds, gs, before, hw, _⟩, hx⟩, _⟩ := hpre
  have hW : DataW.Whole enc Tryd.prog Tryd.f3.params.toList Rows.fnExactFirstDeskSpec.vars false (w.forCall tape i) i.args.toList ds gs before := DataW.Whole.of_heap (w' := w.forCall tape i) (by rfl) hw
  have hL : laidMetH Tryd.prog Rows.fnExactFirstDeskRow.laid (w.forCall tape i) := hx.of_heap (by rfl)
  have hM : MaxL (w.forCall tape i) := maxL_of_shape hsh
  have hval : ∀ (j : Nat) t v, Tryd.f3.params[j]? = some t → i.args[j]? = some v → Value.okWide Tryd.prog (w.forCall tape i) .any w.heap.size t v := hval0
  clear hw hx hval0 hsh hholds hfn'
  generalize w.forCall tape i = W at *
  generalize i.args = args at *
  have hW' := hW
  obtain ⟨p, q, hA0, hV, rfl, hfz, hnd⟩ := hW
  have hA : DataW.TrodAll enc Tryd.prog W 0 (fun _ => true) true Tryd.f3.params.toList args.toList ds p := hA0
  rw [Tryd.params3] at hA
  obtain ⟨hargs, rfl, rfl⟩ := trodAll_nil hA
  obtain rfl : args = #[] := by cases args; simp_all
  obtain ⟨rfl, rfl⟩ := trodVars_none hV
  clear hA0
  have hLP := laid_parts hL
  refine (law W hLP.1 hLP.2 hM).mono fun e W' ⟨he, bel⟩ => ?_
  subst he
  exact ChangeSpec.post_blind ⟨_, _, _, [], _, [], hW', trodAll_mk1 (shut_bool Tryd.underlying4 _), trodAll_mk0, rfl, bel.frame _, fun h => by cases h⟩

theorem lawFirstDesk_closed : joinedFacts Tryd.prog 3 Tryd.f3 Rows.fnExactFirstDeskSpec Rows.fnExactFirstDeskRow = true := by
  unfold joinedFacts
  repeat' with_reducible refine and_t ?_ ?_
  · kernel_rfl
  · kernel_rfl
  · kernel_rfl
  · kernel_rfl
  · kernel_rfl
  · kernel_rfl
  · kernel_rfl
  · kernel_rfl
  · kernel_rfl
  · kernel_rfl
  · kernel_rfl
  · kernel_rfl
  · kernel_rfl
  · kernel_rfl
  · kernel_rfl
  · kernel_rfl
  · kernel_rfl
  · kernel_rfl
  · kernel_rfl
  · kernel_rfl
  · kernel_rfl
  · kernel_rfl
  · kernel_rfl
  · kernel_rfl
  · kernel_rfl
  · exact factMayEnter
  · exact factLifts
  · exact factMake
  · kernel_rfl
  · kernel_rfl
  · kernel_rfl
  · kernel_rfl

theorem lawFirstDesk_over : Rows.fnExactFirstDeskRow.holds Tryd.pinned (OpenSpec.ofChange Rows.fnExactFirstDeskSpec) :=
  OpenClaim.holds_of_wide 3 Tryd.f3 rfl rfl rfl rfl rfl rfl rfl ⟨rfl, rfl, rfl, rfl, rfl⟩ rfl rfl rfl rfl rfl (by kernel_rfl) Tryd.func3 lawFirstDesk_closed
    (of_decide_eq_true (by kernel_rfl)) (by unfold Func.isWrapper; first | (rw [if_pos (by decide +kernel)]; kernel_rfl) | (rw [if_neg (by decide +kernel)]; exact ⟨rfl, rfl⟩))
    (fun os started H enc _ => lawFirstDesk_lifted os started H enc)

/-- the statement -/
theorem lawFirstDesk_proved : Rows.FnExactFirstDeskSaid := lawFirstDesk_over

/-- the card: the row, tied to the program's text -/
theorem card : Rows.FnExactFirstDeskCardSaid :=
  Claim7.holds_tied_plain_at .later [] [.data, .data, .data, .sentinel, .sentinel] true (true, "fab4676b1c6be416231cf11342b9eb982db8c75222987179240ed2357a721673") true
    lawFirstDesk_proved (fun _ h => by cases h) (by kernel_rfl) (fun _ h => by cases h) fnExactFirstDesk_row_tie rfl ⟨rfl, rfl⟩ (by kernel_rfl) rfl
    (fun f fn hf hfn => by
      obtain rfl : f = 3 := Option.some.inj ((show Tryd.prog.funcNamed "loop.example/g01270/laws.FnExactFirstDesk" = some 3 by kernel_rfl).symm.trans hf) |>.symm
      obtain rfl : fn = Tryd.f3 := (Option.some.inj (Tryd.func3.symm.trans hfn)).symm
      exact ⟨by kernel_rfl, fun j t ht => by
        rw [Tryd.params3] at ht
        have hm : t ∈ [9] := by simpa using Array.mem_of_getElem? ht
        have hall : ([9].all fun u => !Tryd.prog.wantsStandIn u) = true := by kernel_rfl
        exact (show Tryd.prog.wantsStandIn t = false by simpa using List.all_eq_true.1 hall t hm)⟩)
    (by kernel_rfl)
#print axioms card

end Go.Proofs.YtenpmjinbjlpbaaDoor.lFirstDesk
