/- The law FnExactParseCircle returns true at every string, where the listed variables of the library lie as the text lays them, and leaves its argument as it was. -/
import Derived.Test.YtpchgmcegholoaaDoorRows
import Derived.Test.YtpchgmcegholoaaDoorOpen
import Derived.Test.YtpchgmcegholoaaDoorFactA
import Derived.Test.YtpchgmcegholoaaDoorFactB
import Derived.Test.YtpchgmcegholoaaDoorFactC
import Derived.Test.YtpchgmcegholoaaDoorCirX
import Derived.Test.YtpchgmcegholoaaDoorHelpC
import Derived.Test.YtpchgmcegholoaaDoorMarkC
import Derived.Test.YtpchgmcegholoaaDoorTie
import Derived.Test.YtpchgmcegholoaaDoorCards
import Derived.LaidMore
import Derived.Stop.Joined
import Derived.Stop.LaidErr
import Derived.SevenTiedAt
import Derived.MakeChecks
import Derived.Lib.LaidTab
import Derived.ChangeMaps5
import Derived.Shelf.Vars
namespace Go.Proofs.YtpchgmcegholoaaDoor
open Go.RowKit
open Go.ChangeShapes Go.WideShapes Go.ChangeAt
set_option linter.unusedVariables false

set_option maxHeartbeats 1000000 in
theorem lawParseCircle_big (s : ByteArray) (w : World) (hn : (s.size : Int) ≤ 9223372036854775807) (h : (1048576 : Int) < s.size) :
    Calls Tryd.prog 4 #[.string s] w fun e w' => e = .returned (.bool true) ∧ Below w.heap.size w w' := by
  go_enter Tryd.func4, Tryd.ntmps4
  go_wp2
  go_ret
  exact ⟨ret_bool rfl, Below.refl _ _⟩

set_option maxRecDepth 100000 in
set_option maxHeartbeats 8000000 in
theorem lawParseCircle_fits (s : ByteArray) (w : World) (h : s.size ≤ 1048576) (hE : Errs w) (hT : Tab w) (hM : MaxL w) :
    Calls Tryd.prog 4 #[.string s] w fun e w' => e = .returned (.bool true) ∧ Below w.heap.size w w' := by
  have HS := Lib.hid (fun W => specParseC_any s h W)
  have HI := Lib.hid (fun W a b c => parseCircle_any s h W a b c)
  have hvb : (((qA s.data.toList).length : Nat) : Int) ≤ 1048576 := by have := qA_len s.data.toList; omega
  have hsz : ¬ (1048576 : Int) < s.size := by omega
  generalize qL s.data.toList = L at *
  generalize qA s.data.toList = V at *
  generalize qOk s.data.toList = ok at *
  have HVB := Lib.hid hvb
  have HE := Lib.hid hE
  have HT := Lib.hid hT
  have HM := Lib.hid hM
  clear hE hT hM
  go_enter Tryd.func4, Tryd.ntmps4
  go_wp2_with fail
  -- the model
  refine (HS.out _).mono ?_
  rintro e w3 ⟨A3, n3, k3, rfl, hn3, ho3, hb3⟩
  subst hn3
  have HB3 := Lib.hid (hb3.alloc hb3.size (Obj.cells #[Value.int IntKind.i64 L, Value.slice A3 V.length k3] 30))
  have m0 : (w3.alloc (Obj.cells #[Value.int IntKind.i64 L, Value.slice A3 V.length k3] 30)).cell? ⟨w3.heap.size, 0, none⟩ = some (.int .i64 L) := by simp
  have m1 : (w3.alloc (Obj.cells #[Value.int IntKind.i64 L, Value.slice A3 V.length k3] 30)).cell? ⟨w3.heap.size, 1, none⟩ = some (.slice A3 V.length k3) := by simp
  have s3 : w.heap.size ≤ w3.heap.size := hb3.size
  have HW3 := Lib.hid (AntsOwn.below ho3 ((Below.refl _ _).alloc (Nat.le_refl _) (Obj.cells #[Value.int IntKind.i64 L, Value.slice A3 V.length k3] 30)))
  have IW := Lib.hid (World.ownsRow.lt ho3)
  clear hb3 ho3
  go_wp2_with fail
  -- the program
  refine (HI.out _ (HE.out.below HB3.out) (HT.out.below HB3.out) (HM.out.below HB3.out)).mono ?_
  rintro e w5 ⟨A5, n5, k5, rfl, hn5, ho5, hb5⟩
  subst hn5
  have s5 : w3.heap.size + 1 ≤ w5.heap.size := by have := hb5.size; simpa using this
  have HB5 := Lib.hid ((HB3.out.trans (hb5.mono HB3.out.size)).alloc (by omega) (Obj.cells #[Value.int IntKind.i64 L, Value.slice A5 V.length k5] 30))
  have m0 := alloc_some (Below.cell_some hb5 m0) (Obj.cells #[Value.int IntKind.i64 L, Value.slice A5 V.length k5] 30)
  have m1 := alloc_some (Below.cell_some hb5 m1) (Obj.cells #[Value.int IntKind.i64 L, Value.slice A5 V.length k5] 30)
  have n0 : (w5.alloc (Obj.cells #[Value.int IntKind.i64 L, Value.slice A5 V.length k5] 30)).cell? ⟨w5.heap.size, 0, none⟩ = some (.int .i64 L) := by simp
  have n1 : (w5.alloc (Obj.cells #[Value.int IntKind.i64 L, Value.slice A5 V.length k5] 30)).cell? ⟨w5.heap.size, 1, none⟩ = some (.slice A5 V.length k5) := by simp
  have HW5 := Lib.hid (AntsOwn.below HW3.out (hb5.alloc (by simp; omega) (Obj.cells #[Value.int IntKind.i64 L, Value.slice A5 V.length k5] 30)))
  have HG5 := Lib.hid (AntsOwn.below ho5 ((Below.refl _ _).alloc (Nat.le_refl _) (Obj.cells #[Value.int IntKind.i64 L, Value.slice A5 V.length k5] 30)))
  have IG := Lib.hid (World.ownsRow.lt ho5)
  clear hb5 ho5
  go_wp2_with fail
  refine (eqCircle_true L A5 A3 k5 k3 V _ HVB.out HG5.out.ants HW5.out.ants).mono ?_
  rintro e w6 ⟨rfl, hb6⟩
  have HB6 := Lib.hid (HB5.out.trans (hb6.mono HB5.out.size))
  have m0 := Below.cell_some hb6 m0
  have m1 := Below.cell_some hb6 m1
  have n0 := Below.cell_some hb6 n0
  have n1 := Below.cell_some hb6 n1
  have s6 : w5.heap.size + 1 ≤ w6.heap.size := by have := hb6.size; simpa using this
  have HW6 := Lib.hid (AntsOwn.below HW5.out hb6)
  have HG6 := Lib.hid (AntsOwn.below HG5.out hb6)
  clear hb6
  go_wp2_with fail
  -- marks on the result
  refine (markCircle_any L A5 k5 _ V 1 _ (by omega) (by omega) HVB.out HG6.out).mono ?_
  rintro e w11 ⟨rfl, ho11, hg11⟩
  have HG11 := Lib.hid ho11
  have s11 : w6.heap.size ≤ w11.heap.size := hg11.size
  have m0 := grown_cell hg11 IG.out (.inl (by first | (simp; omega) | simp)) m0
  have m1 := grown_cell hg11 IG.out (.inl (by first | (simp; omega) | simp)) m1
  have n0 := grown_cell hg11 IG.out (.inr (by simp)) n0
  have n1 := grown_cell hg11 IG.out (.inr (by simp)) n1
  have HB11 := Lib.hid (HB6.out.trans (grown_below hg11 IG.out (by simp; omega) HB6.out.size))
  have HW11 := Lib.hid (grown_own hg11 IG.out (S := pairS) HW6.out (fun k hk => .inl (by have := (IW.out k hk).2; simp; omega)))
  clear hg11 ho11
  have hm1 : ¬ (1 + 2 * ((V.length : Nat) : Int)) < 0 := by omega
  go_wp2_with fail
  refine (heldCircle_any L A5 k5 V.length 1 _ (by omega) (by omega) HVB.out HG11.out.ants).mono ?_
  rintro e w12 ⟨rfl, hb12⟩
  have HB12 := Lib.hid (HB11.out.trans (hb12.mono HB11.out.size))
  have m0 := Below.cell_some hb12 m0
  have m1 := Below.cell_some hb12 m1
  have n0 := Below.cell_some hb12 n0
  have n1 := Below.cell_some hb12 n1
  have HW12 := Lib.hid (HW11.out.below hb12)
  have HG12 := Lib.hid (AntsOwn.below HG11.out hb12)
  clear hb12
  go_wp2_with fail
  -- once more
  refine (HI.out _ (HE.out.below HB12.out) (HT.out.below HB12.out) (HM.out.below HB12.out)).mono ?_
  rintro e w13 ⟨A13, n13, k13, rfl, hn13, ho13, hb13⟩
  subst hn13
  have hbz : Below w12.heap.size w12 (w13.alloc (Obj.cells #[Value.int IntKind.i64 L, Value.slice A13 V.length k13] 30)) := hb13.alloc hb13.size _
  have HB13 := Lib.hid (HB12.out.trans (hbz.mono HB12.out.size))
  have m0 := Below.cell_some hbz m0
  have m1 := Below.cell_some hbz m1
  have n0 := Below.cell_some hbz n0
  have n1 := Below.cell_some hbz n1
  have HH13 := Lib.hid (AntsOwn.below ho13 ((Below.refl _ _).alloc (Nat.le_refl _) (Obj.cells #[Value.int IntKind.i64 L, Value.slice A13 V.length k13] 30)))
  have HW13 := Lib.hid (HW12.out.below hbz)
  have HG13 := Lib.hid (AntsOwn.below HG12.out hbz)
  clear hb13 ho13 hbz
  go_wp2_with fail
  refine (eqCircle_true L A13 A3 k13 k3 V _ HVB.out HH13.out.ants (AntsOwn.ants HW13.out)).mono ?_
  rintro e w14 ⟨rfl, hb14⟩
  have HB14 := Lib.hid (HB13.out.trans (hb14.mono HB13.out.size))
  have n0 := Below.cell_some hb14 n0
  have n1 := Below.cell_some hb14 n1
  have HG14 := Lib.hid (AntsOwn.below HG13.out hb14)
  clear hb14
  go_wp2_with fail
  refine (heldCircle_any L A5 k5 V.length 1 _ (by omega) (by omega) HVB.out HG14.out.ants).mono ?_
  rintro e w14' ⟨rfl, hb15⟩
  have HB15 := Lib.hid (HB14.out.trans (hb15.mono HB14.out.size))
  clear hb15
  go_wp2
  go_ret
  exact ⟨ret_bool rfl, HB15.out⟩

theorem lawParseCircle (s : ByteArray) (w : World) (hn : (s.size : Int) ≤ 9223372036854775807) (hE : Errs w) (hT : Tab w) (hM : MaxL w) :
    Calls Tryd.prog 4 #[.string s] w fun e w' => e = .returned (.bool true) ∧ Below w.heap.size w w' := by
  by_cases h : s.size ≤ 1048576
  · exact lawParseCircle_fits s w h hE hT hM
  · exact lawParseCircle_big s w hn (by omega)

theorem laidEq : (Rows.laid_internal_strconv_uint64pow10 : DataW Unit) = Lib.tabData .u64 Lib.pow10Tab := by kernel_rfl
theorem gTab : Tryd.prog.globalNamed "internal/strconv.uint64pow10" = some 3 := by kernel_rfl
theorem tTab : (Tryd.prog.globals[3]?).map (·.type) = some 106 := by kernel_rfl
theorem cellsU64 : Tryd.prog.cellsOf 82 = 1 := by kernel_rfl
theorem cellsTab : Tryd.prog.cellsOf 106 = 20 := by kernel_rfl
theorem gRange : Tryd.prog.globalNamed "strconv.ErrRange" = some 2 := by kernel_rfl
theorem tRange : (Tryd.prog.globals[2]?).map (·.type) = some 38 := by kernel_rfl
theorem gSyntax : Tryd.prog.globalNamed "strconv.ErrSyntax" = some 1 := by kernel_rfl
theorem tSyntax : (Tryd.prog.globals[1]?).map (·.type) = some 38 := by kernel_rfl
theorem cellsErr : Tryd.prog.cellsOf 99 = 1 := by kernel_rfl
theorem cellsStr : Tryd.prog.cellsOf 9 = 1 := by kernel_rfl
theorem starErr : "*" ++ "errors.errorString" = "*errors.errorString" := by decide
theorem rowErr (u : TypeId) (h : Tryd.prog.typeName? 3 u = some "*errors.errorString") : u = 97 :=
  typeName_ptr_named (nm := "errors.errorString") (by rw [starErr]; kernel_rfl) (by kernel_rfl) (by decide) u (by rw [starErr]; exact h)

theorem laid_parts {W : World} (h : laidMetH Tryd.prog Rows.fnExactParseCircleRow.laid W) : Errs W ∧ Tab W := by
  rw [MakeChecks.laidMetH_plain _ _ _ (by kernel_rfl)] at h
  have h2 : laidMet Tryd.prog [("internal/strconv.uint64pow10", Rows.laid_internal_strconv_uint64pow10), ("strconv.ErrRange", Rows.laid_strconv_ErrRange), ("strconv.ErrSyntax", Rows.laid_strconv_ErrSyntax)] W := (h.tail).tail
  have h3 : laidMet Tryd.prog [("strconv.ErrRange", Rows.laid_strconv_ErrRange), ("strconv.ErrSyntax", Rows.laid_strconv_ErrSyntax)] W := h2.tail
  have h4 : laidMet Tryd.prog [("strconv.ErrSyntax", Rows.laid_strconv_ErrSyntax)] W := h3.tail
  obtain ⟨a, _, ha, _⟩ := laid_sentinel h3 gRange tRange Tryd.underlying38 rowErr Tryd.underlying97 Tryd.underlying99 rfl rfl Tryd.underlying9 cellsErr cellsStr
  obtain ⟨b, _, hb, _⟩ := laid_sentinel h4 gSyntax tSyntax Tryd.underlying38 rowErr Tryd.underlying97 Tryd.underlying99 rfl rfl Tryd.underlying9 cellsErr cellsStr
  rw [laidEq] at h2
  exact ⟨⟨⟨_, _, hb⟩, ⟨_, _, ha⟩⟩, Lib.tabIs_of_head gTab tTab Tryd.underlying106 Tryd.underlying82 cellsU64 cellsTab h2⟩

theorem maxL_of_shape {W : World} (h : W.ShapedOpen Tryd.prog) : MaxL W :=
  cell_of_shapedOpen_int (g := 0) (t := 3) (zero := #[.int .i64 0]) h (of_decide_eq_true (by kernel_rfl)) (by kernel_rfl) rfl (by kernel_rfl) (by kernel_rfl) Tryd.underlying3

theorem doorMet (os : Os) (args : Array Value) : laidMetH Tryd.prog Rows.fnExactParseCircleRow.laid ((World.doorLaid Tryd.prog 400 os).forCall (fun _ _ => 0) ⟨#[], args, []⟩).memory :=
  laidMetH_of_parts3 (fuel := 8) (laidMet_of_run' 8 (by kernel_rfl) (by kernel_rfl)) (by kernel_rfl) (by kernel_rfl)

set_option maxRecDepth 100000 in
theorem lawParseCircle_lifted (os : Os) (started : os.Started) (H : Type) (enc : TypeId × Value → H) :
    ReturnsInHanded {} Tryd.checked os 4 .any (fun w args => (Rows.fnExactParseCircleSpec.pre enc Tryd.prog Tryd.f4 [] false w args ∧ laidMetH Tryd.prog Rows.fnExactParseCircleRow.laid w) ∧ sizedMet enc Tryd.prog Tryd.f4 (OpenSpec.ofChange Rows.fnExactParseCircleSpec) false w args)
      (Rows.fnExactParseCircleSpec.post enc Tryd.prog Tryd.f4 false true false false) := by
  refine returnsInHanded_of_calls (C := Tryd.checked) own started (by kernel_rfl)
    (ChangeSpec.witness_shaped (enc := enc) (C := Tryd.checked) (os := os) (X := fun w _ => laidMetH Tryd.prog Rows.fnExactParseCircleRow.laid w) false (World.doorLaid Tryd.prog 400 os) #[.string ⟨#[]⟩] 8 rfl (World.shaped_of_RefB (by kernel_rfl) (by kernel_rfl)) (by kernel_rfl) (by kernel_rfl) (by kernel_rfl) (doorMet os _)) ?_
  intro w tape i _ hsh _ hok hpre hholds
  obtain ⟨_, _, _, fn', hfn', _, _, _, _, hval0⟩ := hok
  have efn : fn' = Tryd.f4 := Option.some.inj (hfn'.symm.trans Tryd.func4)
  subst efn
  obtain ⟨⟨⟨ds, gs, before, hw, _⟩, hx⟩, _⟩ := hpre
  have hW : DataW.Whole enc Tryd.prog Tryd.f4.params.toList Rows.fnExactParseCircleSpec.vars false (w.forCall tape i) i.args.toList ds gs before := DataW.Whole.of_heap (w' := w.forCall tape i) (by rfl) hw
  have hL : laidMetH Tryd.prog Rows.fnExactParseCircleRow.laid (w.forCall tape i) := hx.of_heap (by rfl)
  have hM : MaxL (w.forCall tape i) := maxL_of_shape hsh
  have hval : ∀ (j : Nat) t v, Tryd.f4.params[j]? = some t → i.args[j]? = some v → Value.okWide Tryd.prog (w.forCall tape i) .any w.heap.size t v := hval0
  clear hw hx hval0 hsh hholds hfn'
  generalize w.forCall tape i = W at *
  generalize i.args = args at *
  have hW' := hW
  obtain ⟨p, q, hA0, hV, rfl, hfz, hnd⟩ := hW
  have hA : DataW.TrodAll enc Tryd.prog W 0 (fun _ => true) true Tryd.f4.params.toList args.toList ds p := hA0
  rw [Tryd.params4] at hA hval
  obtain ⟨v0, vs0, d0, ds0, p0, q0, hargs, rfl, rfl, h0, r0⟩ := trodAll_cons hA
  obtain ⟨rfl, rfl, rfl⟩ := trodAll_nil r0
  obtain rfl : args = #[v0] := by cases args; simp_all
  obtain ⟨rfl, rfl⟩ := trodVars_none hV
  obtain ⟨t, rfl, rfl, rfl, w2⟩ := Go.ChangeMaps.open_string Tryd.underlying9 (hval 0 9 v0 rfl rfl) h0
  clear hA0
  have hLP := laid_parts hL
  refine (lawParseCircle t W (by have := w2; unfold maxLen at this; omega) hLP.1 hLP.2 hM).mono fun e W' ⟨he, bel⟩ => ?_
  subst he
  exact ChangeSpec.post_blind ⟨_, _, _, [], _, [], hW', trodAll_mk1 (shut_bool Tryd.underlying4 _), (trodAll_cons_mk (Go.ChangeMaps.shut_string Tryd.underlying9 w2) trodAll_mk0), rfl, bel.frame _, fun h => by cases h⟩

theorem lawParseCircle_closed : joinedFacts Tryd.prog 4 Tryd.f4 Rows.fnExactParseCircleSpec Rows.fnExactParseCircleRow = true := by
  unfold joinedFacts
  repeat' with_reducible refine and_t ?_ ?_
  · kernel_rfl
  · kernel_rfl
  · kernel_rfl
  · kernel_rfl
  · kernel_rfl
  · kernel_rfl
  · kernel_rfl
  · kernel_rfl
  · kernel_rfl
  · kernel_rfl
  · kernel_rfl
  · kernel_rfl
  · kernel_rfl
  · kernel_rfl
  · kernel_rfl
  · kernel_rfl
  · kernel_rfl
  · kernel_rfl
  · kernel_rfl
  · kernel_rfl
  · kernel_rfl
  · kernel_rfl
  · kernel_rfl
  · kernel_rfl
  · kernel_rfl
  · exact factMayEnter
  · exact factLifts
  · exact factMake
  · kernel_rfl
  · kernel_rfl
  · kernel_rfl
  · kernel_rfl

theorem lawParseCircle_over : Rows.fnExactParseCircleRow.holds Tryd.pinned (OpenSpec.ofChange Rows.fnExactParseCircleSpec) :=
  OpenClaim.holds_of_wide 4 Tryd.f4 rfl rfl rfl rfl rfl rfl rfl ⟨rfl, rfl, rfl, rfl, rfl⟩ rfl rfl rfl rfl rfl (by kernel_rfl) Tryd.func4 lawParseCircle_closed
    (of_decide_eq_true (by kernel_rfl)) (by unfold Func.isWrapper; first | (rw [if_pos (by decide +kernel)]; kernel_rfl) | (rw [if_neg (by decide +kernel)]; exact ⟨rfl, rfl⟩))
    (fun os started H enc _ => lawParseCircle_lifted os started H enc)

/-- the statement -/
theorem lawParseCircle_proved : Rows.FnExactParseCircleSaid := lawParseCircle_over

/-- the card: the row, tied to the program's text -/
theorem lawParseCircle_card : Rows.FnExactParseCircleCardSaid :=
  Claim7.holds_tied_plain_at .later [] [.data, .data, .data, .sentinel, .sentinel] true (true, "f18ea830a52353ca2d93d1f1f171ae75a22dfe0fbc6648877bc1b7427af81213") true
    lawParseCircle_proved (fun _ h => by cases h) (by kernel_rfl) (fun _ h => by cases h) fnExactParseCircle_row_tie rfl ⟨rfl, rfl⟩ (by kernel_rfl) rfl
    (fun f fn hf hfn => by
      obtain rfl : f = 4 := Option.some.inj ((show Tryd.prog.funcNamed "loop.example/g01270/laws.FnExactParseCircle" = some 4 by kernel_rfl).symm.trans hf) |>.symm
      obtain rfl : fn = Tryd.f4 := (Option.some.inj (Tryd.func4.symm.trans hfn)).symm
      exact ⟨by kernel_rfl, fun j t ht => by
        rw [Tryd.params4] at ht
        have hm : t ∈ [9] := by simpa using Array.mem_of_getElem? ht
        have hall : ([9].all fun u => !Tryd.prog.wantsStandIn u) = true := by kernel_rfl
        exact (show Tryd.prog.wantsStandIn t = false by simpa using List.all_eq_true.1 hall t hm)⟩)
    (by kernel_rfl)
#print axioms lawParseCircle_card

end Go.Proofs.YtpchgmcegholoaaDoor
