/- The law FnExactWordsBefore returns true at every input, and leaves its arguments as they were. The listed tables of the library lie as the text lays them. -/
import Derived.Test.YtohfkikdcoefcaaDoorRows
import Derived.Test.YtohfkikdcoefcaaDoorMarkW
import Derived.Test.YtohfkikdcoefcaaDoorFactA
import Derived.Test.YtohfkikdcoefcaaDoorFactB
import Derived.Test.YtohfkikdcoefcaaDoorFactC
import Derived.Test.YtohfkikdcoefcaaDoorWoB2
import Derived.Test.YtohfkikdcoefcaaDoorTie
import Derived.Test.YtohfkikdcoefcaaDoorCards
import Derived.LaidMore
import Derived.Lay
import Derived.Stop.Joined
import Derived.SevenTiedAt
import Derived.MakeChecks
import Derived.ChangeMaps5
import Derived.Shelf.Vars
namespace Go.Proofs.YtohfkikdcoefcaaDoor.lWordsBefore
open Go.RowKit
open Go.ChangeShapes Go.WideShapes Go.ChangeAt
set_option linter.unusedVariables false

set_option maxHeartbeats 1000000 in
theorem big (l : List UInt8) (w : World) (hn : (l.length : Int) ≤ 9223372036854775807) (h : (1048576 : Int) < l.length) :
    Calls Tryd.prog 14 #[.string (mkB l)] w fun e w' => e = .returned (.bool true) ∧ Below w.heap.size w w' := by
  have hz : (mkB l).size = l.length := rfl
  go_enter Tryd.func14, Tryd.ntmps14
  go_wp2
  go_ret
  exact ⟨ret_bool rfl, Below.refl _ _⟩

set_option maxHeartbeats 2000000 in
theorem fits (l : List UInt8) (w : World) (hs : l.length ≤ 1048576) (hM : MaxL w) :
    Calls Tryd.prog 14 #[.string (mkB l)] w fun e w' => e = .returned (.bool true) ∧ Below w.heap.size w w' := by
  have hz : (mkB l).size = l.length := rfl
  have HS := Lib.hid (fun W => specWordsBefore_any l hs W)
  have HI := Lib.hid (fun W h => implWordsBefore_any l hs W h)
  have HM := Lib.hid hM
  clear hM
  have hvb : (((wordsL (lstW (bfOk l) (bfW l))).length : Nat) : Int) ≤ 1048576 := bfW_bd l
  have HVB := Lib.hid hvb
  clear hvb
  generalize (wordsL (lstW (bfOk l) (bfW l))) = Y at *
  go_enter Tryd.func14, Tryd.ntmps14
  go_wp2_with fail
  refine (HS.out _).mono ?_
  rintro e w3 ⟨A3, n3, k3, rfl, hn3, ho3, hb3⟩
  subst hn3
  have HB3 := Lib.hid hb3
  have s3 := hb3.size
  have HW3 := Lib.hid ho3
  have IW := Lib.hid (World.ownsRow.lt ho3)
  clear hb3 ho3
  go_wp2_with fail
  refine (HI.out _ (HM.out.below HB3.out)).mono ?_
  rintro e w5 ⟨A5, n5, k5, rfl, hn5, ho5, hb5⟩
  subst hn5
  have s5 := hb5.size
  have HB5 := Lib.hid (HB3.out.trans (hb5.mono HB3.out.size))
  have HW5 := Lib.hid (HW3.out.below hb5)
  have HG5 := Lib.hid ho5
  have IG := Lib.hid (World.ownsRow.lt ho5)
  clear hb5 ho5
  go_wp2_with fail
  refine (eqStringS_true A5 A3 k5 k3 Y _ HVB.out HG5.out.sl HW5.out.sl).mono ?_
  rintro e w6 ⟨rfl, hb6⟩
  have s6 := hb6.size
  have HB6 := Lib.hid (HB5.out.trans (hb6.mono HB5.out.size))
  have HW6 := Lib.hid (HW5.out.below hb6)
  have HG6 := Lib.hid (HG5.out.below hb6)
  clear hb6
  go_wp2_with fail
  -- marks on the result
  refine (markStringS_any A5 k5 _ Y 1 _ (by omega) (by omega) HVB.out HG6.out).mono ?_
  rintro e w11 ⟨rfl, ho11, hg11⟩
  have HG11 := Lib.hid ho11
  have s11 : w6.heap.size ≤ w11.heap.size := hg11.size
  have HB11 := Lib.hid (HB6.out.trans (grown_below hg11 IG.out (by omega) HB6.out.size))
  have HW11 := Lib.hid (grown_own hg11 IG.out (S := strS) HW6.out (fun k hk => .inl (IW.out k hk).2))
  clear hg11 ho11
  have hm1 : ¬ (1 + ((Y.length : Nat) : Int)) < 0 := by omega
  go_wp2_with fail
  refine (heldStringS_any A5 k5 Y.length 1 _ (by omega) (by omega) HVB.out HG11.out.sl).mono ?_
  rintro e w12 ⟨rfl, hb12⟩
  have s12 := hb12.size
  have HB12 := Lib.hid (HB11.out.trans (hb12.mono HB11.out.size))
  have HW12 := Lib.hid (HW11.out.below hb12)
  have HG12 := Lib.hid (HG11.out.below hb12)
  clear hb12
  go_wp2_with fail
  -- once more
  refine (HI.out _ (HM.out.below HB12.out)).mono ?_
  rintro e w13 ⟨A13, n13, k13, rfl, hn13, ho13, hb13⟩
  subst hn13
  have HB13 := Lib.hid (HB12.out.trans (hb13.mono HB12.out.size))
  have HH13 := Lib.hid ho13
  have HW13 := Lib.hid (HW12.out.below hb13)
  have HG13 := Lib.hid (HG12.out.below hb13)
  clear hb13 ho13
  go_wp2_with fail
  refine (eqStringS_true A13 A3 k13 k3 Y _ HVB.out HH13.out.sl HW13.out.sl).mono ?_
  rintro e w14 ⟨rfl, hb14⟩
  have HB14 := Lib.hid (HB13.out.trans (hb14.mono HB13.out.size))
  have HG14 := Lib.hid (HG13.out.below hb14)
  clear hb14
  go_wp2_with fail
  refine (heldStringS_any A5 k5 Y.length 1 _ (by omega) (by omega) HVB.out HG14.out.sl).mono ?_
  rintro e w15 ⟨rfl, hb15⟩
  have HB15 := Lib.hid (HB14.out.trans (hb15.mono HB14.out.size))
  clear hb15
  go_wp2
  go_ret
  exact ⟨ret_bool rfl, HB15.out⟩

theorem law (l : List UInt8) (w : World) (hn : (l.length : Int) ≤ 9223372036854775807) (hM : MaxL w) :
    Calls Tryd.prog 14 #[.string (mkB l)] w fun e w' => e = .returned (.bool true) ∧ Below w.heap.size w w' := by
  by_cases h : l.length ≤ 1048576
  · exact fits l w h hM
  · exact big l w hn (by omega)

theorem maxL_of_shape {W : World} (h : W.ShapedOpen Tryd.prog) : MaxL W :=
  cell_of_shapedOpen_int (g := 0) (t := 3) (zero := #[.int .i64 0]) h (of_decide_eq_true (by kernel_rfl)) (by kernel_rfl) rfl (by kernel_rfl) (by kernel_rfl) Tryd.underlying3

theorem doorMet (os : Os) (args : Array Value) : laidMetH Tryd.prog Rows.fnExactWordsBeforeRow.laid ((World.laidAll Tryd.prog os Rows.fnExactWordsBeforeRow.laid).forCall (fun _ _ => 0) ⟨#[], args, []⟩).memory := by
  rw [MakeChecks.laidMetH_plain _ _ _ (by kernel_rfl)]
  exact laidMet_laidAll _ (by kernel_rfl) (by kernel_rfl)

set_option maxRecDepth 100000 in
theorem lifted (os : Os) (started : os.Started) (H : Type) (enc : TypeId × Value → H) :
    ReturnsInHanded {} Tryd.checked os 14 .any (fun w args => (Rows.fnExactWordsBeforeSpec.pre enc Tryd.prog Tryd.f14 [] false w args ∧ laidMetH Tryd.prog Rows.fnExactWordsBeforeRow.laid w) ∧ sizedMet enc Tryd.prog Tryd.f14 (OpenSpec.ofChange Rows.fnExactWordsBeforeSpec) false w args)
      (Rows.fnExactWordsBeforeSpec.post enc Tryd.prog Tryd.f14 false true false false) := by
  refine returnsInHanded_of_calls (C := Tryd.checked) own started (by kernel_rfl)
    (ChangeSpec.witness_shaped (enc := enc) (C := Tryd.checked) (os := os) (X := fun w _ => laidMetH Tryd.prog Rows.fnExactWordsBeforeRow.laid w) false (World.laidAll Tryd.prog os Rows.fnExactWordsBeforeRow.laid) #[.string ⟨#[]⟩] 8 (World.laidAll_os _ _ _) (World.shaped_of_ZipB (by kernel_rfl) (by kernel_rfl)) (by kernel_rfl) (by kernel_rfl) (by kernel_rfl) (doorMet os _)) ?_
  intro w tape i _ hsh _ hok hpre hholds
  obtain ⟨_, _, _, fn', hfn', _, _, _, _, hval0⟩ := hok
  have efn : fn' = Tryd.f14 := Option.some.inj (hfn'.symm.trans Tryd.func14)
  subst efn
  obtain ⟨⟨⟨ds, gs, before, hw, _⟩, _⟩, _⟩ := hpre
  have hW : DataW.Whole enc Tryd.prog Tryd.f14.params.toList Rows.fnExactWordsBeforeSpec.vars false (w.forCall tape i) i.args.toList ds gs before := DataW.Whole.of_heap (w' := w.forCall tape i) (by rfl) hw
  have hM : MaxL (w.forCall tape i) := maxL_of_shape hsh
  have hval : ∀ (j : Nat) t v, Tryd.f14.params[j]? = some t → i.args[j]? = some v → Value.okWide Tryd.prog (w.forCall tape i) .any w.heap.size t v := hval0
  clear hw hval0 hsh hholds hfn'
  generalize w.forCall tape i = W at *
  generalize i.args = args at *
  have hW' := hW
  obtain ⟨p, q, hA0, hV, rfl, hfz, hnd⟩ := hW
  have hA : DataW.TrodAll enc Tryd.prog W 0 (fun _ => true) true Tryd.f14.params.toList args.toList ds p := hA0
  rw [Tryd.params14] at hA hval
  obtain ⟨v0, vs0, d0, ds0, p0, q0, hargs, rfl, rfl, h0, r0⟩ := trodAll_cons hA
  obtain ⟨rfl, rfl, rfl⟩ := trodAll_nil r0
  obtain rfl : args = #[v0] := by cases args; simp_all
  obtain ⟨rfl, rfl⟩ := trodVars_none hV
  obtain ⟨t, rfl, rfl, rfl, wS⟩ := Go.ChangeMaps.open_string Tryd.underlying9 (hval 0 9 v0 rfl rfl) h0
  clear hA0
  refine (law t.data.toList W (by have := wS; rw [len_toList]; unfold maxLen at this; omega) hM).mono fun e W' ⟨he, bel⟩ => ?_
  subst he
  exact ChangeSpec.post_blind ⟨_, _, _, [], _, [], hW', trodAll_mk1 (shut_bool Tryd.underlying4 _), (trodAll_cons_mk (Go.ChangeMaps.shut_string Tryd.underlying9 wS) trodAll_mk0), rfl, bel.frame _, fun h => by cases h⟩

theorem closed : joinedFacts Tryd.prog 14 Tryd.f14 Rows.fnExactWordsBeforeSpec Rows.fnExactWordsBeforeRow = true := by
  unfold joinedFacts
  repeat' with_reducible refine and_t ?_ ?_
  · kernel_rfl
  · kernel_rfl
  · kernel_rfl
  · kernel_rfl
  · kernel_rfl
  · kernel_rfl
  · kernel_rfl
  · kernel_rfl
  · kernel_rfl
  · kernel_rfl
  · kernel_rfl
  · kernel_rfl
  · kernel_rfl
  · kernel_rfl
  · kernel_rfl
  · kernel_rfl
  · kernel_rfl
  · kernel_rfl
  · kernel_rfl
  · kernel_rfl
  · kernel_rfl
  · kernel_rfl
  · kernel_rfl
  · kernel_rfl
  · kernel_rfl
  · exact factMayEnter
  · exact factLifts
  · exact factMake
  · kernel_rfl
  · kernel_rfl
  · kernel_rfl
  · kernel_rfl

theorem over : Rows.fnExactWordsBeforeRow.holds Tryd.pinned (OpenSpec.ofChange Rows.fnExactWordsBeforeSpec) :=
  OpenClaim.holds_of_wide 14 Tryd.f14 rfl rfl rfl rfl rfl rfl rfl ⟨rfl, rfl, rfl, rfl, rfl⟩ rfl rfl rfl rfl rfl (by kernel_rfl) Tryd.func14 closed
    (of_decide_eq_true (by kernel_rfl)) (by unfold Func.isWrapper; first | (rw [if_pos (by decide +kernel)]; kernel_rfl) | (rw [if_neg (by decide +kernel)]; exact ⟨rfl, rfl⟩))
    (fun os started H enc _ => lifted os started H enc)

/-- the row's statement -/
theorem said : Rows.FnExactWordsBeforeSaid := over

/-- the card: the row, tied to the program's text -/
theorem card : Rows.FnExactWordsBeforeCardSaid :=
  Claim7.holds_tied_plain_at .later [] [.data, .pinned] true (true, "b0f83d42b0c0b36b6bf73abd20881c2586bc3a6ccdedac5a8783067b0dea6673") false
    said (fun _ h => by cases h) (by kernel_rfl) (fun _ h => by cases h) fnExactWordsBefore_row_tie rfl ⟨rfl, rfl⟩ (by kernel_rfl) rfl
    (fun f fn hf hfn => by
      obtain rfl : f = 14 := Option.some.inj ((show Tryd.prog.funcNamed "loop.example/g01270/laws.FnExactWordsBefore" = some 14 by kernel_rfl).symm.trans hf) |>.symm
      obtain rfl : fn = Tryd.f14 := (Option.some.inj (Tryd.func14.symm.trans hfn)).symm
      exact ⟨by kernel_rfl, fun j t ht => by
        rw [Tryd.params14] at ht
        have hm : t ∈ [9] := by simpa using Array.mem_of_getElem? ht
        have hall : ([9].all fun u => !Tryd.prog.wantsStandIn u) = true := by kernel_rfl
        exact (show Tryd.prog.wantsStandIn t = false by simpa using List.all_eq_true.1 hall t hm)⟩)
    (by kernel_rfl)
#print axioms card

end Go.Proofs.YtohfkikdcoefcaaDoor.lWordsBefore
