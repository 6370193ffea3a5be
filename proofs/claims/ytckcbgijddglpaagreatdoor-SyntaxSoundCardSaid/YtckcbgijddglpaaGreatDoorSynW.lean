/- What the listed package variables hold, for each law of this seat. -/
import Derived.Test.YtckcbgijddglpaaGreatDoorSyn30
import Derived.Test.YtckcbgijddglpaaGreatDoorRows
import Derived.LaidLaws
import Derived.MakeChecks
namespace Go.Proofs.YtckcbgijddglpaaGreatDoor
open Go.ChangeShapes Go.WideShapes Go.ChangeAt Go.RowKit Go.PlainAid
set_option linter.unusedVariables false
set_option linter.unusedSimpArgs false

theorem signVals_eq : signVals = (signsL.map Value.string).toArray := rfl
theorem laid_signs : (Rows.laid_ogham_lex_signs : DataW Unit) = .agg (signsL.map fun x => .lit (.string x.data.toList)) := by kernel_rfl
theorem laid_accept : (Rows.laid_unicode_utf8_acceptRanges : DataW Unit) = Lib.acceptData := by kernel_rfl
theorem laid_first : (Rows.laid_unicode_utf8_first : DataW Unit) = Lib.firstData := by kernel_rfl
theorem lexW_syntaxParses {W : World} (hL : laidMetH Tryz.prog Rows.syntaxParsesRow.laid W) : LexW W := by
  rw [MakeChecks.laidMetH_plain _ _ _ (by kernel_rfl)] at hL
  refine ⟨?_, ?_, ?_⟩
  · exact Utf8At.of_reads (by have := Lib.laidMet.reads hL (n := "unicode/utf8.first") (d := Rows.laid_unicode_utf8_first) (by simp [Rows.syntaxParsesRow]); rwa [laid_first] at this) (by have := Lib.laidMet.reads hL (n := "unicode/utf8.acceptRanges") (d := Rows.laid_unicode_utf8_acceptRanges) (by simp [Rows.syntaxParsesRow]); rwa [laid_accept] at this)
  · obtain ⟨g, t, cs, fuel, p, hg, hty, hvar, hd⟩ := Lib.laidMet.reads hL (n := "strconv.ErrRange") (d := Rows.laid_strconv_ErrRange) (by simp [Rows.syntaxParsesRow])
    obtain rfl := Option.some.inj ((show Tryz.prog.globalNamed "strconv.ErrRange" = some 4 by kernel_rfl).symm.trans hg)
    obtain rfl := Option.some.inj ((show (Tryz.prog.globals[4]?).map (·.type) = some 122 by kernel_rfl).symm.trans hty)
    obtain ⟨fuel', u, v, hcs, _, _⟩ := iface_of_trod Tryz.underlying122 hd
    refine ⟨u, v, ?_⟩
    rw [World.var?_cell hg hvar 0, ← Array.getElem?_toList, hcs]; rfl
  · obtain ⟨g, t, cs, fuel, p, hg, hty, hvar, hd⟩ := Lib.laidMet.reads hL (n := "ogham/lex.signs") (d := Rows.laid_ogham_lex_signs) (by simp [Rows.syntaxParsesRow])
    obtain rfl := Option.some.inj ((show Tryz.prog.globalNamed "ogham/lex.signs" = some 0 by kernel_rfl).symm.trans hg)
    obtain rfl := Option.some.inj ((show (Tryz.prog.globals[0]?).map (·.type) = some 133 by kernel_rfl).symm.trans hty)
    rw [laid_signs] at hd
    intro i hi
    obtain ⟨fuel', d, q, hdi, he⟩ := Lib.array_elem Tryz.underlying133 hd i hi
    have hx : signsL[i]? = some (signsL[i]'hi) := List.getElem?_eq_getElem hi
    rw [List.getElem?_map, hx] at hdi
    obtain rfl := Option.some.inj hdi
    rw [show Tryz.prog.cellsOf 9 = 1 by kernel_rfl] at he
    obtain ⟨s, h1, h2, _⟩ := DataW.trod_string Tryz.underlying9 he
    injection h2 with h2
    injection h2 with h2
    injection h2 with h2
    have hs : s = signsL[i]'hi := ba_ext h2.symm
    have e0 := congrArg (·[0]?) h1
    simp only [List.getElem?_take, List.getElem?_drop] at e0
    rw [World.var?_cell hg hvar i, ← Array.getElem?_toList, signVals_eq, List.getElem?_toArray, List.getElem?_map, hx]
    simpa [hs] using e0
theorem lexW_syntaxSound {W : World} (hL : laidMetH Tryz.prog Rows.syntaxSoundRow.laid W) : LexW W := by
  rw [MakeChecks.laidMetH_plain _ _ _ (by kernel_rfl)] at hL
  refine ⟨?_, ?_, ?_⟩
  · exact Utf8At.of_reads (by have := Lib.laidMet.reads hL (n := "unicode/utf8.first") (d := Rows.laid_unicode_utf8_first) (by simp [Rows.syntaxSoundRow]); rwa [laid_first] at this) (by have := Lib.laidMet.reads hL (n := "unicode/utf8.acceptRanges") (d := Rows.laid_unicode_utf8_acceptRanges) (by simp [Rows.syntaxSoundRow]); rwa [laid_accept] at this)
  · obtain ⟨g, t, cs, fuel, p, hg, hty, hvar, hd⟩ := Lib.laidMet.reads hL (n := "strconv.ErrRange") (d := Rows.laid_strconv_ErrRange) (by simp [Rows.syntaxSoundRow])
    obtain rfl := Option.some.inj ((show Tryz.prog.globalNamed "strconv.ErrRange" = some 4 by kernel_rfl).symm.trans hg)
    obtain rfl := Option.some.inj ((show (Tryz.prog.globals[4]?).map (·.type) = some 122 by kernel_rfl).symm.trans hty)
    obtain ⟨fuel', u, v, hcs, _, _⟩ := iface_of_trod Tryz.underlying122 hd
    refine ⟨u, v, ?_⟩
    rw [World.var?_cell hg hvar 0, ← Array.getElem?_toList, hcs]; rfl
  · obtain ⟨g, t, cs, fuel, p, hg, hty, hvar, hd⟩ := Lib.laidMet.reads hL (n := "ogham/lex.signs") (d := Rows.laid_ogham_lex_signs) (by simp [Rows.syntaxSoundRow])
    obtain rfl := Option.some.inj ((show Tryz.prog.globalNamed "ogham/lex.signs" = some 0 by kernel_rfl).symm.trans hg)
    obtain rfl := Option.some.inj ((show (Tryz.prog.globals[0]?).map (·.type) = some 133 by kernel_rfl).symm.trans hty)
    rw [laid_signs] at hd
    intro i hi
    obtain ⟨fuel', d, q, hdi, he⟩ := Lib.array_elem Tryz.underlying133 hd i hi
    have hx : signsL[i]? = some (signsL[i]'hi) := List.getElem?_eq_getElem hi
    rw [List.getElem?_map, hx] at hdi
    obtain rfl := Option.some.inj hdi
    rw [show Tryz.prog.cellsOf 9 = 1 by kernel_rfl] at he
    obtain ⟨s, h1, h2, _⟩ := DataW.trod_string Tryz.underlying9 he
    injection h2 with h2
    injection h2 with h2
    injection h2 with h2
    have hs : s = signsL[i]'hi := ba_ext h2.symm
    have e0 := congrArg (·[0]?) h1
    simp only [List.getElem?_take, List.getElem?_drop] at e0
    rw [World.var?_cell hg hvar i, ← Array.getElem?_toList, signVals_eq, List.getElem?_toArray, List.getElem?_map, hx]
    simpa [hs] using e0
theorem lexW_syntaxCut {W : World} (hL : laidMetH Tryz.prog Rows.syntaxCutRow.laid W) : LexW W := by
  rw [MakeChecks.laidMetH_plain _ _ _ (by kernel_rfl)] at hL
  refine ⟨?_, ?_, ?_⟩
  · exact Utf8At.of_reads (by have := Lib.laidMet.reads hL (n := "unicode/utf8.first") (d := Rows.laid_unicode_utf8_first) (by simp [Rows.syntaxCutRow]); rwa [laid_first] at this) (by have := Lib.laidMet.reads hL (n := "unicode/utf8.acceptRanges") (d := Rows.laid_unicode_utf8_acceptRanges) (by simp [Rows.syntaxCutRow]); rwa [laid_accept] at this)
  · obtain ⟨g, t, cs, fuel, p, hg, hty, hvar, hd⟩ := Lib.laidMet.reads hL (n := "strconv.ErrRange") (d := Rows.laid_strconv_ErrRange) (by simp [Rows.syntaxCutRow])
    obtain rfl := Option.some.inj ((show Tryz.prog.globalNamed "strconv.ErrRange" = some 4 by kernel_rfl).symm.trans hg)
    obtain rfl := Option.some.inj ((show (Tryz.prog.globals[4]?).map (·.type) = some 122 by kernel_rfl).symm.trans hty)
    obtain ⟨fuel', u, v, hcs, _, _⟩ := iface_of_trod Tryz.underlying122 hd
    refine ⟨u, v, ?_⟩
    rw [World.var?_cell hg hvar 0, ← Array.getElem?_toList, hcs]; rfl
  · obtain ⟨g, t, cs, fuel, p, hg, hty, hvar, hd⟩ := Lib.laidMet.reads hL (n := "ogham/lex.signs") (d := Rows.laid_ogham_lex_signs) (by simp [Rows.syntaxCutRow])
    obtain rfl := Option.some.inj ((show Tryz.prog.globalNamed "ogham/lex.signs" = some 0 by kernel_rfl).symm.trans hg)
    obtain rfl := Option.some.inj ((show (Tryz.prog.globals[0]?).map (·.type) = some 133 by kernel_rfl).symm.trans hty)
    rw [laid_signs] at hd
    intro i hi
    obtain ⟨fuel', d, q, hdi, he⟩ := Lib.array_elem Tryz.underlying133 hd i hi
    have hx : signsL[i]? = some (signsL[i]'hi) := List.getElem?_eq_getElem hi
    rw [List.getElem?_map, hx] at hdi
    obtain rfl := Option.some.inj hdi
    rw [show Tryz.prog.cellsOf 9 = 1 by kernel_rfl] at he
    obtain ⟨s, h1, h2, _⟩ := DataW.trod_string Tryz.underlying9 he
    injection h2 with h2
    injection h2 with h2
    injection h2 with h2
    have hs : s = signsL[i]'hi := ba_ext h2.symm
    have e0 := congrArg (·[0]?) h1
    simp only [List.getElem?_take, List.getElem?_drop] at e0
    rw [World.var?_cell hg hvar i, ← Array.getElem?_toList, signVals_eq, List.getElem?_toArray, List.getElem?_map, hx]
    simpa [hs] using e0
end Go.Proofs.YtckcbgijddglpaaGreatDoor
