/-
  What a row's list of the program's own table gives: the table stands in its variable's block; how it reads.
-/
import Derived.Test.YtifkcojcedgepaaDoorOp
import Derived.ProofKit
import Derived.OpenShut
import Derived.ChangeVars
import Derived.ChangeArms
import Derived.Lib.LaidTab
import Derived.Deep.DeepHandedRow
namespace Go.Proofs.YtifkcojcedgepaaDoor.Laid
open Go.ChangeShapes Go.WideShapes Go.ChangeAt Go.RowKit Opl
set_option linter.unusedVariables false

theorem gTab : Tryd.prog.globalNamed "loop.example/g00741/impl.opLines" = some 0 := by kernel_rfl
theorem gTabType : (Tryd.prog.globals[0]?).map (·.type) = some 34 := by kernel_rfl
theorem cellsTab : Tryd.prog.cellsOf 34 = 93 := by kernel_rfl
theorem cellsLine : Tryd.prog.cellsOf 32 = 3 := by kernel_rfl
theorem cells64 : Tryd.prog.cellsOf 2 = 1 := by kernel_rfl
theorem cellsStr : Tryd.prog.cellsOf 9 = 1 := by kernel_rfl
theorem undTab : Tryd.prog.underlying 34 = some (.array 31 32) := by kernel_rfl

/-- A line as a datum; the table as one. -/
def lineData {H : Type} (x : List UInt8 × Int × Int) : DataW H := .agg [.lit (.string x.1), .lit (.int .i64 x.2.1), .lit (.int .i64 x.2.2)]
def tabData {H : Type} : DataW H := .agg (ops.map lineData)

theorem line_of_trod {H : Type} {enc : TypeId × Value → H} {w : World} {base : Nat} {sp : Nat → Bool} {held : Bool} {fuel : Nat} {cs : List Value} {p : List MemPlace} (x : List UInt8 × Int × Int)
    (h : DataW.trod enc Tryd.prog w base sp held fuel 32 cs = some (lineData x, p)) : cs = cells3 x := by
  obtain ⟨xs, n, rfl, hx, hl, hxl, hall⟩ := DataW.trod_struct und_line h
  rw [cellsLine] at hl
  obtain ⟨c0, c1, c2, rfl⟩ : ∃ c0 c1 c2, cs = [c0, c1, c2] := by
    match cs, hl with
    | [a, b, c], _ => exact ⟨a, b, c, rfl⟩
  obtain ⟨y0, y1, y2, rfl⟩ : ∃ y0 y1 y2, xs = [y0, y1, y2] := by
    match xs, hxl with
    | [a, b, c], _ => exact ⟨a, b, c, rfl⟩
  have h0 : DataW.trod enc Tryd.prog w base sp held n 9 [c0] = some y0 := by
    have h := hall 0 _ rfl
    change DataW.trod enc Tryd.prog w base sp held n 9 (([c0, c1, c2].drop 0).take (Tryd.prog.cellsOf 9)) = _ at h
    rw [cellsStr] at h
    exact h
  have h1 : DataW.trod enc Tryd.prog w base sp held n 2 [c1] = some y1 := by
    have h := hall 1 _ rfl
    change DataW.trod enc Tryd.prog w base sp held n 2 (([c0, c1, c2].drop 1).take (Tryd.prog.cellsOf 2)) = _ at h
    rw [cells64] at h
    exact h
  have h2 : DataW.trod enc Tryd.prog w base sp held n 2 [c2] = some y2 := by
    have h := hall 2 _ rfl
    change DataW.trod enc Tryd.prog w base sp held n 2 (([c0, c1, c2].drop 2).take (Tryd.prog.cellsOf 2)) = _ at h
    rw [cells64] at h
    exact h
  obtain ⟨s, e0, f0, _⟩ := DataW.trod_string (w := w) (base := base) (P := Tryd.prog) (t := 9) (by kernel_rfl) h0
  obtain ⟨a, e1, f1, _⟩ := DataW.trod_int (w := w) (base := base) (P := Tryd.prog) (t := 2) (k := .i64) (by kernel_rfl) h1
  obtain ⟨b, e2, f2, _⟩ := DataW.trod_int (w := w) (base := base) (P := Tryd.prog) (t := 2) (k := .i64) (by kernel_rfl) h2
  subst f0; subst f1; subst f2
  simp [lineData] at hx
  obtain ⟨⟨hs, ha, hb⟩, _⟩ := hx
  simp at e0 e1 e2
  subst e0; subst e1; subst e2
  simp [cells3, ← ha, ← hb, hs]

theorem tab_of_trod {H : Type} {enc : TypeId × Value → H} {w : World} {base : Nat} {sp : Nat → Bool} {held : Bool} {fuel : Nat} {cs : List Value} {p : List MemPlace}
    (h : DataW.trod enc Tryd.prog w base sp held fuel 34 cs = some (tabData, p)) : cs = rows ops := by
  cases fuel with
  | zero => simp [DataW.trod] at h
  | succ fuel =>
    simp only [DataW.trod, undTab, cellsTab, cellsLine] at h
    split at h
    · rename_i hl
      obtain ⟨xs, hm, hx⟩ := Option.map_eq_some_iff.1 h
      have hxs : xs.map (·.1) = (ops.map lineData : List (DataW H)) := by
        have := congrArg Prod.fst hx
        simpa [tabData] using this
      apply List.ext_getElem?
      intro i
      by_cases hi : i < 93
      · have hi3 : i / 3 < 31 := by omega
        obtain ⟨b, hb, hf⟩ := Lib.mapM_at hm (i / 3) (i / 3) (by simp [hi3])
        have hd : b.1 = lineData (ops.getD (i / 3) ([], 0, 0)) := by
          have e : (xs.map (·.1))[i / 3]? = some b.1 := by simp [hb]
          rw [hxs] at e
          have h31 : i / 3 < ops.length := hi3
          simp only [List.getElem?_map, List.getElem?_eq_getElem h31, Option.map_some, Option.some.injEq] at e
          rw [← e, List.getD_eq_getElem?_getD, List.getElem?_eq_getElem h31]
          rfl
        have hc := line_of_trod (p := b.2) (ops.getD (i / 3) ([], 0, 0)) (hf.trans (by rw [← hd]))
        have e1 : cs[i]? = ((cs.drop (i / 3 * 3)).take 3)[i % 3]? := by
          rw [List.getElem?_take_of_lt (by omega), List.getElem?_drop]
          congr 1
          omega
        rw [e1, hc, ← rows_at ops (i / 3) (i % 3) hi3 (by omega)]
        congr 1
        omega
      · have hr : (rows ops).length = 93 := by decide +kernel
        rw [List.getElem?_eq_none (by omega), List.getElem?_eq_none (by omega)]
    · cases h

theorem tab_laid : (Rows.laid_loop_example_g00741_impl_opLines : DataW Unit) = tabData := rfl
/-- What the row's list gives. -/
theorem var_of_laid {W : World} (h : laidMet Tryd.prog [("loop.example/g00741/impl.opLines", Rows.laid_loop_example_g00741_impl_opLines)] W) : W.var? Tryd.prog "loop.example/g00741/impl.opLines" = some (rows ops).toArray := by
  obtain ⟨ps, ⟨g, t, cs, fuel, p, q, hg, ht, hvar, hd, _, _⟩, _⟩ := h
  obtain rfl := Option.some.inj (gTab.symm.trans hg)
  obtain rfl := Option.some.inj (gTabType.symm.trans ht)
  rw [hvar]
  congr 1
  obtain ⟨l⟩ := cs
  rw [tab_laid] at hd
  have e : l = rows ops := tab_of_trod hd
  rw [e]
theorem ops_of_var {W : World} (h : W.var? Tryd.prog "loop.example/g00741/impl.opLines" = some (rows ops).toArray) : OpsAt W := by
  simp only [World.var?, gTab, Option.bind_some] at h
  split at h
  · rename_i c t fr hb
    simp only [Option.some.injEq] at h
    subst h
    exact ⟨t, fr, hb⟩
  · cases h
theorem var_of_ops {W : World} (h : OpsAt W) : W.var? Tryd.prog "loop.example/g00741/impl.opLines" = some (rows ops).toArray := by
  obtain ⟨t, fz, h⟩ := h
  simp only [World.var?, gTab, Option.bind_some, h]
theorem reads_tab {H : Type} (enc : TypeId × Value → H) (W : World) (sp : Nat → Bool) : DataW.trod enc Tryd.prog W 0 sp true 3 34 (rows ops) = some (tabData, []) := by kernel_rfl
/-- The variable, opened. -/
theorem open_vars {H : Type} {enc : TypeId × Value → H} {W : World} {gs : List (DataW H)} {q : List MemPlace} (hV : DataW.TrodVars enc Tryd.prog W (fun _ => true) ["loop.example/g00741/impl.opLines"] gs q) (hv : W.var? Tryd.prog "loop.example/g00741/impl.opLines" = some (rows ops).toArray) :
    gs = [tabData] ∧ q = MemPlace.row ⟨0, 0, none⟩ (rows ops).toArray.size := by
  obtain ⟨g, t, cs, fuel, d, p', rfl, hg, ht, hvar, hd, rfl⟩ := trodVars_one hV
  obtain rfl := Option.some.inj (gTab.symm.trans hg)
  obtain rfl := Option.some.inj (gTabType.symm.trans ht)
  obtain rfl : cs = (rows ops).toArray := Option.some.inj (hvar.symm.trans hv)
  obtain ⟨rfl, rfl⟩ := DataW.Trod.unique (v := .agg (rows ops).toArray) ⟨fuel, hd⟩ ⟨3, reads_tab enc W _⟩
  exact ⟨rfl, by simp⟩
/-- The variable behind the call. -/
theorem shut_vars {H : Type} {enc : TypeId × Value → H} {W : World} (ho : OpsAt W) (sp : Nat → Bool) :
    DataW.TrodVars enc Tryd.prog W sp ["loop.example/g00741/impl.opLines"] [tabData] (MemPlace.row ⟨0, 0, none⟩ (rows ops).toArray.size ++ []) :=
  trodVars_mk1 gTab gTabType (var_of_ops ho) (reads_tab enc W sp)

/-- A world for the witness: the settled one, the table holding what its initialiser lays. -/
def laidOn (w : World) : World :=
  { w with heap := w.heap.modify 0 fun
      | .cells _ t frozen => .cells (rows ops).toArray t frozen
      | o => o }
end Go.Proofs.YtifkcojcedgepaaDoor.Laid
