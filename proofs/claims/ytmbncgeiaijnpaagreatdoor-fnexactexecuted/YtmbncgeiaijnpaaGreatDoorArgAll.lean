/-
  What came in as an argument of a law: a number, a truth value, a timer. What came in as an argument of a law: a port; a truth value. What came in as an argument of a law: a machine. What a row's list of the program's own table gives: the table stands in its variable's block; how it reads.
-/
import Derived.Test.YtmbncgeiaijnpaaGreatDoorTmr
import Derived.Lib.SmallJoins
import Derived.Test.YtmbncgeiaijnpaaGreatDoorSrl
import Derived.Test.YtmbncgeiaijnpaaGreatDoorMc
import Derived.ChangeSlices
import Derived.Test.YtmbncgeiaijnpaaGreatDoorOp
import Derived.ProofKit
import Derived.OpenShut
import Derived.ChangeVars
import Derived.ChangeArms
import Derived.Lib.LaidTab
import Derived.Deep.DeepHandedRow
namespace Go.Proofs.YtmbncgeiaijnpaaGreatDoor.Args
open Go.ChangeShapes Go.WideShapes Go.RowKit Base Tmr Go.Joins
set_option linter.unusedVariables false

/-- An argument of the type t that reads as a datum. -/
def Arg (t : TypeId) (w : World) (v : Value) : Prop :=
  ∃ (H : Type) (enc : TypeId × Value → H) (b : Nat) (d : DataW H) (p : List MemPlace), Value.okWide Tryz.prog w .any b t v ∧ DataW.Trod enc Tryz.prog w 0 (fun _ => true) true t v d p
set_option maxRecDepth 20000 in
theorem Arg.int {w : World} {v : Value} (h : Arg 2 w v) : ∃ n : Int, v = .int .i64 n ∧ -9223372036854775808 ≤ n ∧ n ≤ 9223372036854775807 := by
  obtain ⟨H, enc, b, d, p, hv, hd⟩ := h
  obtain ⟨n, rfl, rfl, rfl, wf⟩ := open_int Tryz.underlying2 hv hd
  exact ⟨n, rfl, bounds_i64 wf⟩
set_option maxRecDepth 20000 in
theorem Arg.timer {w : World} {v : Value} (h : Arg 39 w v) : ∃ t : Tm, v = t.val := by
  obtain ⟨H, enc, b, d, p, hv, hd⟩ := h
  obtain ⟨v0, v1, v2, v3, y0, y1, y2, y3, n, rfl, rfl, rfl, h0, h1, h2, h3⟩ := open_agg4 Tryz.underlying39 (by kernel_rfl) (by kernel_rfl) hv hd
  obtain ⟨a0, e0, rfl, w0⟩ := DataW.trod_int Tryz.underlying2 h0
  obtain ⟨a1, e1, rfl, w1⟩ := DataW.trod_int Tryz.underlying2 h1
  obtain ⟨a2, e2, rfl, w2⟩ := DataW.trod_int Tryz.underlying2 h2
  obtain ⟨a3, e3, rfl, w3⟩ := DataW.trod_int Tryz.underlying2 h3
  simp at e0 e1 e2 e3
  subst e0 e1 e2 e3
  exact ⟨⟨a0, a1, a2, a3⟩, rfl⟩
end Go.Proofs.YtmbncgeiaijnpaaGreatDoor.Args
namespace Go.Proofs.YtmbncgeiaijnpaaGreatDoor.Args
open Go.ChangeShapes Go.WideShapes Go.RowKit Base Srl
set_option linter.unusedVariables false

set_option maxRecDepth 20000 in
/-- A struct that came in, field by field. -/
theorem Arg.fields {t : TypeId} {w : World} {v : Value} {fs : Array Field} (ht : Tryz.prog.underlying t = some (.struct fs)) (h : Arg t w v) :
    ∃ (cs : Array Value) (H : Type) (enc : TypeId × Value → H) (n : Nat), v = .agg cs ∧ cs.size = Tryz.prog.cellsOf t ∧
      ∀ (i : Nat) (f : Field), fs[i]? = some f → ∃ y : DataW H × List MemPlace, DataW.trod enc Tryz.prog w 0 (fun _ => true) true n f.type ((cs.toList.drop f.offset).take (Tryz.prog.cellsOf f.type)) = some y := by
  obtain ⟨H, enc, b, d, p, hv, hd⟩ := h
  obtain ⟨cs, rfl, hsz⟩ := okWide_struct ht hv
  obtain ⟨fuel, hf⟩ := hd
  obtain ⟨xs, n, _, _, _, hlen, hg⟩ := DataW.trod_struct ht hf
  refine ⟨cs, H, enc, n, rfl, hsz, fun i f hi => ?_⟩
  have h1 := hg i f hi
  have hl : i < xs.length := by
    have : i < fs.size := by
      by_cases hl : i < fs.size
      · exact hl
      · have e : fs[i]? = none := by simp; omega
        rw [e] at hi; cases hi
    omega
  rw [List.getElem?_eq_getElem hl] at h1
  exact ⟨_, h1⟩
theorem cells64 : Tryz.prog.cellsOf 2 = 1 := by kernel_rfl
theorem cellsB : Tryz.prog.cellsOf 4 = 1 := by kernel_rfl
set_option maxRecDepth 20000 in
theorem Arg.bool {w : World} {v : Value} (h : Arg 4 w v) : ∃ q : Bool, v = .bool q := by
  obtain ⟨H, enc, b, d, p, hv, hd⟩ := h
  obtain ⟨q, rfl⟩ := okWide_bool Tryz.underlying4 hv
  exact ⟨q, rfl⟩
theorem size6 {cs : Array Value} (h : cs.size = 6) : ∃ a b c d e f, cs = #[a, b, c, d, e, f] := by
  obtain ⟨l⟩ := cs
  match l, h with
  | [a, b, c, d, e, f], _ => exact ⟨a, b, c, d, e, f, rfl⟩
set_option maxRecDepth 20000 in
theorem Arg.serial {w : World} {v : Value} (h : Arg 40 w v) : ∃ s : Sr, v = s.val := by
  obtain ⟨cs, H, enc, n, rfl, hsz, hf⟩ := h.fields Tryz.underlying40
  have h6 : Tryz.prog.cellsOf 40 = 6 := by kernel_rfl
  obtain ⟨c0, c1, c2, c3, c4, c5, rfl⟩ := size6 (hsz.trans h6)
  obtain ⟨y0, h0⟩ := hf 0 _ rfl
  obtain ⟨y1, h1⟩ := hf 1 _ rfl
  obtain ⟨y2, h2⟩ := hf 2 _ rfl
  obtain ⟨y3, h3⟩ := hf 3 _ rfl
  obtain ⟨y4, h4⟩ := hf 4 _ rfl
  obtain ⟨y5, h5⟩ := hf 5 _ rfl
  obtain ⟨a0, e0, _, _⟩ := DataW.trod_int Tryz.underlying2 h0
  obtain ⟨a1, e1, _⟩ := DataW.trod_bool Tryz.underlying4 h1
  obtain ⟨a2, e2, _⟩ := DataW.trod_bool Tryz.underlying4 h2
  obtain ⟨a3, e3, _, _⟩ := DataW.trod_int Tryz.underlying2 h3
  obtain ⟨a4, e4, _, _⟩ := DataW.trod_int Tryz.underlying2 h4
  obtain ⟨a5, e5, _⟩ := DataW.trod_bool Tryz.underlying4 h5
  simp [cells64] at e0 e3 e4
  simp [cellsB] at e1 e2 e5
  subst e0 e1 e2 e3 e4 e5
  exact ⟨⟨a0, a1, a2, a3, a4, a5⟩, rfl⟩
end Go.Proofs.YtmbncgeiaijnpaaGreatDoor.Args
namespace Go.Proofs.YtmbncgeiaijnpaaGreatDoor.Args
open Go.ChangeShapes Go.WideShapes Go.RowKit Base Srl Tmr Slc Mem
set_option linter.unusedVariables false
set_option linter.unusedSimpArgs false

theorem size25 {cs : Array Value} (h : cs.size = 25) : ∃ a0 a1 a2 a3 a4 a5 a6 a7 a8 a9 a10 a11 a12 a13 a14 a15 a16 a17 a18 a19 a20 a21 a22 a23 a24, cs = #[a0, a1, a2, a3, a4, a5, a6, a7, a8, a9, a10, a11, a12, a13, a14, a15, a16, a17, a18, a19, a20, a21, a22, a23, a24] := by
  obtain ⟨l⟩ := cs
  match l, h with
  | [a0, a1, a2, a3, a4, a5, a6, a7, a8, a9, a10, a11, a12, a13, a14, a15, a16, a17, a18, a19, a20, a21, a22, a23, a24], _ => exact ⟨a0, a1, a2, a3, a4, a5, a6, a7, a8, a9, a10, a11, a12, a13, a14, a15, a16, a17, a18, a19, a20, a21, a22, a23, a24, rfl⟩
theorem cellsS : Tryz.prog.cellsOf 24 = 1 := by kernel_rfl
theorem cellsT : Tryz.prog.cellsOf 39 = 4 := by kernel_rfl
theorem cellsP : Tryz.prog.cellsOf 40 = 6 := by kernel_rfl
section
variable {H : Type} {enc : TypeId × Value → H} {w : World} {n : Nat}
set_option maxRecDepth 20000 in
theorem ints_sl {v : Value} {y : DataW H × List MemPlace} (h : DataW.trod enc Tryz.prog w 0 (fun _ => true) true n 24 [v] = some y) : ∃ l, Sl w v l := by
  rcases open_ints Tryz.underlying24 Tryz.underlying2 cells64 h with ⟨hcs, _⟩ | ⟨x, l, c, zs, hcs, _, hl, hm, hz, _, hcell, hwz⟩
  · simp at hcs
    subst hcs
    exact ⟨_, sl_of (zs := []) (.inl ⟨rfl, rfl, rfl, rfl⟩)⟩
  · simp at hcs
    subst hcs
    exact ⟨_, sl_of (.inr ⟨_, rfl, hl, hm, by simpa using hz, hcell, hwz⟩)⟩
set_option maxRecDepth 20000 in
theorem one_int {v : Value} {y : DataW H × List MemPlace} (h : DataW.trod enc Tryz.prog w 0 (fun _ => true) true n 2 [v] = some y) : ∃ z, v = .int .i64 z := by
  obtain ⟨z, e, _, _⟩ := DataW.trod_int Tryz.underlying2 h
  simp at e
  exact ⟨z, e⟩
set_option maxRecDepth 20000 in
theorem one_bool {v : Value} {y : DataW H × List MemPlace} (h : DataW.trod enc Tryz.prog w 0 (fun _ => true) true n 4 [v] = some y) : ∃ z, v = .bool z := by
  obtain ⟨z, e, _⟩ := DataW.trod_bool Tryz.underlying4 h
  simp at e
  exact ⟨z, e⟩
end
set_option maxRecDepth 20000 in
set_option maxHeartbeats 1000000 in
theorem Arg.machine {w : World} {v : Value} (h : Arg 42 w v) : ∃ (m : Mc) (vr va : Value), v = m.val vr va ∧ Sl w vr m.rom ∧ Sl w va m.ram := by
  obtain ⟨cs, H, enc, n, rfl, hsz, hf⟩ := h.fields Tryz.underlying42
  have h25 : Tryz.prog.cellsOf 42 = 25 := by kernel_rfl
  obtain ⟨a0, a1, a2, a3, a4, a5, a6, a7, a8, a9, a10, a11, a12, a13, a14, a15, a16, a17, a18, a19, a20, a21, a22, a23, a24, rfl⟩ := size25 (hsz.trans h25)
  obtain ⟨y0, h0⟩ := hf 0 _ rfl
  obtain ⟨y1, h1⟩ := hf 1 _ rfl
  obtain ⟨y2, h2⟩ := hf 2 _ rfl
  obtain ⟨y3, h3⟩ := hf 3 _ rfl
  obtain ⟨y4, h4⟩ := hf 4 _ rfl
  obtain ⟨y5, h5⟩ := hf 5 _ rfl
  obtain ⟨y6, h6⟩ := hf 6 _ rfl
  obtain ⟨y7, h7⟩ := hf 7 _ rfl
  obtain ⟨y8, h8⟩ := hf 8 _ rfl
  obtain ⟨y9, h9⟩ := hf 9 _ rfl
  obtain ⟨y10, h10⟩ := hf 10 _ rfl
  obtain ⟨y11, h11⟩ := hf 11 _ rfl
  obtain ⟨y12, h12⟩ := hf 12 _ rfl
  obtain ⟨y13, h13⟩ := hf 13 _ rfl
  obtain ⟨y14, h14⟩ := hf 14 _ rfl
  obtain ⟨y15, h15⟩ := hf 15 _ rfl
  obtain ⟨y16, h16⟩ := hf 16 _ rfl
  simp only [cells64, cellsB, cellsS, cellsT, cellsP, List.drop_succ_cons, List.drop_zero, List.take_succ_cons, List.take_zero, List.drop, List.take] at h0 h1 h2 h3 h4 h5 h6 h7 h8 h9 h10 h11 h12 h13 h14 h15 h16
  obtain ⟨l0, s0⟩ := ints_sl h0
  obtain ⟨l1, s1⟩ := ints_sl h1
  obtain ⟨z2, rfl⟩ := one_int h2
  obtain ⟨z3, rfl⟩ := one_int h3
  obtain ⟨z4, rfl⟩ := one_int h4
  obtain ⟨z5, rfl⟩ := one_int h5
  obtain ⟨z6, rfl⟩ := one_bool h6
  obtain ⟨z7, rfl⟩ := one_bool h7
  obtain ⟨z8, rfl⟩ := one_bool h8
  obtain ⟨z9, rfl⟩ := one_bool h9
  obtain ⟨z10, rfl⟩ := one_bool h10
  obtain ⟨z11, rfl⟩ := one_int h11
  obtain ⟨z12, rfl⟩ := one_int h12
  obtain ⟨z13, rfl⟩ := one_int h13
  obtain ⟨z24, rfl⟩ := one_int h16
  obtain ⟨xs, n2, _, _, _, hlen, hg⟩ := DataW.trod_struct Tryz.underlying39 h14
  obtain ⟨xs', n3, _, _, _, hlen', hg'⟩ := DataW.trod_struct Tryz.underlying40 h15
  have hx : ∀ i, i < 4 → ∃ y, xs[i]? = some y := fun i hi => ⟨_, List.getElem?_eq_getElem (by rw [hlen]; exact hi)⟩
  have hx' : ∀ i, i < 6 → ∃ y, xs'[i]? = some y := fun i hi => ⟨_, List.getElem?_eq_getElem (by rw [hlen']; exact hi)⟩
  obtain ⟨u0, e0⟩ := hx 0 (by omega)
  have t0 := (hg 0 _ rfl).trans e0
  obtain ⟨u1, e1⟩ := hx 1 (by omega)
  have t1 := (hg 1 _ rfl).trans e1
  obtain ⟨u2, e2⟩ := hx 2 (by omega)
  have t2 := (hg 2 _ rfl).trans e2
  obtain ⟨u3, e3⟩ := hx 3 (by omega)
  have t3 := (hg 3 _ rfl).trans e3
  obtain ⟨v0, d0⟩ := hx' 0 (by omega)
  have p0 := (hg' 0 _ rfl).trans d0
  obtain ⟨v1, d1⟩ := hx' 1 (by omega)
  have p1 := (hg' 1 _ rfl).trans d1
  obtain ⟨v2, d2⟩ := hx' 2 (by omega)
  have p2 := (hg' 2 _ rfl).trans d2
  obtain ⟨v3, d3⟩ := hx' 3 (by omega)
  have p3 := (hg' 3 _ rfl).trans d3
  obtain ⟨v4, d4⟩ := hx' 4 (by omega)
  have p4 := (hg' 4 _ rfl).trans d4
  obtain ⟨v5, d5⟩ := hx' 5 (by omega)
  have p5 := (hg' 5 _ rfl).trans d5
  obtain ⟨z14, rfl⟩ := one_int t0
  obtain ⟨z15, rfl⟩ := one_int t1
  obtain ⟨z16, rfl⟩ := one_int t2
  obtain ⟨z17, rfl⟩ := one_int t3
  obtain ⟨z18, rfl⟩ := one_int p0
  obtain ⟨z19, rfl⟩ := one_bool p1
  obtain ⟨z20, rfl⟩ := one_bool p2
  obtain ⟨z21, rfl⟩ := one_int p3
  obtain ⟨z22, rfl⟩ := one_int p4
  obtain ⟨z23, rfl⟩ := one_bool p5
  exact ⟨⟨l0, l1, z2, z3, z4, z5, z6, z7, z8, z9, z10, z11, z12, z13, ⟨z14, z15, z16, z17⟩, ⟨z18, z19, z20, z21, z22, z23⟩, z24⟩, a0, a1, rfl, s0, s1⟩
end Go.Proofs.YtmbncgeiaijnpaaGreatDoor.Args
namespace Go.Proofs.YtmbncgeiaijnpaaGreatDoor.Laid
open Go.ChangeShapes Go.WideShapes Go.ChangeAt Go.RowKit Opl
set_option linter.unusedVariables false

theorem gTab : Tryz.prog.globalNamed "loop.example/g00741/impl.opLines" = some 0 := by kernel_rfl
theorem gTabType : (Tryz.prog.globals[0]?).map (·.type) = some 96 := by kernel_rfl
theorem cellsTab : Tryz.prog.cellsOf 96 = 93 := by kernel_rfl
theorem cellsLine : Tryz.prog.cellsOf 68 = 3 := by kernel_rfl
theorem cells64 : Tryz.prog.cellsOf 2 = 1 := by kernel_rfl
theorem cellsStr : Tryz.prog.cellsOf 9 = 1 := by kernel_rfl
theorem undTab : Tryz.prog.underlying 96 = some (.array 31 68) := by kernel_rfl

/-- A line as a datum; the table as one. -/
def lineData {H : Type} (x : List UInt8 × Int × Int) : DataW H := .agg [.lit (.string x.1), .lit (.int .i64 x.2.1), .lit (.int .i64 x.2.2)]
def tabData {H : Type} : DataW H := .agg (ops.map lineData)

set_option maxRecDepth 20000 in
theorem line_of_trod {H : Type} {enc : TypeId × Value → H} {w : World} {base : Nat} {sp : Nat → Bool} {held : Bool} {fuel : Nat} {cs : List Value} {p : List MemPlace} (x : List UInt8 × Int × Int)
    (h : DataW.trod enc Tryz.prog w base sp held fuel 68 cs = some (lineData x, p)) : cs = cells3 x := by
  obtain ⟨xs, n, rfl, hx, hl, hxl, hall⟩ := DataW.trod_struct und_line h
  rw [cellsLine] at hl
  obtain ⟨c0, c1, c2, rfl⟩ : ∃ c0 c1 c2, cs = [c0, c1, c2] := by
    match cs, hl with
    | [a, b, c], _ => exact ⟨a, b, c, rfl⟩
  obtain ⟨y0, y1, y2, rfl⟩ : ∃ y0 y1 y2, xs = [y0, y1, y2] := by
    match xs, hxl with
    | [a, b, c], _ => exact ⟨a, b, c, rfl⟩
  have h0 : DataW.trod enc Tryz.prog w base sp held n 9 [c0] = some y0 := by
    have h := hall 0 _ rfl
    change DataW.trod enc Tryz.prog w base sp held n 9 (([c0, c1, c2].drop 0).take (Tryz.prog.cellsOf 9)) = _ at h
    rw [cellsStr] at h
    exact h
  have h1 : DataW.trod enc Tryz.prog w base sp held n 2 [c1] = some y1 := by
    have h := hall 1 _ rfl
    change DataW.trod enc Tryz.prog w base sp held n 2 (([c0, c1, c2].drop 1).take (Tryz.prog.cellsOf 2)) = _ at h
    rw [cells64] at h
    exact h
  have h2 : DataW.trod enc Tryz.prog w base sp held n 2 [c2] = some y2 := by
    have h := hall 2 _ rfl
    change DataW.trod enc Tryz.prog w base sp held n 2 (([c0, c1, c2].drop 2).take (Tryz.prog.cellsOf 2)) = _ at h
    rw [cells64] at h
    exact h
  obtain ⟨s, e0, f0, _⟩ := DataW.trod_string (w := w) (base := base) (P := Tryz.prog) (t := 9) (by kernel_rfl) h0
  obtain ⟨a, e1, f1, _⟩ := DataW.trod_int (w := w) (base := base) (P := Tryz.prog) (t := 2) (k := .i64) (by kernel_rfl) h1
  obtain ⟨b, e2, f2, _⟩ := DataW.trod_int (w := w) (base := base) (P := Tryz.prog) (t := 2) (k := .i64) (by kernel_rfl) h2
  subst f0; subst f1; subst f2
  simp [lineData] at hx
  obtain ⟨⟨hs, ha, hb⟩, _⟩ := hx
  simp at e0 e1 e2
  subst e0; subst e1; subst e2
  simp [cells3, ← ha, ← hb, hs]

theorem tab_of_trod {H : Type} {enc : TypeId × Value → H} {w : World} {base : Nat} {sp : Nat → Bool} {held : Bool} {fuel : Nat} {cs : List Value} {p : List MemPlace}
    (h : DataW.trod enc Tryz.prog w base sp held fuel 96 cs = some (tabData, p)) : cs = rows ops := by
  cases fuel with
  | zero => simp [DataW.trod] at h
  | succ fuel =>
    simp only [DataW.trod, undTab, cellsTab, cellsLine] at h
    split at h
    · rename_i hl
      obtain ⟨xs, hm, hx⟩ := Option.map_eq_some_iff.1 h
      have hxs : xs.map (·.1) = (ops.map lineData : List (DataW H)) := by
        have := congrArg Prod.fst hx
        simpa [tabData] using this
      apply List.ext_getElem?
      intro i
      by_cases hi : i < 93
      · have hi3 : i / 3 < 31 := by omega
        obtain ⟨b, hb, hf⟩ := Lib.mapM_at hm (i / 3) (i / 3) (by simp [hi3])
        have hd : b.1 = lineData (ops.getD (i / 3) ([], 0, 0)) := by
          have e : (xs.map (·.1))[i / 3]? = some b.1 := by simp [hb]
          rw [hxs] at e
          have h31 : i / 3 < ops.length := hi3
          simp only [List.getElem?_map, List.getElem?_eq_getElem h31, Option.map_some, Option.some.injEq] at e
          rw [← e, List.getD_eq_getElem?_getD, List.getElem?_eq_getElem h31]
          rfl
        have hc := line_of_trod (p := b.2) (ops.getD (i / 3) ([], 0, 0)) (hf.trans (by rw [← hd]))
        have e1 : cs[i]? = ((cs.drop (i / 3 * 3)).take 3)[i % 3]? := by
          rw [List.getElem?_take_of_lt (by omega), List.getElem?_drop]
          congr 1
          omega
        rw [e1, hc, ← rows_at ops (i / 3) (i % 3) hi3 (by omega)]
        congr 1
        omega
      · have hr : (rows ops).length = 93 := by decide +kernel
        rw [List.getElem?_eq_none (by omega), List.getElem?_eq_none (by omega)]
    · cases h

theorem tab_laid : (Rows.laid_loop_example_g00741_impl_opLines : DataW Unit) = tabData := rfl
/-- What the row's list gives. -/
theorem var_of_laid {W : World} (h : laidMet Tryz.prog [("loop.example/g00741/impl.opLines", Rows.laid_loop_example_g00741_impl_opLines)] W) : W.var? Tryz.prog "loop.example/g00741/impl.opLines" = some (rows ops).toArray := by
  obtain ⟨ps, ⟨g, t, cs, fuel, p, q, hg, ht, hvar, hd, _, _⟩, _⟩ := h
  obtain rfl := Option.some.inj (gTab.symm.trans hg)
  obtain rfl := Option.some.inj (gTabType.symm.trans ht)
  rw [hvar]
  congr 1
  obtain ⟨l⟩ := cs
  rw [tab_laid] at hd
  have e : l = rows ops := tab_of_trod hd
  rw [e]
theorem ops_of_var {W : World} (h : W.var? Tryz.prog "loop.example/g00741/impl.opLines" = some (rows ops).toArray) : OpsAt W := by
  simp only [World.var?, gTab, Option.bind_some] at h
  split at h
  · rename_i c t fr hb
    simp only [Option.some.injEq] at h
    subst h
    exact ⟨t, fr, hb⟩
  · cases h
theorem var_of_ops {W : World} (h : OpsAt W) : W.var? Tryz.prog "loop.example/g00741/impl.opLines" = some (rows ops).toArray := by
  obtain ⟨t, fz, h⟩ := h
  simp only [World.var?, gTab, Option.bind_some, h]
theorem reads_tab {H : Type} (enc : TypeId × Value → H) (W : World) (sp : Nat → Bool) : DataW.trod enc Tryz.prog W 0 sp true 3 96 (rows ops) = some (tabData, []) := by kernel_rfl
/-- The variable, opened. -/
theorem open_vars {H : Type} {enc : TypeId × Value → H} {W : World} {gs : List (DataW H)} {q : List MemPlace} (hV : DataW.TrodVars enc Tryz.prog W (fun _ => true) ["loop.example/g00741/impl.opLines"] gs q) (hv : W.var? Tryz.prog "loop.example/g00741/impl.opLines" = some (rows ops).toArray) :
    gs = [tabData] ∧ q = MemPlace.row ⟨0, 0, none⟩ (rows ops).toArray.size := by
  obtain ⟨g, t, cs, fuel, d, p', rfl, hg, ht, hvar, hd, rfl⟩ := trodVars_one hV
  obtain rfl := Option.some.inj (gTab.symm.trans hg)
  obtain rfl := Option.some.inj (gTabType.symm.trans ht)
  obtain rfl : cs = (rows ops).toArray := Option.some.inj (hvar.symm.trans hv)
  obtain ⟨rfl, rfl⟩ := DataW.Trod.unique (v := .agg (rows ops).toArray) ⟨fuel, hd⟩ ⟨3, reads_tab enc W _⟩
  exact ⟨rfl, by simp⟩
/-- The variable behind the call. -/
theorem shut_vars {H : Type} {enc : TypeId × Value → H} {W : World} (ho : OpsAt W) (sp : Nat → Bool) :
    DataW.TrodVars enc Tryz.prog W sp ["loop.example/g00741/impl.opLines"] [tabData] (MemPlace.row ⟨0, 0, none⟩ (rows ops).toArray.size ++ []) :=
  trodVars_mk1 gTab gTabType (var_of_ops ho) (reads_tab enc W sp)

/-- A world for the witness: the settled one, the table holding what its initialiser lays. -/
def laidOn (w : World) : World :=
  { w with heap := w.heap.modify 0 fun
      | .cells _ t frozen => .cells (rows ops).toArray t frozen
      | o => o }
end Go.Proofs.YtmbncgeiaijnpaaGreatDoor.Laid
