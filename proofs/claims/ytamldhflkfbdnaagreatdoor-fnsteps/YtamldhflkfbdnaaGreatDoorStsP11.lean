/-
  What FnSteps leans on: part 11.
-/
import Derived.Lib.SmallJoins
import Derived.ChangeSlices
import Derived.ProofKit
import Derived.OpenShut
import Derived.ChangeVars
import Derived.ChangeArms
import Derived.Lib.LaidTab
import Derived.Deep.DeepHandedRow
import Derived.Test.YtamldhflkfbdnaaGreatDoorStsP1
import Derived.Test.YtamldhflkfbdnaaGreatDoorStsP3
import Derived.Test.YtamldhflkfbdnaaGreatDoorStsP4
import Derived.Test.YtamldhflkfbdnaaGreatDoorStsP6
import Derived.Test.YtamldhflkfbdnaaGreatDoorStsP7
import Derived.Test.YtamldhflkfbdnaaGreatDoorStsP9
import Derived.Test.YtamldhflkfbdnaaGreatDoorStsP10
set_option linter.unusedVariables false
set_option linter.unusedSimpArgs false
set_option maxRecDepth 20000
namespace Go.Proofs.YtamldhflkfbdnaaGreatDoor.Mem
open Go.ChangeShapes Go.WideShapes Go.RowKit Base Draw Slc Num Rw Tmr Srl Rom RomOf Reg Opl

structure G3 (w : World) (gA gB gC : Nat) (x y ar aa br ba : Value) (M N : Mc) (W : World) : Prop where
 A : MRow W gA x y M
 B : MRow W gB ar aa N
 C : MRow W gC br ba N
 a1 : Sl W x M.rom
 a2 : Sl W y M.ram
 b1 : Sl W ar N.rom
 b2 : Sl W aa N.ram
 c1 : Sl W br N.rom
 c2 : Sl W ba N.ram
 bel : Below w.heap.size w W
theorem G3.below {w W W' : World} {gA gB gC : Nat} {x y ar aa br ba : Value} {M N : Mc} (h : G3 w gA gB gC x y ar aa br ba M N W) (hb : Below W.heap.size W W') : G3 w gA gB gC x y ar aa br ba M N W' :=
 ⟨h.A.below hb, h.B.below hb, h.C.below hb, h.a1.below hb, h.a2.below hb, h.b1.below hb, h.b2.below hb, h.c1.below hb, h.c2.below hb, zD h.bel hb⟩
theorem zEk {w3 w4 w5 : World} (hb : Below w3.heap.size w3 w4) (ho : Onto w3.heap.size w4 w5) : Below w3.heap.size w3 w5 := zA hb ho (Nat.le_refl _)
end Go.Proofs.YtamldhflkfbdnaaGreatDoor.Mem
namespace Go.Proofs.YtamldhflkfbdnaaGreatDoor.Mem
open Go.ChangeShapes Go.WideShapes Go.RowKit Base Num Slc Rw Tmr Srl Rom Opl

def St.join (s x : St) : St := ⟨x.m, s.o ++ x.o, s.e ++ x.e, s.u + x.u⟩
section
variable {l : List M3} {k0 til : Int} {s : St}
def St.on (l : List M3) (s : St) : St := s.join (s.m.stepped (l.drop s.u.toNat))
end
end Go.Proofs.YtamldhflkfbdnaaGreatDoor.Mem
namespace Go.Proofs.YtamldhflkfbdnaaGreatDoor.Reg
open Go.RowKit Base Rw

end Go.Proofs.YtamldhflkfbdnaaGreatDoor.Reg
namespace Go.Proofs.YtamldhflkfbdnaaGreatDoor.Mem
open Go.ChangeShapes Go.WideShapes Go.RowKit Base Num Slc Slf Rw Tmr Srl Rom Opl Reg

end Go.Proofs.YtamldhflkfbdnaaGreatDoor.Mem
namespace Go.Proofs.YtamldhflkfbdnaaGreatDoor.Reg
open Go.RowKit Base

end Go.Proofs.YtamldhflkfbdnaaGreatDoor.Reg
namespace Go.Proofs.YtamldhflkfbdnaaGreatDoor.Mem
open Go.ChangeShapes Go.WideShapes Go.RowKit Base Num Slc Slf Rw Tmr Srl Rom Opl Reg

theorem addN {t : TypeId} (hu : Tryz.prog.underlying t = some (.int .i64)) (i j : Int) (x y : Operand) (w : World) (h0 : -9223372036854775808 ≤ i + j) (h1 : i + j ≤ 9223372036854775807) : (do eqGuard .add t x y (.int .i64 i) (.int .i64 j); binOp .add t (.int .i64 i) (.int .i64 j) : Sem Value).run Tryz.prog w = .ok (.int .i64 (i + j)) w := by
 have e : IntKind.i64.wrap (i + j) = i + j := by
  simp [IntKind.wrap, IntKind.bits, IntKind.signed]
  omega
 have : (do eqGuard .add t x y (.int .i64 i) (.int .i64 j); binOp .add t (.int .i64 i) (.int .i64 j) : Sem Value).run Tryz.prog w = .ok (.int .i64 (IntKind.i64.wrap (i + j))) w := by simp [go_sem, hu]
 rw [this, e]
def St.outs (s X : St) : St := { s with o := s.o ++ X.o }
end Go.Proofs.YtamldhflkfbdnaaGreatDoor.Mem
namespace Go.Proofs.YtamldhflkfbdnaaGreatDoor.Args
open Go.ChangeShapes Go.WideShapes Go.RowKit Base Tmr Go.Joins

end Go.Proofs.YtamldhflkfbdnaaGreatDoor.Args
namespace Go.Proofs.YtamldhflkfbdnaaGreatDoor.Args
open Go.ChangeShapes Go.WideShapes Go.RowKit Base Srl

theorem cells64 : Tryz.prog.cellsOf 2 = 1 := by kernel_rfl
open Tmr Slc Mem
end Go.Proofs.YtamldhflkfbdnaaGreatDoor.Args
namespace Go.Proofs.YtamldhflkfbdnaaGreatDoor.Laid
open Go.ChangeShapes Go.WideShapes Go.ChangeAt Go.RowKit Opl

theorem gTab : Tryz.prog.globalNamed "loop.example/g00741/impl.opLines" = some 0 := by kernel_rfl
theorem zIg : (Tryz.prog.globals[0]?).map (·.type) = some 271 := by kernel_rfl
theorem zSw : Tryz.prog.cellsOf 271 = 93 := by kernel_rfl
theorem zJ6 : Tryz.prog.cellsOf 254 = 3 := by kernel_rfl
theorem cells64 : Tryz.prog.cellsOf 2 = 1 := by kernel_rfl
theorem zSx : Tryz.prog.cellsOf 9 = 1 := by kernel_rfl
theorem zU6 : Tryz.prog.underlying 271 = some (.array 31 254) := by kernel_rfl

def zD0 {H : Type} (x : List UInt8 × Int × Int) : DataW H := .agg [.lit (.string x.1), .lit (.int .i64 x.2.1), .lit (.int .i64 x.2.2)]
def tabData {H : Type} : DataW H := .agg (ops.map zD0)

set_option maxRecDepth 20000 in
theorem zKn {H : Type} {enc : TypeId × Value → H} {w : World} {base : Nat} {sp : Nat → Bool} {held : Bool} {fuel : Nat} {cs : List Value} {p : List MemPlace} (x : List UInt8 × Int × Int)
  (h : DataW.trod enc Tryz.prog w base sp held fuel 254 cs = some (zD0 x, p)) : cs = cells3 x := by
 obtain ⟨xs, n, rfl, hx, hl, hxl, hall⟩ := DataW.trod_struct zE9 h
 rw [zJ6] at hl
 obtain ⟨c0, c1, c2, rfl⟩ : ∃ c0 c1 c2, cs = [c0, c1, c2] := by
  match cs, hl with
  | [a, b, c], _ => exact ⟨a, b, c, rfl⟩
 obtain ⟨y0, y1, y2, rfl⟩ : ∃ y0 y1 y2, xs = [y0, y1, y2] := by
  match xs, hxl with
  | [a, b, c], _ => exact ⟨a, b, c, rfl⟩
 have h0 : DataW.trod enc Tryz.prog w base sp held n 9 [c0] = some y0 := by
  have h := hall 0 _ rfl
  change DataW.trod enc Tryz.prog w base sp held n 9 (([c0, c1, c2].drop 0).take (Tryz.prog.cellsOf 9)) = _ at h
  rw [zSx] at h
  exact h
 have h1 : DataW.trod enc Tryz.prog w base sp held n 2 [c1] = some y1 := by
  have h := hall 1 _ rfl
  change DataW.trod enc Tryz.prog w base sp held n 2 (([c0, c1, c2].drop 1).take (Tryz.prog.cellsOf 2)) = _ at h
  rw [cells64] at h
  exact h
 have h2 : DataW.trod enc Tryz.prog w base sp held n 2 [c2] = some y2 := by
  have h := hall 2 _ rfl
  change DataW.trod enc Tryz.prog w base sp held n 2 (([c0, c1, c2].drop 2).take (Tryz.prog.cellsOf 2)) = _ at h
  rw [cells64] at h
  exact h
 obtain ⟨s, e0, f0, _⟩ := DataW.trod_string (w := w) (base := base) (P := Tryz.prog) (t := 9) (by kernel_rfl) h0
 obtain ⟨a, e1, f1, _⟩ := DataW.trod_int (w := w) (base := base) (P := Tryz.prog) (t := 2) (k := .i64) (by kernel_rfl) h1
 obtain ⟨b, e2, f2, _⟩ := DataW.trod_int (w := w) (base := base) (P := Tryz.prog) (t := 2) (k := .i64) (by kernel_rfl) h2
 subst f0; subst f1; subst f2
 simp [zD0] at hx
 obtain ⟨⟨hs, ha, hb⟩, _⟩ := hx
 simp at e0 e1 e2
 subst e0; subst e1; subst e2
 simp [cells3, ← ha, ← hb, hs]

theorem zK8 {H : Type} {enc : TypeId × Value → H} {w : World} {base : Nat} {sp : Nat → Bool} {held : Bool} {fuel : Nat} {cs : List Value} {p : List MemPlace}
  (h : DataW.trod enc Tryz.prog w base sp held fuel 271 cs = some (tabData, p)) : cs = rows ops := by
 cases fuel with
 | zero => simp [DataW.trod] at h
 | succ fuel =>
  simp only [DataW.trod, zU6, zSw, zJ6] at h
  split at h
  ·rename_i hl
   obtain ⟨xs, hm, hx⟩ := Option.map_eq_some_iff.1 h
   have hxs : xs.map (·.1) = (ops.map zD0 : List (DataW H)) := by
    have := congrArg Prod.fst hx
    simpa [tabData] using this
   apply List.ext_getElem?
   intro i
   by_cases hi : i < 93
   ·have hi3 : i / 3 < 31 := by omega
    obtain ⟨b, hb, hf⟩ := Lib.mapM_at hm (i / 3) (i / 3) (by simp [hi3])
    have hd : b.1 = zD0 (ops.getD (i / 3) ([], 0, 0)) := by
     have e : (xs.map (·.1))[i / 3]? = some b.1 := by simp [hb]
     rw [hxs] at e
     have h31 : i / 3 < ops.length := hi3
     simp only [List.getElem?_map, List.getElem?_eq_getElem h31, Option.map_some, Option.some.injEq] at e
     rw [← e, List.getD_eq_getElem?_getD, List.getElem?_eq_getElem h31]
     rfl
    have hc := zKn (p := b.2) (ops.getD (i / 3) ([], 0, 0)) (hf.trans (by rw [← hd]))
    have e1 : cs[i]? = ((cs.drop (i / 3 * 3)).take 3)[i % 3]? := by
     rw [List.getElem?_take_of_lt (by omega), List.getElem?_drop]
     congr 1
     omega
    rw [e1, hc, ← zEe ops (i / 3) (i % 3) hi3 (by omega)]
    congr 1
    omega
   ·have hr : (rows ops).length = 93 := by decide +kernel
    rw [List.getElem?_eq_none (by omega), List.getElem?_eq_none (by omega)]
  ·cases h

theorem zQl : (Rows.laid_loop_example_g00741_impl_opLines : DataW Unit) = tabData := rfl
theorem zK5 {W : World} (h : laidMet Tryz.prog [("loop.example/g00741/impl.opLines", Rows.laid_loop_example_g00741_impl_opLines)] W) : W.var? Tryz.prog "loop.example/g00741/impl.opLines" = some (rows ops).toArray := by
 obtain ⟨ps, ⟨g, t, cs, fuel, p, q, hg, ht, hvar, hd, _, _⟩, _⟩ := h
 obtain rfl := Option.some.inj (gTab.symm.trans hg)
 obtain rfl := Option.some.inj (zIg.symm.trans ht)
 rw [hvar]
 congr 1
 obtain ⟨l⟩ := cs
 rw [zQl] at hd
 have e : l = rows ops := zK8 hd
 rw [e]
theorem zNi {W : World} (h : W.var? Tryz.prog "loop.example/g00741/impl.opLines" = some (rows ops).toArray) : jK W := by
 simp only [World.var?, gTab, Option.bind_some] at h
 split at h
 ·rename_i c t fr hb
  simp only [Option.some.injEq] at h
  subst h
  exact ⟨t, fr, hb⟩
 ·cases h
theorem zM5 {W : World} (h : jK W) : W.var? Tryz.prog "loop.example/g00741/impl.opLines" = some (rows ops).toArray := by
 obtain ⟨t, fz, h⟩ := h
 simp only [World.var?, gTab, Option.bind_some, h]
theorem zJr {H : Type} (enc : TypeId × Value → H) (W : World) (sp : Nat → Bool) : DataW.trod enc Tryz.prog W 0 sp true 3 271 (rows ops) = some (tabData, []) := by kernel_rfl
theorem zO3 {H : Type} {enc : TypeId × Value → H} {W : World} {gs : List (DataW H)} {q : List MemPlace} (hV : DataW.TrodVars enc Tryz.prog W (fun _ => true) ["loop.example/g00741/impl.opLines"] gs q) (hv : W.var? Tryz.prog "loop.example/g00741/impl.opLines" = some (rows ops).toArray) :
  gs = [tabData] ∧ q = MemPlace.row ⟨0, 0, none⟩ (rows ops).toArray.size := by
 obtain ⟨g, t, cs, fuel, d, p', rfl, hg, ht, hvar, hd, rfl⟩ := trodVars_one hV
 obtain rfl := Option.some.inj (gTab.symm.trans hg)
 obtain rfl := Option.some.inj (zIg.symm.trans ht)
 obtain rfl : cs = (rows ops).toArray := Option.some.inj (hvar.symm.trans hv)
 obtain ⟨rfl, rfl⟩ := DataW.Trod.unique (v := .agg (rows ops).toArray) ⟨fuel, hd⟩ ⟨3, zJr enc W _⟩
 exact ⟨rfl, by simp⟩
theorem zOv {H : Type} {enc : TypeId × Value → H} {W : World} (ho : jK W) (sp : Nat → Bool) :
  DataW.TrodVars enc Tryz.prog W sp ["loop.example/g00741/impl.opLines"] [tabData] (MemPlace.row ⟨0, 0, none⟩ (rows ops).toArray.size ++ []) :=
 trodVars_mk1 gTab zIg (zM5 ho) (zJr enc W sp)

def zNo (w : World) : World :=
 { w with heap := w.heap.modify 0 fun
   | .cells _ t frozen => .cells (rows ops).toArray t frozen
   | o => o }
end Go.Proofs.YtamldhflkfbdnaaGreatDoor.Laid
