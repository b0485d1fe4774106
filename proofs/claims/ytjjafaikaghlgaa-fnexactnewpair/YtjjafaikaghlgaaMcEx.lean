/-
  The exact laws of chapter 6: the region that they share.
-/
import Derived.Test.YtjjafaikaghlgaaMcLaw
import Derived.Test.YtjjafaikaghlgaaRegs
namespace Go.Proofs.Ytjjafaikaghlgaa.Mem
open Go.ChangeShapes Go.WideShapes Go.RowKit Base Num Slc Rw Tmr Srl Rom RomOf Ex Reg
set_option linter.unusedVariables false
set_option maxRecDepth 20000
set_option linter.unusedSimpArgs false

/-- The region that holds a machine against a copy of the argument: what is told of each operation. -/
def Te (s0 : Nat) (m : Mc) (xr xa vr va : Value) (j : Nat) (f : Nat → Value) (W : World) : Prop :=
  if j = 0 then f s0 = m.val xr xa
  else if j = 1 then f (s0 + 1) = m.val vr va
  else if j = 2 then MSl W (f (s0 + 2)) m
  else if j = 3 then f (s0 + 3) = .bool true
  else if j = 4 then f (s0 + 4) = .bool false
  else True
theorem mono_e {ops : Array Oper} {s0 : Nat} {m : Mc} {xr xa vr va : Value} (hS : supOk ops [[s0], [s0 + 1], [s0 + 2], [s0 + 3], [s0 + 4]] = true) : Mono ops (Te s0 m xr xa vr va) (fun _ W W' => Below W.heap.size W W') := by
  refine mono_sup hS (fun j f f' W hf hT => ?_) (fun i j f W W' hij hT hR => ?_)
  · rcases j with _ | _ | _ | _ | _ | j
    · exact (hf s0 (by simp)).trans hT
    · exact (hf (s0 + 1) (by simp)).trans hT
    · show MSl W (f' (s0 + 2)) m
      rw [hf (s0 + 2) (by simp)]; exact hT
    · exact (hf (s0 + 3) (by simp)).trans hT
    · exact (hf (s0 + 4) (by simp)).trans hT
    · simp [Te]
  · rcases j with _ | _ | _ | _ | _ | j
    · exact hT
    · exact hT
    · exact MSl.below (show MSl W (f (s0 + 2)) m from hT) hR
    · exact hT
    · exact hT
    · simp [Te]
/-- What stands while the region runs. -/
structure Ge (w : World) (m : Mc) (g gx : Nat) (xr xa vr va : Value) (W : World) : Prop where
  arg : Row W g (m.cells vr va) 98
  x : MRow W gx xr xa m
  ar : Sl W vr m.rom
  aa : Sl W va m.ram
  xr : Sl W xr m.rom
  xa : Sl W xa m.ram
  bel : Below w.heap.size w W
theorem Ge.below {w W W' : World} {m : Mc} {g gx : Nat} {xr xa vr va : Value} (h : Ge w m g gx xr xa vr va W) (hb : Below W.heap.size W W') : Ge w m g gx xr xa vr va W' :=
  ⟨h.arg.below hb, h.x.below hb, h.ar.below hb, h.aa.below hb, h.xr.below hb, h.xa.below hb, below_more h.bel hb⟩
theorem Ge.drew {w W : World} {m : Mc} {g gx : Nat} {xr xa vr va : Value} (h : Ge w m g gx xr xa vr va W) : Ge w m g gx xr xa vr va W.drew := h.below (drew_below (n := 1) rfl)
end Go.Proofs.Ytjjafaikaghlgaa.Mem
