/-
  What the program writes at a place.
-/
import Derived.Test.YtocofjimkfffeaaMcReadI
import Derived.Test.YtocofjimkfffeaaMcCopyI
namespace Go.Proofs.Ytocofjimkfffeaa.Mem
open Go.ChangeShapes Go.WideShapes Go.RowKit Base Num Slc Rw Tmr Srl Rom RomOf Mp
set_option linter.unusedVariables false
set_option linter.unusedSimpArgs false

/-- An order at the cable's place. -/
def Sr.ordered (s : Sr) (n now : Int) : Sr := if 127 < n then s.start (n % 2 == 1) now else ⟨s.d, false, false, 0, 0, false⟩
theorem cableOrdered_impl (s : Sr) (n now : Int) (w : World) (hn : 0 ≤ n ∧ n ≤ 255) :
    Calls Try.prog 72 #[s.val, .int .i64 n, .int .i64 now] w fun e w' => e = .returned (Sr.ordered s n now).val ∧ Below w.heap.size w w' := by
  have h2 := rem_pos' (a := n) (r := 2) hn.1
  by_cases hb : 127 < n
  · have e : Sr.ordered s n now = s.start (n % 2 == 1) now := by simp [Sr.ordered, hb]
    have hb' : ¬ n < 128 := by omega
    rw [e, Sr.eta s]
    go_enter Try.func72, Try.ntmps72
    go_wp2_with (first
      | (go_at_call 73; refine (serialStart_impl s _ _ _).mono ?_; rw [Sr.eta]; rintro e w1 ⟨rfl, hb1⟩; obtain ⟨r1, r2, hB⟩ := box2 hb1)
      | (refine st_sr rfl rfl rfl rfl r2 rfl ?_; intro w2 r3 ho2 hs2))
    refine ret_row rfl rfl r3 und_sr rfl info_sr rfl ?_
    exact ⟨rfl, below_onto hB ho2 (by omega)⟩
  · have e : Sr.ordered s n now = ⟨s.d, false, false, 0, 0, false⟩ := by simp [Sr.ordered, hb]
    have hb' : n < 128 := by omega
    rw [e, Sr.eta s]
    go_enter Try.func72, Try.ntmps72
    go_wp2
    refine ret_row rfl rfl (Row.new1 (w := w.alloc _) (n := w.heap.size + 1) (by simp) #[.int .i64 s.d, .bool false, .bool false, .int .i64 0, .int .i64 0, .bool false] 32) und_sr rfl info_sr rfl ?_
    exact ⟨rfl, ((Below.refl _ _).alloc (Nat.le_refl _) _).alloc (by simp) _⟩
/-- What is taken back from the map. -/
def Mc.withPorts (m : Mc) (f : Int → Option Int) : Mc :=
  { m with p := (match f 241 with | some n => Sr.ordered { m.p with d := (f 240).getD 0 } n m.k | none => { m.p with d := (f 240).getD 0 }), t := ⟨m.t.c, (f 243).getD 0, (f 244).getD 0, (f 245).getD 0 % 8⟩, fl := (f 246).getD 0 % 8, ms := (f 247).getD 0 % 8 }
set_option maxHeartbeats 2000000 in
theorem withPorts_impl (v : Value) (m : Mc) (b : Nat) (f : Int → Option Int) (w : World) (base : Nat) (hm : MOwn base w v m) (hM : PortsAt w b f) (hf : ∀ x, 0 ≤ (f x).getD 0 ∧ (f x).getD 0 ≤ 255) (hbase : base ≤ w.heap.size) :
    Calls Try.prog 69 #[v, .map (some b)] w fun e w' => ∃ v', e = .returned v' ∧ MOwn base w' v' (m.withPorts f) ∧ Below w.heap.size w w' := by
  obtain ⟨vr, va, hv, hr, ha, hap⟩ := hm
  have o1' := one_own hr
  have o2' := one_own ha
  have h5 := rem_pos' (a := (f 245).getD 0) (r := 8) (hf 245).1
  have h6 := rem_pos' (a := (f 246).getD 0) (r := 8) (hf 246).1
  have h7 := rem_pos' (a := (f 247).getD 0) (r := 8) (hf 247).1
  have b5 := hf 245
  have b6 := hf 246
  have b7 := hf 247
  have bl := hM.lt
  cases h1 : f 241 with
  | none =>
    have e : m.withPorts f = { m with p := { m.p with d := (f 240).getD 0 }, t := ⟨m.t.c, (f 243).getD 0, (f 244).getD 0, (f 245).getD 0 % 8⟩, fl := (f 246).getD 0 % 8, ms := (f 247).getD 0 % 8 } := by simp [Mc.withPorts, h1]
    rw [e]
    clear e
    go_enter Try.func69, Try.ntmps69
    go_wp2_with (first
      | (refine box_m rfl rfl hv ?_; intro w0 r0 hB0)
      | (refine al_mc rfl rfl ?_; intro w1 z1 hB1; have r1 := r0.below hB1; have hB2 := hB0.trans (hB1.mono hB0.size); have hP1 := hM.below hB2; have l0 := r0.lt; have l1 := r1.lt; have lz := z1.lt)
      | (refine lk_at rfl rfl rfl rfl (by assumption) ?_)
      | (refine st_num (m' := { m with p := { m.p with d := (f 240).getD 0 } }) (k := 18) rfl rfl rfl rfl r1 rfl rfl ?_; intro w2 r2 o2 s2; have hP2 := hP1.onto o2 (by omega))
      | (refine st_num (m' := { m with p := { m.p with d := (f 240).getD 0 }, t := { m.t with v := (f 243).getD 0 } }) (k := 15) rfl rfl rfl rfl r2 rfl rfl ?_; intro w3 r3 o3 s3; have hP3 := hP2.onto o3 (by omega))
      | (refine st_num (m' := { m with p := { m.p with d := (f 240).getD 0 }, t := { m.t with v := (f 243).getD 0, s := (f 244).getD 0 } }) (k := 16) rfl rfl rfl rfl r3 rfl rfl ?_; intro w4 r4 o4 s4; have hP4 := hP3.onto o4 (by omega))
      | (refine st_num (m' := { m with p := { m.p with d := (f 240).getD 0 }, t := ⟨m.t.c, (f 243).getD 0, (f 244).getD 0, (f 245).getD 0 % 8⟩ }) (k := 17) rfl rfl rfl rfl r4 rfl rfl ?_; intro w5 r5 o5 s5; have hP5 := hP4.onto o5 (by omega))
      | (refine st_num (m' := { m with p := { m.p with d := (f 240).getD 0 }, t := ⟨m.t.c, (f 243).getD 0, (f 244).getD 0, (f 245).getD 0 % 8⟩, fl := (f 246).getD 0 % 8 }) (k := 11) rfl rfl rfl rfl r5 rfl rfl ?_; intro w6 r6 o6 s6; have hP6 := hP5.onto o6 (by omega))
      | (refine st_num (m' := { m with p := { m.p with d := (f 240).getD 0 }, t := ⟨m.t.c, (f 243).getD 0, (f 244).getD 0, (f 245).getD 0 % 8⟩, fl := (f 246).getD 0 % 8, ms := (f 247).getD 0 % 8 }) (k := 12) rfl rfl rfl rfl r6 rfl rfl ?_; intro w7 r7 o7 s7; have hP7 := hP6.onto o7 (by omega))
      | (refine lk_ok rfl rfl rfl rfl hP7 ?_; rw [h1])
      | (refine ld_mc rfl rfl rfl r7 ?_)
      | (refine st_mc rfl rfl rfl rfl (((((((z1.onto o2 (by omega)).onto o3 (by omega)).onto o4 (by omega)).onto o5 (by omega)).onto o6 (by omega)).onto o7 (by omega))) o1' o2' ?_; intro wz rz oz sz))
    refine ret_mc rfl rfl rz rfl ?_
    have hBa := below_onto (below_onto (below_onto (below_onto (below_onto (below_onto hB2 o2 (Nat.le_refl _)) o3 (Nat.le_refl _)) o4 (Nat.le_refl _)) o5 (Nat.le_refl _)) o6 (Nat.le_refl _)) o7 (Nat.le_refl _)
    have hBb := hBa
    have hBz := below_onto hBb oz (by omega)
    exact ⟨_, rfl, ⟨vr, va, rfl, hr.below hBz, ha.below hBz, hap⟩, hBz⟩
  | some n =>
    have e : m.withPorts f = { m with p := Sr.ordered { m.p with d := (f 240).getD 0 } n m.k, t := ⟨m.t.c, (f 243).getD 0, (f 244).getD 0, (f 245).getD 0 % 8⟩, fl := (f 246).getD 0 % 8, ms := (f 247).getD 0 % 8 } := by simp [Mc.withPorts, h1]
    rw [e]
    clear e
    have hn : 0 ≤ n ∧ n ≤ 255 := by have := hf 241; rw [h1] at this; exact this
    go_enter Try.func69, Try.ntmps69
    go_wp2_with (first
      | (refine box_m rfl rfl hv ?_; intro w0 r0 hB0)
      | (refine al_mc rfl rfl ?_; intro w1 z1 hB1; have r1 := r0.below hB1; have hB2 := hB0.trans (hB1.mono hB0.size); have hP1 := hM.below hB2; have l0 := r0.lt; have l1 := r1.lt; have lz := z1.lt)
      | (refine lk_at rfl rfl rfl rfl (by assumption) ?_)
      | (refine st_num (m' := { m with p := { m.p with d := (f 240).getD 0 } }) (k := 18) rfl rfl rfl rfl r1 rfl rfl ?_; intro w2 r2 o2 s2; have hP2 := hP1.onto o2 (by omega))
      | (refine st_num (m' := { m with p := { m.p with d := (f 240).getD 0 }, t := { m.t with v := (f 243).getD 0 } }) (k := 15) rfl rfl rfl rfl r2 rfl rfl ?_; intro w3 r3 o3 s3; have hP3 := hP2.onto o3 (by omega))
      | (refine st_num (m' := { m with p := { m.p with d := (f 240).getD 0 }, t := { m.t with v := (f 243).getD 0, s := (f 244).getD 0 } }) (k := 16) rfl rfl rfl rfl r3 rfl rfl ?_; intro w4 r4 o4 s4; have hP4 := hP3.onto o4 (by omega))
      | (refine st_num (m' := { m with p := { m.p with d := (f 240).getD 0 }, t := ⟨m.t.c, (f 243).getD 0, (f 244).getD 0, (f 245).getD 0 % 8⟩ }) (k := 17) rfl rfl rfl rfl r4 rfl rfl ?_; intro w5 r5 o5 s5; have hP5 := hP4.onto o5 (by omega))
      | (refine st_num (m' := { m with p := { m.p with d := (f 240).getD 0 }, t := ⟨m.t.c, (f 243).getD 0, (f 244).getD 0, (f 245).getD 0 % 8⟩, fl := (f 246).getD 0 % 8 }) (k := 11) rfl rfl rfl rfl r5 rfl rfl ?_; intro w6 r6 o6 s6; have hP6 := hP5.onto o6 (by omega))
      | (refine st_num (m' := { m with p := { m.p with d := (f 240).getD 0 }, t := ⟨m.t.c, (f 243).getD 0, (f 244).getD 0, (f 245).getD 0 % 8⟩, fl := (f 246).getD 0 % 8, ms := (f 247).getD 0 % 8 }) (k := 12) rfl rfl rfl rfl r6 rfl rfl ?_; intro w7 r7 o7 s7; have hP7 := hP6.onto o7 (by omega))
      | (refine lk_ok rfl rfl rfl rfl hP7 ?_; rw [h1]; have kk := (cw r7).k)
      | (refine ld_ser rfl rfl rfl r7 ?_)
      | (go_at_call 72; refine (cableOrdered_impl _ n _ _ hn).mono ?_; rintro e w8 ⟨rfl, hb8⟩; have r8 := r7.below hb8)
      | (refine st_port' rfl rfl rfl rfl r8 ?_; intro w9 r9 o9 s9)
      | (refine ld_mc rfl rfl rfl r9 ?_)
      | (refine st_mc rfl rfl rfl rfl ((((((((z1.onto o2 (by omega)).onto o3 (by omega)).onto o4 (by omega)).onto o5 (by omega)).onto o6 (by omega)).onto o7 (by omega)).below hb8).onto o9 (by omega)) o1' o2' ?_; intro wz rz oz sz))
    refine ret_mc rfl rfl rz rfl ?_
    have hBa := below_onto (below_onto (below_onto (below_onto (below_onto (below_onto hB2 o2 (Nat.le_refl _)) o3 (Nat.le_refl _)) o4 (Nat.le_refl _)) o5 (Nat.le_refl _)) o6 (Nat.le_refl _)) o7 (Nat.le_refl _)
    have hBb := below_onto (hBa.trans (hb8.mono hBa.size)) o9 (Nat.le_refl _)
    have hBz := below_onto hBb oz (by omega)
    exact ⟨_, rfl, ⟨vr, va, rfl, hr.below hBz, ha.below hBz, hap⟩, hBz⟩
end Go.Proofs.Ytocofjimkfffeaa.Mem
