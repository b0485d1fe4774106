/-
  The model's operations, one by one: each does what the document's line tells. The model's Executed.
-/
import Derived.Test.YtocofjimkfffeaaGreatDoorSp
namespace Go.Proofs.YtocofjimkfffeaaGreatDoor.Mem
open Go.ChangeShapes Go.WideShapes Go.RowKit Base Num Slc Rw Tmr Srl Rom RomOf Opl Reg
set_option linter.unusedVariables false
set_option linter.unusedSimpArgs false
section
variable {base : Nat} {w : World} {x y v : Value} {m : Mc}

/-- What l7Do answers. -/
def Did (base : Nat) (w w' : World) (e : Ending) (x y : Value) (r : Mc × Int) : Prop := e = .returned (.tuple #[r.1.val x y, .int .i64 r.2]) ∧ Ow base w' x y r.1 ∧ But y w w'
set_option maxRecDepth 100000 in
set_option maxHeartbeats 1000000 in
theorem l7Do_0 (hv : v = m.val x y) (h : Ow base w x y m) (hok : m.ok = true) (n : Int) (hn : bok n = true) :
    Calls Tryz.prog 110 #[v, .int .i64 0, .int .i64 n] w fun e w' => Did base w w' e x y (m.does n 0) := by
  go_enter Tryz.func110, Tryz.ntmps110
  go_wp2_with (first
    | (refine box_m rfl rfl hv ?_; intro w0 r0 hB0)
    | (refine al_mc rfl rfl ?_; intro w1 z1 hB1; have r1 := r0.below hB1; have hB2 := hB0.trans (hB1.mono hB0.size); have l0 := r0.lt; have lz := z1.lt; have h1 := h.below hB2)
    | (refine ld_mc rfl rfl rfl r1 ?_)
    | (refine st_mc rfl rfl rfl rfl z1 (one_own h.hx) (one_own h.hy) ?_; intro w6 r6 o6 s6))
  refine ret_mc2 rfl rfl r6 rfl rfl ?_
  have hB6 := below_onto hB2 o6 (by omega)
  exact ⟨rfl, (h.below hB6).as rfl rfl, .of hB6⟩
set_option maxRecDepth 100000 in
set_option maxHeartbeats 1000000 in
theorem l7Do_1 (hv : v = m.val x y) (h : Ow base w x y m) (hok : m.ok = true) (n : Int) (hn : bok n = true) :
    Calls Tryz.prog 110 #[v, .int .i64 1, .int .i64 n] w fun e w' => Did base w w' e x y (m.does n 1) := by
  go_enter Tryz.func110, Tryz.ntmps110
  go_wp2_with (first
    | (refine box_m rfl rfl hv ?_; intro w0 r0 hB0)
    | (refine al_mc rfl rfl ?_; intro w1 z1 hB1; have r1 := r0.below hB1; have hB2 := hB0.trans (hB1.mono hB0.size); have l0 := r0.lt; have lz := z1.lt; have h1 := h.below hB2)
    | (refine st_num (m' := (m.does n 1).1) rfl rfl rfl rfl r1 rfl rfl ?_; intro w2 r2 o2 s2; have z2 := z1.onto o2 (by omega); have hB3 := below_onto hB2 o2 (by omega))
    | (refine ld_mc rfl rfl rfl r2 ?_)
    | (refine st_mc rfl rfl rfl rfl z2 (one_own h.hx) (one_own h.hy) ?_; intro w6 r6 o6 s6))
  refine ret_mc2 rfl rfl r6 rfl rfl ?_
  have hB6 := below_onto hB3 o6 (by omega)
  exact ⟨rfl, (h.below hB6).as rfl rfl, .of hB6⟩
set_option maxRecDepth 100000 in
set_option maxHeartbeats 1000000 in
theorem l7Do_2 (hv : v = m.val x y) (h : Ow base w x y m) (hok : m.ok = true) (n : Int) (hn : bok n = true) :
    Calls Tryz.prog 110 #[v, .int .i64 2, .int .i64 n] w fun e w' => Did base w w' e x y (m.does n 2) := by
  go_enter Tryz.func110, Tryz.ntmps110
  go_wp2_with (first
    | (refine box_m rfl rfl hv ?_; intro w0 r0 hB0)
    | (refine al_mc rfl rfl ?_; intro w1 z1 hB1; have r1 := r0.below hB1; have hB2 := hB0.trans (hB1.mono hB0.size); have l0 := r0.lt; have lz := z1.lt; have h1 := h.below hB2)
    | (refine st_num (m' := (m.does n 2).1) rfl rfl rfl rfl r1 rfl rfl ?_; intro w2 r2 o2 s2; have z2 := z1.onto o2 (by omega); have hB3 := below_onto hB2 o2 (by omega))
    | (refine ld_mc rfl rfl rfl r2 ?_)
    | (refine st_mc rfl rfl rfl rfl z2 (one_own h.hx) (one_own h.hy) ?_; intro w6 r6 o6 s6))
  refine ret_mc2 rfl rfl r6 rfl rfl ?_
  have hB6 := below_onto hB3 o6 (by omega)
  exact ⟨rfl, (h.below hB6).as rfl rfl, .of hB6⟩
set_option maxRecDepth 100000 in
set_option maxHeartbeats 1000000 in
theorem l7Do_3 (hv : v = m.val x y) (h : Ow base w x y m) (hok : m.ok = true) (n : Int) (hn : bok n = true) :
    Calls Tryz.prog 110 #[v, .int .i64 3, .int .i64 n] w fun e w' => Did base w w' e x y (m.does n 3) := by
  go_enter Tryz.func110, Tryz.ntmps110
  go_wp2_with (first
    | (refine box_m rfl rfl hv ?_; intro w0 r0 hB0)
    | (refine al_mc rfl rfl ?_; intro w1 z1 hB1; have r1 := r0.below hB1; have hB2 := hB0.trans (hB1.mono hB0.size); have l0 := r0.lt; have lz := z1.lt; have h1 := h.below hB2; have kc := (cw r1).b)
    | (refine st_num (m' := (m.does n 3).1) rfl rfl rfl rfl r1 rfl rfl ?_; intro w2 r2 o2 s2; have z2 := z1.onto o2 (by omega); have hB3 := below_onto hB2 o2 (by omega))
    | (refine ld_mc rfl rfl rfl r2 ?_)
    | (refine st_mc rfl rfl rfl rfl z2 (one_own h.hx) (one_own h.hy) ?_; intro w6 r6 o6 s6))
  refine ret_mc2 rfl rfl r6 rfl rfl ?_
  have hB6 := below_onto hB3 o6 (by omega)
  exact ⟨rfl, (h.below hB6).as rfl rfl, .of hB6⟩
set_option maxRecDepth 100000 in
set_option maxHeartbeats 1000000 in
theorem l7Do_4 (hv : v = m.val x y) (h : Ow base w x y m) (hok : m.ok = true) (n : Int) (hn : bok n = true) :
    Calls Tryz.prog 110 #[v, .int .i64 4, .int .i64 n] w fun e w' => Did base w w' e x y (m.does n 4) := by
  go_enter Tryz.func110, Tryz.ntmps110
  go_wp2_with (first
    | (refine box_m rfl rfl hv ?_; intro w0 r0 hB0)
    | (refine al_mc rfl rfl ?_; intro w1 z1 hB1; have r1 := r0.below hB1; have hB2 := hB0.trans (hB1.mono hB0.size); have l0 := r0.lt; have lz := z1.lt; have h1 := h.below hB2; have kc := (cw r1).a)
    | (refine st_num (m' := (m.does n 4).1) rfl rfl rfl rfl r1 rfl rfl ?_; intro w2 r2 o2 s2; have z2 := z1.onto o2 (by omega); have hB3 := below_onto hB2 o2 (by omega))
    | (refine ld_mc rfl rfl rfl r2 ?_)
    | (refine st_mc rfl rfl rfl rfl z2 (one_own h.hx) (one_own h.hy) ?_; intro w6 r6 o6 s6))
  refine ret_mc2 rfl rfl r6 rfl rfl ?_
  have hB6 := below_onto hB3 o6 (by omega)
  exact ⟨rfl, (h.below hB6).as rfl rfl, .of hB6⟩
set_option maxRecDepth 100000 in
set_option maxHeartbeats 1000000 in
theorem l7Do_27 (hv : v = m.val x y) (h : Ow base w x y m) (hok : m.ok = true) (n : Int) (hn : bok n = true) :
    Calls Tryz.prog 110 #[v, .int .i64 27, .int .i64 n] w fun e w' => Did base w w' e x y (m.does n 27) := by
  go_enter Tryz.func110, Tryz.ntmps110
  go_wp2_with (first
    | (refine box_m rfl rfl hv ?_; intro w0 r0 hB0)
    | (refine al_mc rfl rfl ?_; intro w1 z1 hB1; have r1 := r0.below hB1; have hB2 := hB0.trans (hB1.mono hB0.size); have l0 := r0.lt; have lz := z1.lt; have h1 := h.below hB2)
    | (refine st_yes (m' := (m.does n 27).1) rfl rfl rfl rfl r1 rfl rfl ?_; intro w2 r2 o2 s2; have z2 := z1.onto o2 (by omega); have hB3 := below_onto hB2 o2 (by omega))
    | (refine ld_mc rfl rfl rfl r2 ?_)
    | (refine st_mc rfl rfl rfl rfl z2 (one_own h.hx) (one_own h.hy) ?_; intro w6 r6 o6 s6))
  refine ret_mc2 rfl rfl r6 rfl rfl ?_
  have hB6 := below_onto hB3 o6 (by omega)
  exact ⟨rfl, (h.below hB6).as rfl rfl, .of hB6⟩
set_option maxRecDepth 100000 in
set_option maxHeartbeats 1000000 in
theorem l7Do_28 (hv : v = m.val x y) (h : Ow base w x y m) (hok : m.ok = true) (n : Int) (hn : bok n = true) :
    Calls Tryz.prog 110 #[v, .int .i64 28, .int .i64 n] w fun e w' => Did base w w' e x y (m.does n 28) := by
  go_enter Tryz.func110, Tryz.ntmps110
  go_wp2_with (first
    | (refine box_m rfl rfl hv ?_; intro w0 r0 hB0)
    | (refine al_mc rfl rfl ?_; intro w1 z1 hB1; have r1 := r0.below hB1; have hB2 := hB0.trans (hB1.mono hB0.size); have l0 := r0.lt; have lz := z1.lt; have h1 := h.below hB2)
    | (refine st_yes (m' := (m.does n 28).1) rfl rfl rfl rfl r1 rfl rfl ?_; intro w2 r2 o2 s2; have z2 := z1.onto o2 (by omega); have hB3 := below_onto hB2 o2 (by omega))
    | (refine ld_mc rfl rfl rfl r2 ?_)
    | (refine st_mc rfl rfl rfl rfl z2 (one_own h.hx) (one_own h.hy) ?_; intro w6 r6 o6 s6))
  refine ret_mc2 rfl rfl r6 rfl rfl ?_
  have hB6 := below_onto hB3 o6 (by omega)
  exact ⟨rfl, (h.below hB6).as rfl rfl, .of hB6⟩
set_option maxRecDepth 100000 in
set_option maxHeartbeats 1000000 in
theorem l7Do_30 (hv : v = m.val x y) (h : Ow base w x y m) (hok : m.ok = true) (n : Int) (hn : bok n = true) :
    Calls Tryz.prog 110 #[v, .int .i64 30, .int .i64 n] w fun e w' => Did base w w' e x y (m.does n 30) := by
  go_enter Tryz.func110, Tryz.ntmps110
  go_wp2_with (first
    | (refine box_m rfl rfl hv ?_; intro w0 r0 hB0)
    | (refine al_mc rfl rfl ?_; intro w1 z1 hB1; have r1 := r0.below hB1; have hB2 := hB0.trans (hB1.mono hB0.size); have l0 := r0.lt; have lz := z1.lt; have h1 := h.below hB2)
    | (refine st_yes (m' := (m.does n 30).1) rfl rfl rfl rfl r1 rfl rfl ?_; intro w2 r2 o2 s2; have z2 := z1.onto o2 (by omega); have hB3 := below_onto hB2 o2 (by omega))
    | (refine ld_mc rfl rfl rfl r2 ?_)
    | (refine st_mc rfl rfl rfl rfl z2 (one_own h.hx) (one_own h.hy) ?_; intro w6 r6 o6 s6))
  refine ret_mc2 rfl rfl r6 rfl rfl ?_
  have hB6 := below_onto hB3 o6 (by omega)
  exact ⟨rfl, (h.below hB6).as rfl rfl, .of hB6⟩
set_option maxRecDepth 100000 in
set_option maxHeartbeats 1000000 in
theorem l7Do_5 (hv : v = m.val x y) (h : Ow base w x y m) (hok : m.ok = true) (n : Int) (hn : bok n = true) :
    Calls Tryz.prog 110 #[v, .int .i64 5, .int .i64 n] w fun e w' => Did base w w' e x y (m.does n 5) := by
  go_enter Tryz.func110, Tryz.ntmps110
  go_wp2_with (first
    | (refine box_m rfl rfl hv ?_; intro w0 r0 hB0)
    | (refine al_mc rfl rfl ?_; intro w1 z1 hB1; have r1 := r0.below hB1; have hB2 := hB0.trans (hB1.mono hB0.size); have l0 := r0.lt; have lz := z1.lt; have h1 := h.below hB2)
    | (refine ld_mc rfl rfl rfl r1 ?_)
    | (go_at_call 44; refine (l6Read_spec _ m _ _ h1.sl (Mc.right hok) (bok_iff.1 hn)).mono ?_; rintro e w2 ⟨rfl, hb2⟩; have hB3 := hB2.trans (hb2.mono hB2.size); have z2 := z1.below hb2; have r2 := r1.below hb2)
    | (refine st_num (m' := (m.does n 5).1) rfl rfl rfl rfl r2 rfl rfl ?_; intro w3 r3 o3 s3; have z3 := z2.onto o3 (by omega); have hB4 := below_onto hB3 o3 (by omega))
    | (refine ld_mc rfl rfl rfl r3 ?_)
    | (refine st_mc rfl rfl rfl rfl z3 (one_own h.hx) (one_own h.hy) ?_; intro w6 r6 o6 s6))
  refine ret_mc2 rfl rfl r6 rfl rfl ?_
  have hB6 := below_onto hB4 o6 (by omega)
  exact ⟨rfl, (h.below hB6).as rfl rfl, .of hB6⟩
set_option maxRecDepth 100000 in
set_option maxHeartbeats 1000000 in
theorem l7Do_7 (hv : v = m.val x y) (h : Ow base w x y m) (hok : m.ok = true) (n : Int) (hn : bok n = true) :
    Calls Tryz.prog 110 #[v, .int .i64 7, .int .i64 n] w fun e w' => Did base w w' e x y (m.does n 7) := by
  go_enter Tryz.func110, Tryz.ntmps110
  go_wp2_with (first
    | (refine box_m rfl rfl hv ?_; intro w0 r0 hB0)
    | (refine al_mc rfl rfl ?_; intro w1 z1 hB1; have r1 := r0.below hB1; have hB2 := hB0.trans (hB1.mono hB0.size); have l0 := r0.lt; have lz := z1.lt; have h1 := h.below hB2; have kc := (cw r1).b)
    | (refine ld_mc rfl rfl rfl r1 ?_)
    | (go_at_call 44; refine (l6Read_spec _ m _ _ h1.sl (Mc.right hok) (bok_iff.1 (okm.1 hok).b)).mono ?_; rintro e w2 ⟨rfl, hb2⟩; have hB3 := hB2.trans (hb2.mono hB2.size); have z2 := z1.below hb2; have r2 := r1.below hb2)
    | (refine st_num (m' := (m.does n 7).1) rfl rfl rfl rfl r2 rfl rfl ?_; intro w3 r3 o3 s3; have z3 := z2.onto o3 (by omega); have hB4 := below_onto hB3 o3 (by omega))
    | (refine ld_mc rfl rfl rfl r3 ?_)
    | (refine st_mc rfl rfl rfl rfl z3 (one_own h.hx) (one_own h.hy) ?_; intro w6 r6 o6 s6))
  refine ret_mc2 rfl rfl r6 rfl rfl ?_
  have hB6 := below_onto hB4 o6 (by omega)
  exact ⟨rfl, (h.below hB6).as rfl rfl, .of hB6⟩
set_option maxRecDepth 100000 in
set_option maxHeartbeats 1000000 in
theorem l7Do_6 (hv : v = m.val x y) (h : Ow base w x y m) (hok : m.ok = true) (n : Int) (hn : bok n = true) :
    Calls Tryz.prog 110 #[v, .int .i64 6, .int .i64 n] w fun e w' => Did base w w' e x y (m.does n 6) := by
  obtain ⟨g, hg, hgl⟩ := ram_block h.hy hok
  go_enter Tryz.func110, Tryz.ntmps110
  go_wp2_with (first
    | (refine box_m rfl rfl hv ?_; intro w0 r0 hB0)
    | (refine al_mc rfl rfl ?_; intro w1 z1 hB1; have r1 := r0.below hB1; have hB2 := hB0.trans (hB1.mono hB0.size); have l0 := r0.lt; have lz := z1.lt; have h1 := h.below hB2; have ka := (cw r1).a)
    | (refine ld_mc rfl rfl rfl r1 ?_)
    | (go_at_call 139; refine (l7Put_spec rfl h1 hok _ _ hn (okm.1 hok).a).mono ?_; rintro e w3 ⟨rfl, h3, hb3⟩; have z3 := hb3.row hg z1 (by omega))
    | (refine st_mc rfl rfl rfl rfl z3 (one_own h.hx) (one_own h.hy) ?_; intro w6 r6 o6 s6))
  refine ret_mc2 rfl rfl r6 rfl rfl ?_
  exact ⟨rfl, h3.at o6 (fun e => by have := (h.hx.lt _ e).2; omega) (fun e => by have := (h.hy.lt _ e).2; omega), ((But.of hB2).trans hb3).new o6 (by omega)⟩
set_option maxRecDepth 100000 in
set_option maxHeartbeats 1000000 in
theorem l7Do_8 (hv : v = m.val x y) (h : Ow base w x y m) (hok : m.ok = true) (n : Int) (hn : bok n = true) :
    Calls Tryz.prog 110 #[v, .int .i64 8, .int .i64 n] w fun e w' => Did base w w' e x y (m.does n 8) := by
  obtain ⟨g, hg, hgl⟩ := ram_block h.hy hok
  go_enter Tryz.func110, Tryz.ntmps110
  go_wp2_with (first
    | (refine box_m rfl rfl hv ?_; intro w0 r0 hB0)
    | (refine al_mc rfl rfl ?_; intro w1 z1 hB1; have r1 := r0.below hB1; have hB2 := hB0.trans (hB1.mono hB0.size); have l0 := r0.lt; have lz := z1.lt; have h1 := h.below hB2; have ka := (cw r1).a; have kb := (cw r1).b)
    | (refine ld_mc rfl rfl rfl r1 ?_)
    | (go_at_call 139; refine (l7Put_spec rfl h1 hok _ _ (okm.1 hok).b (okm.1 hok).a).mono ?_; rintro e w3 ⟨rfl, h3, hb3⟩; have z3 := hb3.row hg z1 (by omega))
    | (refine st_mc rfl rfl rfl rfl z3 (one_own h.hx) (one_own h.hy) ?_; intro w6 r6 o6 s6))
  refine ret_mc2 rfl rfl r6 rfl rfl ?_
  exact ⟨rfl, h3.at o6 (fun e => by have := (h.hx.lt _ e).2; omega) (fun e => by have := (h.hy.lt _ e).2; omega), ((But.of hB2).trans hb3).new o6 (by omega)⟩
set_option maxRecDepth 100000 in
set_option maxHeartbeats 1000000 in
theorem l7Do_25 (hv : v = m.val x y) (h : Ow base w x y m) (hok : m.ok = true) (n : Int) (hn : bok n = true) :
    Calls Tryz.prog 110 #[v, .int .i64 25, .int .i64 n] w fun e w' => Did base w w' e x y (m.does n 25) := by
  obtain ⟨g, hg, hgl⟩ := ram_block h.hy hok
  go_enter Tryz.func110, Tryz.ntmps110
  go_wp2_with (first
    | (refine box_m rfl rfl hv ?_; intro w0 r0 hB0)
    | (refine al_mc rfl rfl ?_; intro w1 z1 hB1; have r1 := r0.below hB1; have hB2 := hB0.trans (hB1.mono hB0.size); have l0 := r0.lt; have lz := z1.lt; have h1 := h.below hB2; have ka := (cw r1).a)
    | (refine ld_mc rfl rfl rfl r1 ?_)
    | (go_at_call 123; refine (l7Push_spec rfl h1 hok _ (okm.1 hok).a).mono ?_; rintro e w3 ⟨rfl, h3, hb3⟩; have z3 := hb3.row hg z1 (by omega))
    | (refine st_mc rfl rfl rfl rfl z3 (one_own h.hx) (one_own h.hy) ?_; intro w6 r6 o6 s6))
  refine ret_mc2 rfl rfl r6 rfl rfl ?_
  exact ⟨rfl, h3.at o6 (fun e => by have := (h.hx.lt _ e).2; omega) (fun e => by have := (h.hy.lt _ e).2; omega), ((But.of hB2).trans hb3).new o6 (by omega)⟩
set_option maxRecDepth 100000 in
set_option maxHeartbeats 1000000 in
theorem l7Do_9 (hv : v = m.val x y) (h : Ow base w x y m) (hok : m.ok = true) (n : Int) (hn : bok n = true) :
    Calls Tryz.prog 110 #[v, .int .i64 9, .int .i64 n] w fun e w' => Did base w w' e x y (m.does n 9) := by
  go_enter Tryz.func110, Tryz.ntmps110
  go_wp2_with (first
    | (refine box_m rfl rfl hv ?_; intro w0 r0 hB0)
    | (refine al_mc rfl rfl ?_; intro w1 z1 hB1; have r1 := r0.below hB1; have hB2 := hB0.trans (hB1.mono hB0.size); have l0 := r0.lt; have lz := z1.lt; have h1 := h.below hB2)
    | (refine ld_mc rfl rfl rfl r1 ?_)
    | (go_at_call 140; refine (l7Alu_9 rfl h1 n).mono ?_; rintro e w2 ⟨rfl, hb2⟩; have hB3 := hB2.trans (hb2.mono hB2.size); have z2 := z1.below hb2; have r2 := r1.below hb2)
    | (refine st_mc rfl rfl rfl rfl r2 (one_own h.hx) (one_own h.hy) ?_; intro w3 r3 o3 s3; have z3 := z2.onto o3 (by omega); have hB4 := below_onto hB3 o3 (by omega))
    | (refine ld_mc rfl rfl rfl r3 ?_)
    | (refine st_mc rfl rfl rfl rfl z3 (one_own h.hx) (one_own h.hy) ?_; intro w6 r6 o6 s6))
  refine ret_mc2 rfl rfl r6 rfl rfl ?_
  have hB6 := below_onto hB4 o6 (by omega)
  exact ⟨rfl, (h.below hB6).as rfl rfl, .of hB6⟩
set_option maxRecDepth 100000 in
set_option maxHeartbeats 1000000 in
theorem l7Do_10 (hv : v = m.val x y) (h : Ow base w x y m) (hok : m.ok = true) (n : Int) (hn : bok n = true) :
    Calls Tryz.prog 110 #[v, .int .i64 10, .int .i64 n] w fun e w' => Did base w w' e x y (m.does n 10) := by
  go_enter Tryz.func110, Tryz.ntmps110
  go_wp2_with (first
    | (refine box_m rfl rfl hv ?_; intro w0 r0 hB0)
    | (refine al_mc rfl rfl ?_; intro w1 z1 hB1; have r1 := r0.below hB1; have hB2 := hB0.trans (hB1.mono hB0.size); have l0 := r0.lt; have lz := z1.lt; have h1 := h.below hB2)
    | (refine ld_mc rfl rfl rfl r1 ?_)
    | (go_at_call 140; refine (l7Alu_10 rfl h1 n).mono ?_; rintro e w2 ⟨rfl, hb2⟩; have hB3 := hB2.trans (hb2.mono hB2.size); have z2 := z1.below hb2; have r2 := r1.below hb2)
    | (refine st_mc rfl rfl rfl rfl r2 (one_own h.hx) (one_own h.hy) ?_; intro w3 r3 o3 s3; have z3 := z2.onto o3 (by omega); have hB4 := below_onto hB3 o3 (by omega))
    | (refine ld_mc rfl rfl rfl r3 ?_)
    | (refine st_mc rfl rfl rfl rfl z3 (one_own h.hx) (one_own h.hy) ?_; intro w6 r6 o6 s6))
  refine ret_mc2 rfl rfl r6 rfl rfl ?_
  have hB6 := below_onto hB4 o6 (by omega)
  exact ⟨rfl, (h.below hB6).as rfl rfl, .of hB6⟩
set_option maxRecDepth 100000 in
set_option maxHeartbeats 1000000 in
theorem l7Do_11 (hv : v = m.val x y) (h : Ow base w x y m) (hok : m.ok = true) (n : Int) (hn : bok n = true) :
    Calls Tryz.prog 110 #[v, .int .i64 11, .int .i64 n] w fun e w' => Did base w w' e x y (m.does n 11) := by
  go_enter Tryz.func110, Tryz.ntmps110
  go_wp2_with (first
    | (refine box_m rfl rfl hv ?_; intro w0 r0 hB0)
    | (refine al_mc rfl rfl ?_; intro w1 z1 hB1; have r1 := r0.below hB1; have hB2 := hB0.trans (hB1.mono hB0.size); have l0 := r0.lt; have lz := z1.lt; have h1 := h.below hB2)
    | (refine ld_mc rfl rfl rfl r1 ?_)
    | (go_at_call 140; refine (l7Alu_11 rfl h1 n).mono ?_; rintro e w2 ⟨rfl, hb2⟩; have hB3 := hB2.trans (hb2.mono hB2.size); have z2 := z1.below hb2; have r2 := r1.below hb2)
    | (refine st_mc rfl rfl rfl rfl r2 (one_own h.hx) (one_own h.hy) ?_; intro w3 r3 o3 s3; have z3 := z2.onto o3 (by omega); have hB4 := below_onto hB3 o3 (by omega))
    | (refine ld_mc rfl rfl rfl r3 ?_)
    | (refine st_mc rfl rfl rfl rfl z3 (one_own h.hx) (one_own h.hy) ?_; intro w6 r6 o6 s6))
  refine ret_mc2 rfl rfl r6 rfl rfl ?_
  have hB6 := below_onto hB4 o6 (by omega)
  exact ⟨rfl, (h.below hB6).as rfl rfl, .of hB6⟩
set_option maxRecDepth 100000 in
set_option maxHeartbeats 1000000 in
theorem l7Do_12 (hv : v = m.val x y) (h : Ow base w x y m) (hok : m.ok = true) (n : Int) (hn : bok n = true) :
    Calls Tryz.prog 110 #[v, .int .i64 12, .int .i64 n] w fun e w' => Did base w w' e x y (m.does n 12) := by
  go_enter Tryz.func110, Tryz.ntmps110
  go_wp2_with (first
    | (refine box_m rfl rfl hv ?_; intro w0 r0 hB0)
    | (refine al_mc rfl rfl ?_; intro w1 z1 hB1; have r1 := r0.below hB1; have hB2 := hB0.trans (hB1.mono hB0.size); have l0 := r0.lt; have lz := z1.lt; have h1 := h.below hB2)
    | (refine ld_mc rfl rfl rfl r1 ?_)
    | (go_at_call 140; refine (l7Alu_12 rfl h1 n).mono ?_; rintro e w2 ⟨rfl, hb2⟩; have hB3 := hB2.trans (hb2.mono hB2.size); have z2 := z1.below hb2; have r2 := r1.below hb2)
    | (refine st_mc rfl rfl rfl rfl r2 (one_own h.hx) (one_own h.hy) ?_; intro w3 r3 o3 s3; have z3 := z2.onto o3 (by omega); have hB4 := below_onto hB3 o3 (by omega))
    | (refine ld_mc rfl rfl rfl r3 ?_)
    | (refine st_mc rfl rfl rfl rfl z3 (one_own h.hx) (one_own h.hy) ?_; intro w6 r6 o6 s6))
  refine ret_mc2 rfl rfl r6 rfl rfl ?_
  have hB6 := below_onto hB4 o6 (by omega)
  exact ⟨rfl, (h.below hB6).as rfl rfl, .of hB6⟩
set_option maxRecDepth 100000 in
set_option maxHeartbeats 1000000 in
theorem l7Do_13 (hv : v = m.val x y) (h : Ow base w x y m) (hok : m.ok = true) (n : Int) (hn : bok n = true) :
    Calls Tryz.prog 110 #[v, .int .i64 13, .int .i64 n] w fun e w' => Did base w w' e x y (m.does n 13) := by
  go_enter Tryz.func110, Tryz.ntmps110
  go_wp2_with (first
    | (refine box_m rfl rfl hv ?_; intro w0 r0 hB0)
    | (refine al_mc rfl rfl ?_; intro w1 z1 hB1; have r1 := r0.below hB1; have hB2 := hB0.trans (hB1.mono hB0.size); have l0 := r0.lt; have lz := z1.lt; have h1 := h.below hB2)
    | (refine ld_mc rfl rfl rfl r1 ?_)
    | (go_at_call 140; refine (l7Alu_13 rfl h1 n).mono ?_; rintro e w2 ⟨rfl, hb2⟩; have hB3 := hB2.trans (hb2.mono hB2.size); have z2 := z1.below hb2; have r2 := r1.below hb2)
    | (refine st_mc rfl rfl rfl rfl r2 (one_own h.hx) (one_own h.hy) ?_; intro w3 r3 o3 s3; have z3 := z2.onto o3 (by omega); have hB4 := below_onto hB3 o3 (by omega))
    | (refine ld_mc rfl rfl rfl r3 ?_)
    | (refine st_mc rfl rfl rfl rfl z3 (one_own h.hx) (one_own h.hy) ?_; intro w6 r6 o6 s6))
  refine ret_mc2 rfl rfl r6 rfl rfl ?_
  have hB6 := below_onto hB4 o6 (by omega)
  exact ⟨rfl, (h.below hB6).as rfl rfl, .of hB6⟩
set_option maxRecDepth 100000 in
set_option maxHeartbeats 1000000 in
theorem l7Do_14 (hv : v = m.val x y) (h : Ow base w x y m) (hok : m.ok = true) (n : Int) (hn : bok n = true) :
    Calls Tryz.prog 110 #[v, .int .i64 14, .int .i64 n] w fun e w' => Did base w w' e x y (m.does n 14) := by
  go_enter Tryz.func110, Tryz.ntmps110
  go_wp2_with (first
    | (refine box_m rfl rfl hv ?_; intro w0 r0 hB0)
    | (refine al_mc rfl rfl ?_; intro w1 z1 hB1; have r1 := r0.below hB1; have hB2 := hB0.trans (hB1.mono hB0.size); have l0 := r0.lt; have lz := z1.lt; have h1 := h.below hB2)
    | (refine ld_mc rfl rfl rfl r1 ?_)
    | (go_at_call 140; refine (l7Alu_14 rfl h1 n).mono ?_; rintro e w2 ⟨rfl, hb2⟩; have hB3 := hB2.trans (hb2.mono hB2.size); have z2 := z1.below hb2; have r2 := r1.below hb2)
    | (refine st_mc rfl rfl rfl rfl r2 (one_own h.hx) (one_own h.hy) ?_; intro w3 r3 o3 s3; have z3 := z2.onto o3 (by omega); have hB4 := below_onto hB3 o3 (by omega))
    | (refine ld_mc rfl rfl rfl r3 ?_)
    | (refine st_mc rfl rfl rfl rfl z3 (one_own h.hx) (one_own h.hy) ?_; intro w6 r6 o6 s6))
  refine ret_mc2 rfl rfl r6 rfl rfl ?_
  have hB6 := below_onto hB4 o6 (by omega)
  exact ⟨rfl, (h.below hB6).as rfl rfl, .of hB6⟩
set_option maxRecDepth 100000 in
set_option maxHeartbeats 1000000 in
theorem l7Do_15 (hv : v = m.val x y) (h : Ow base w x y m) (hok : m.ok = true) (n : Int) (hn : bok n = true) :
    Calls Tryz.prog 110 #[v, .int .i64 15, .int .i64 n] w fun e w' => Did base w w' e x y (m.does n 15) := by
  go_enter Tryz.func110, Tryz.ntmps110
  go_wp2_with (first
    | (refine box_m rfl rfl hv ?_; intro w0 r0 hB0)
    | (refine al_mc rfl rfl ?_; intro w1 z1 hB1; have r1 := r0.below hB1; have hB2 := hB0.trans (hB1.mono hB0.size); have l0 := r0.lt; have lz := z1.lt; have h1 := h.below hB2)
    | (refine ld_mc rfl rfl rfl r1 ?_)
    | (go_at_call 140; refine (l7Alu_15 rfl h1 n).mono ?_; rintro e w2 ⟨rfl, hb2⟩; have hB3 := hB2.trans (hb2.mono hB2.size); have z2 := z1.below hb2; have r2 := r1.below hb2)
    | (refine st_mc rfl rfl rfl rfl r2 (one_own h.hx) (one_own h.hy) ?_; intro w3 r3 o3 s3; have z3 := z2.onto o3 (by omega); have hB4 := below_onto hB3 o3 (by omega))
    | (refine ld_mc rfl rfl rfl r3 ?_)
    | (refine st_mc rfl rfl rfl rfl z3 (one_own h.hx) (one_own h.hy) ?_; intro w6 r6 o6 s6))
  refine ret_mc2 rfl rfl r6 rfl rfl ?_
  have hB6 := below_onto hB4 o6 (by omega)
  exact ⟨rfl, (h.below hB6).as rfl rfl, .of hB6⟩
set_option maxRecDepth 100000 in
set_option maxHeartbeats 1000000 in
theorem l7Do_16 (hv : v = m.val x y) (h : Ow base w x y m) (hok : m.ok = true) (n : Int) (hn : bok n = true) :
    Calls Tryz.prog 110 #[v, .int .i64 16, .int .i64 n] w fun e w' => Did base w w' e x y (m.does n 16) := by
  go_enter Tryz.func110, Tryz.ntmps110
  go_wp2_with (first
    | (refine box_m rfl rfl hv ?_; intro w0 r0 hB0)
    | (refine al_mc rfl rfl ?_; intro w1 z1 hB1; have r1 := r0.below hB1; have hB2 := hB0.trans (hB1.mono hB0.size); have l0 := r0.lt; have lz := z1.lt; have h1 := h.below hB2)
    | (refine ld_mc rfl rfl rfl r1 ?_)
    | (go_at_call 140; refine (l7Alu_16 rfl h1 n).mono ?_; rintro e w2 ⟨rfl, hb2⟩; have hB3 := hB2.trans (hb2.mono hB2.size); have z2 := z1.below hb2; have r2 := r1.below hb2)
    | (refine st_mc rfl rfl rfl rfl r2 (one_own h.hx) (one_own h.hy) ?_; intro w3 r3 o3 s3; have z3 := z2.onto o3 (by omega); have hB4 := below_onto hB3 o3 (by omega))
    | (refine ld_mc rfl rfl rfl r3 ?_)
    | (refine st_mc rfl rfl rfl rfl z3 (one_own h.hx) (one_own h.hy) ?_; intro w6 r6 o6 s6))
  refine ret_mc2 rfl rfl r6 rfl rfl ?_
  have hB6 := below_onto hB4 o6 (by omega)
  exact ⟨rfl, (h.below hB6).as rfl rfl, .of hB6⟩
set_option maxRecDepth 100000 in
set_option maxHeartbeats 1000000 in
theorem l7Do_17 (hv : v = m.val x y) (h : Ow base w x y m) (hok : m.ok = true) (n : Int) (hn : bok n = true) :
    Calls Tryz.prog 110 #[v, .int .i64 17, .int .i64 n] w fun e w' => Did base w w' e x y (m.does n 17) := by
  go_enter Tryz.func110, Tryz.ntmps110
  go_wp2_with (first
    | (refine box_m rfl rfl hv ?_; intro w0 r0 hB0)
    | (refine al_mc rfl rfl ?_; intro w1 z1 hB1; have r1 := r0.below hB1; have hB2 := hB0.trans (hB1.mono hB0.size); have l0 := r0.lt; have lz := z1.lt; have h1 := h.below hB2)
    | (refine ld_mc rfl rfl rfl r1 ?_)
    | (go_at_call 141; refine (l7CountB_17 rfl h1).mono ?_; rintro e w2 ⟨rfl, hb2⟩; have hB3 := hB2.trans (hb2.mono hB2.size); have z2 := z1.below hb2; have r2 := r1.below hb2)
    | (refine st_mc rfl rfl rfl rfl r2 (one_own h.hx) (one_own h.hy) ?_; intro w3 r3 o3 s3; have z3 := z2.onto o3 (by omega); have hB4 := below_onto hB3 o3 (by omega))
    | (refine ld_mc rfl rfl rfl r3 ?_)
    | (refine st_mc rfl rfl rfl rfl z3 (one_own h.hx) (one_own h.hy) ?_; intro w6 r6 o6 s6))
  refine ret_mc2 rfl rfl r6 rfl rfl ?_
  have hB6 := below_onto hB4 o6 (by omega)
  exact ⟨rfl, (h.below hB6).as rfl rfl, .of hB6⟩
set_option maxRecDepth 100000 in
set_option maxHeartbeats 1000000 in
theorem l7Do_18 (hv : v = m.val x y) (h : Ow base w x y m) (hok : m.ok = true) (n : Int) (hn : bok n = true) :
    Calls Tryz.prog 110 #[v, .int .i64 18, .int .i64 n] w fun e w' => Did base w w' e x y (m.does n 18) := by
  go_enter Tryz.func110, Tryz.ntmps110
  go_wp2_with (first
    | (refine box_m rfl rfl hv ?_; intro w0 r0 hB0)
    | (refine al_mc rfl rfl ?_; intro w1 z1 hB1; have r1 := r0.below hB1; have hB2 := hB0.trans (hB1.mono hB0.size); have l0 := r0.lt; have lz := z1.lt; have h1 := h.below hB2)
    | (refine ld_mc rfl rfl rfl r1 ?_)
    | (go_at_call 141; refine (l7CountB_18 rfl h1).mono ?_; rintro e w2 ⟨rfl, hb2⟩; have hB3 := hB2.trans (hb2.mono hB2.size); have z2 := z1.below hb2; have r2 := r1.below hb2)
    | (refine st_mc rfl rfl rfl rfl r2 (one_own h.hx) (one_own h.hy) ?_; intro w3 r3 o3 s3; have z3 := z2.onto o3 (by omega); have hB4 := below_onto hB3 o3 (by omega))
    | (refine ld_mc rfl rfl rfl r3 ?_)
    | (refine st_mc rfl rfl rfl rfl z3 (one_own h.hx) (one_own h.hy) ?_; intro w6 r6 o6 s6))
  refine ret_mc2 rfl rfl r6 rfl rfl ?_
  have hB6 := below_onto hB4 o6 (by omega)
  exact ⟨rfl, (h.below hB6).as rfl rfl, .of hB6⟩
set_option maxRecDepth 100000 in
set_option maxHeartbeats 1000000 in
theorem l7Do_19 (hv : v = m.val x y) (h : Ow base w x y m) (hok : m.ok = true) (n : Int) (hn : bok n = true) :
    Calls Tryz.prog 110 #[v, .int .i64 19, .int .i64 n] w fun e w' => Did base w w' e x y (m.does n 19) := by
  obtain ⟨g, hg, hgl⟩ := ram_block h.hy hok
  go_enter Tryz.func110, Tryz.ntmps110
  go_wp2_with (first
    | (refine box_m rfl rfl hv ?_; intro w0 r0 hB0)
    | (refine al_mc rfl rfl ?_; intro w1 z1 hB1; have r1 := r0.below hB1; have hB2 := hB0.trans (hB1.mono hB0.size); have l0 := r0.lt; have lz := z1.lt; have h1 := h.below hB2)
    | (refine ld_mc rfl rfl rfl r1 ?_)
    | (go_at_call 142; refine (l7Jump_19 rfl h1 hok _).mono ?_; rintro e w3 ⟨rfl, h3, hb3⟩; have z3 := hb3.row hg z1 (by omega))
    | (refine st_mc rfl rfl rfl rfl z3 (one_own h.hx) (one_own h.hy) ?_; intro w6 r6 o6 s6))
  refine ret_mc2 rfl rfl r6 rfl rfl ?_
  exact ⟨rfl, h3.at o6 (fun e => by have := (h.hx.lt _ e).2; omega) (fun e => by have := (h.hy.lt _ e).2; omega), ((But.of hB2).trans hb3).new o6 (by omega)⟩
set_option maxRecDepth 100000 in
set_option maxHeartbeats 1000000 in
theorem l7Do_20_t (hv : v = m.val x y) (h : Ow base w x y m) (hok : m.ok = true) (n : Int) (hn : bok n = true) (hc : m.z = true) :
    Calls Tryz.prog 110 #[v, .int .i64 20, .int .i64 n] w fun e w' => Did base w w' e x y (m.does n 20) := by
  obtain ⟨g, hg, hgl⟩ := ram_block h.hy hok
  have HC : Hid (m.z = true) := hc
  clear hc
  go_enter Tryz.func110, Tryz.ntmps110
  go_wp2_with (first
    | (refine box_m rfl rfl hv ?_; intro w0 r0 hB0)
    | (refine al_mc rfl rfl ?_; intro w1 z1 hB1; have r1 := r0.below hB1; have hB2 := hB0.trans (hB1.mono hB0.size); have l0 := r0.lt; have lz := z1.lt; have h1 := h.below hB2)
    | (refine ld_mc rfl rfl rfl r1 ?_)
    | (go_at_call 142; refine (l7Jump_20_t rfl h1 hok _ HC.out).mono ?_; rintro e w3 ⟨rfl, h3, hb3⟩; have z3 := hb3.row hg z1 (by omega))
    | (refine st_mc rfl rfl rfl rfl z3 (one_own h.hx) (one_own h.hy) ?_; intro w6 r6 o6 s6))
  refine ret_mc2 rfl rfl r6 rfl rfl ?_
  exact ⟨rfl, h3.at o6 (fun e => by have := (h.hx.lt _ e).2; omega) (fun e => by have := (h.hy.lt _ e).2; omega), ((But.of hB2).trans hb3).new o6 (by omega)⟩
set_option maxRecDepth 100000 in
set_option maxHeartbeats 1000000 in
theorem l7Do_20_f (hv : v = m.val x y) (h : Ow base w x y m) (hok : m.ok = true) (n : Int) (hn : bok n = true) (hc : m.z = false) :
    Calls Tryz.prog 110 #[v, .int .i64 20, .int .i64 n] w fun e w' => Did base w w' e x y (m.does n 20) := by
  obtain ⟨g, hg, hgl⟩ := ram_block h.hy hok
  have HC : Hid (m.z = false) := hc
  clear hc
  go_enter Tryz.func110, Tryz.ntmps110
  go_wp2_with (first
    | (refine box_m rfl rfl hv ?_; intro w0 r0 hB0)
    | (refine al_mc rfl rfl ?_; intro w1 z1 hB1; have r1 := r0.below hB1; have hB2 := hB0.trans (hB1.mono hB0.size); have l0 := r0.lt; have lz := z1.lt; have h1 := h.below hB2)
    | (refine ld_mc rfl rfl rfl r1 ?_)
    | (go_at_call 142; refine (l7Jump_20_f rfl h1 hok _ HC.out).mono ?_; rintro e w3 ⟨rfl, h3, hb3⟩; have z3 := hb3.row hg z1 (by omega))
    | (refine st_mc rfl rfl rfl rfl z3 (one_own h.hx) (one_own h.hy) ?_; intro w6 r6 o6 s6))
  refine ret_mc2 rfl rfl r6 rfl rfl ?_
  exact ⟨rfl, h3.at o6 (fun e => by have := (h.hx.lt _ e).2; omega) (fun e => by have := (h.hy.lt _ e).2; omega), ((But.of hB2).trans hb3).new o6 (by omega)⟩
set_option maxRecDepth 100000 in
set_option maxHeartbeats 1000000 in
theorem l7Do_21_t (hv : v = m.val x y) (h : Ow base w x y m) (hok : m.ok = true) (n : Int) (hn : bok n = true) (hc : m.z = true) :
    Calls Tryz.prog 110 #[v, .int .i64 21, .int .i64 n] w fun e w' => Did base w w' e x y (m.does n 21) := by
  obtain ⟨g, hg, hgl⟩ := ram_block h.hy hok
  have HC : Hid (m.z = true) := hc
  clear hc
  go_enter Tryz.func110, Tryz.ntmps110
  go_wp2_with (first
    | (refine box_m rfl rfl hv ?_; intro w0 r0 hB0)
    | (refine al_mc rfl rfl ?_; intro w1 z1 hB1; have r1 := r0.below hB1; have hB2 := hB0.trans (hB1.mono hB0.size); have l0 := r0.lt; have lz := z1.lt; have h1 := h.below hB2)
    | (refine ld_mc rfl rfl rfl r1 ?_)
    | (go_at_call 142; refine (l7Jump_21_t rfl h1 hok _ HC.out).mono ?_; rintro e w3 ⟨rfl, h3, hb3⟩; have z3 := hb3.row hg z1 (by omega))
    | (refine st_mc rfl rfl rfl rfl z3 (one_own h.hx) (one_own h.hy) ?_; intro w6 r6 o6 s6))
  refine ret_mc2 rfl rfl r6 rfl rfl ?_
  exact ⟨rfl, h3.at o6 (fun e => by have := (h.hx.lt _ e).2; omega) (fun e => by have := (h.hy.lt _ e).2; omega), ((But.of hB2).trans hb3).new o6 (by omega)⟩
set_option maxRecDepth 100000 in
set_option maxHeartbeats 1000000 in
theorem l7Do_21_f (hv : v = m.val x y) (h : Ow base w x y m) (hok : m.ok = true) (n : Int) (hn : bok n = true) (hc : m.z = false) :
    Calls Tryz.prog 110 #[v, .int .i64 21, .int .i64 n] w fun e w' => Did base w w' e x y (m.does n 21) := by
  obtain ⟨g, hg, hgl⟩ := ram_block h.hy hok
  have HC : Hid (m.z = false) := hc
  clear hc
  go_enter Tryz.func110, Tryz.ntmps110
  go_wp2_with (first
    | (refine box_m rfl rfl hv ?_; intro w0 r0 hB0)
    | (refine al_mc rfl rfl ?_; intro w1 z1 hB1; have r1 := r0.below hB1; have hB2 := hB0.trans (hB1.mono hB0.size); have l0 := r0.lt; have lz := z1.lt; have h1 := h.below hB2)
    | (refine ld_mc rfl rfl rfl r1 ?_)
    | (go_at_call 142; refine (l7Jump_21_f rfl h1 hok _ HC.out).mono ?_; rintro e w3 ⟨rfl, h3, hb3⟩; have z3 := hb3.row hg z1 (by omega))
    | (refine st_mc rfl rfl rfl rfl z3 (one_own h.hx) (one_own h.hy) ?_; intro w6 r6 o6 s6))
  refine ret_mc2 rfl rfl r6 rfl rfl ?_
  exact ⟨rfl, h3.at o6 (fun e => by have := (h.hx.lt _ e).2; omega) (fun e => by have := (h.hy.lt _ e).2; omega), ((But.of hB2).trans hb3).new o6 (by omega)⟩
set_option maxRecDepth 100000 in
set_option maxHeartbeats 1000000 in
theorem l7Do_22_t (hv : v = m.val x y) (h : Ow base w x y m) (hok : m.ok = true) (n : Int) (hn : bok n = true) (hc : m.c = true) :
    Calls Tryz.prog 110 #[v, .int .i64 22, .int .i64 n] w fun e w' => Did base w w' e x y (m.does n 22) := by
  obtain ⟨g, hg, hgl⟩ := ram_block h.hy hok
  have HC : Hid (m.c = true) := hc
  clear hc
  go_enter Tryz.func110, Tryz.ntmps110
  go_wp2_with (first
    | (refine box_m rfl rfl hv ?_; intro w0 r0 hB0)
    | (refine al_mc rfl rfl ?_; intro w1 z1 hB1; have r1 := r0.below hB1; have hB2 := hB0.trans (hB1.mono hB0.size); have l0 := r0.lt; have lz := z1.lt; have h1 := h.below hB2)
    | (refine ld_mc rfl rfl rfl r1 ?_)
    | (go_at_call 142; refine (l7Jump_22_t rfl h1 hok _ HC.out).mono ?_; rintro e w3 ⟨rfl, h3, hb3⟩; have z3 := hb3.row hg z1 (by omega))
    | (refine st_mc rfl rfl rfl rfl z3 (one_own h.hx) (one_own h.hy) ?_; intro w6 r6 o6 s6))
  refine ret_mc2 rfl rfl r6 rfl rfl ?_
  exact ⟨rfl, h3.at o6 (fun e => by have := (h.hx.lt _ e).2; omega) (fun e => by have := (h.hy.lt _ e).2; omega), ((But.of hB2).trans hb3).new o6 (by omega)⟩
set_option maxRecDepth 100000 in
set_option maxHeartbeats 1000000 in
theorem l7Do_22_f (hv : v = m.val x y) (h : Ow base w x y m) (hok : m.ok = true) (n : Int) (hn : bok n = true) (hc : m.c = false) :
    Calls Tryz.prog 110 #[v, .int .i64 22, .int .i64 n] w fun e w' => Did base w w' e x y (m.does n 22) := by
  obtain ⟨g, hg, hgl⟩ := ram_block h.hy hok
  have HC : Hid (m.c = false) := hc
  clear hc
  go_enter Tryz.func110, Tryz.ntmps110
  go_wp2_with (first
    | (refine box_m rfl rfl hv ?_; intro w0 r0 hB0)
    | (refine al_mc rfl rfl ?_; intro w1 z1 hB1; have r1 := r0.below hB1; have hB2 := hB0.trans (hB1.mono hB0.size); have l0 := r0.lt; have lz := z1.lt; have h1 := h.below hB2)
    | (refine ld_mc rfl rfl rfl r1 ?_)
    | (go_at_call 142; refine (l7Jump_22_f rfl h1 hok _ HC.out).mono ?_; rintro e w3 ⟨rfl, h3, hb3⟩; have z3 := hb3.row hg z1 (by omega))
    | (refine st_mc rfl rfl rfl rfl z3 (one_own h.hx) (one_own h.hy) ?_; intro w6 r6 o6 s6))
  refine ret_mc2 rfl rfl r6 rfl rfl ?_
  exact ⟨rfl, h3.at o6 (fun e => by have := (h.hx.lt _ e).2; omega) (fun e => by have := (h.hy.lt _ e).2; omega), ((But.of hB2).trans hb3).new o6 (by omega)⟩
set_option maxRecDepth 100000 in
set_option maxHeartbeats 1000000 in
theorem l7Do_23 (hv : v = m.val x y) (h : Ow base w x y m) (hok : m.ok = true) (n : Int) (hn : bok n = true) :
    Calls Tryz.prog 110 #[v, .int .i64 23, .int .i64 n] w fun e w' => Did base w w' e x y (m.does n 23) := by
  obtain ⟨g, hg, hgl⟩ := ram_block h.hy hok
  go_enter Tryz.func110, Tryz.ntmps110
  go_wp2_with (first
    | (refine box_m rfl rfl hv ?_; intro w0 r0 hB0)
    | (refine al_mc rfl rfl ?_; intro w1 z1 hB1; have r1 := r0.below hB1; have hB2 := hB0.trans (hB1.mono hB0.size); have l0 := r0.lt; have lz := z1.lt; have h1 := h.below hB2)
    | (refine ld_mc rfl rfl rfl r1 ?_)
    | (go_at_call 142; refine (l7Jump_23 rfl h1 hok _).mono ?_; rintro e w3 ⟨rfl, h3, hb3⟩; have z3 := hb3.row hg z1 (by omega))
    | (refine st_mc rfl rfl rfl rfl z3 (one_own h.hx) (one_own h.hy) ?_; intro w6 r6 o6 s6))
  refine ret_mc2 rfl rfl r6 rfl rfl ?_
  exact ⟨rfl, h3.at o6 (fun e => by have := (h.hx.lt _ e).2; omega) (fun e => by have := (h.hy.lt _ e).2; omega), ((But.of hB2).trans hb3).new o6 (by omega)⟩
set_option maxRecDepth 100000 in
set_option maxHeartbeats 1000000 in
theorem l7Do_24_t (hv : v = m.val x y) (h : Ow base w x y m) (hok : m.ok = true) (n : Int) (hn : bok n = true) (hc : m.e = true) :
    Calls Tryz.prog 110 #[v, .int .i64 24, .int .i64 n] w fun e w' => Did base w w' e x y (m.does n 24) := by
  obtain ⟨g, hg, hgl⟩ := ram_block h.hy hok
  have HC : Hid (m.e = true) := hc
  clear hc
  go_enter Tryz.func110, Tryz.ntmps110
  go_wp2_with (first
    | (refine box_m rfl rfl hv ?_; intro w0 r0 hB0)
    | (refine al_mc rfl rfl ?_; intro w1 z1 hB1; have r1 := r0.below hB1; have hB2 := hB0.trans (hB1.mono hB0.size); have l0 := r0.lt; have lz := z1.lt; have h1 := h.below hB2)
    | (refine ld_mc rfl rfl rfl r1 ?_)
    | (go_at_call 142; refine (l7Jump_24_t rfl h1 hok _ HC.out).mono ?_; rintro e w3 ⟨rfl, h3, hb3⟩; have z3 := hb3.row hg z1 (by omega))
    | (refine st_mc rfl rfl rfl rfl z3 (one_own h.hx) (one_own h.hy) ?_; intro w6 r6 o6 s6))
  refine ret_mc2 rfl rfl r6 rfl rfl ?_
  exact ⟨rfl, h3.at o6 (fun e => by have := (h.hx.lt _ e).2; omega) (fun e => by have := (h.hy.lt _ e).2; omega), ((But.of hB2).trans hb3).new o6 (by omega)⟩
set_option maxRecDepth 100000 in
set_option maxHeartbeats 1000000 in
theorem l7Do_24_f (hv : v = m.val x y) (h : Ow base w x y m) (hok : m.ok = true) (n : Int) (hn : bok n = true) (hc : m.e = false) :
    Calls Tryz.prog 110 #[v, .int .i64 24, .int .i64 n] w fun e w' => Did base w w' e x y (m.does n 24) := by
  obtain ⟨g, hg, hgl⟩ := ram_block h.hy hok
  have HC : Hid (m.e = false) := hc
  clear hc
  go_enter Tryz.func110, Tryz.ntmps110
  go_wp2_with (first
    | (refine box_m rfl rfl hv ?_; intro w0 r0 hB0)
    | (refine al_mc rfl rfl ?_; intro w1 z1 hB1; have r1 := r0.below hB1; have hB2 := hB0.trans (hB1.mono hB0.size); have l0 := r0.lt; have lz := z1.lt; have h1 := h.below hB2)
    | (refine ld_mc rfl rfl rfl r1 ?_)
    | (go_at_call 142; refine (l7Jump_24_f rfl h1 hok _ HC.out).mono ?_; rintro e w3 ⟨rfl, h3, hb3⟩; have z3 := hb3.row hg z1 (by omega))
    | (refine st_mc rfl rfl rfl rfl z3 (one_own h.hx) (one_own h.hy) ?_; intro w6 r6 o6 s6))
  refine ret_mc2 rfl rfl r6 rfl rfl ?_
  exact ⟨rfl, h3.at o6 (fun e => by have := (h.hx.lt _ e).2; omega) (fun e => by have := (h.hy.lt _ e).2; omega), ((But.of hB2).trans hb3).new o6 (by omega)⟩
set_option maxRecDepth 100000 in
set_option maxHeartbeats 1000000 in
theorem l7Do_29_t (hv : v = m.val x y) (h : Ow base w x y m) (hok : m.ok = true) (n : Int) (hn : bok n = true) (hc : m.e = true) :
    Calls Tryz.prog 110 #[v, .int .i64 29, .int .i64 n] w fun e w' => Did base w w' e x y (m.does n 29) := by
  obtain ⟨g, hg, hgl⟩ := ram_block h.hy hok
  have HC : Hid (m.e = true) := hc
  clear hc
  go_enter Tryz.func110, Tryz.ntmps110
  go_wp2_with (first
    | (refine box_m rfl rfl hv ?_; intro w0 r0 hB0)
    | (refine al_mc rfl rfl ?_; intro w1 z1 hB1; have r1 := r0.below hB1; have hB2 := hB0.trans (hB1.mono hB0.size); have l0 := r0.lt; have lz := z1.lt; have h1 := h.below hB2)
    | (refine ld_mc rfl rfl rfl r1 ?_)
    | (go_at_call 142; refine (l7Jump_29_t rfl h1 hok _ HC.out).mono ?_; rintro e w3 ⟨rfl, h3, hb3⟩; have z3 := hb3.row hg z1 (by omega))
    | (refine st_mc rfl rfl rfl rfl z3 (one_own h.hx) (one_own h.hy) ?_; intro w6 r6 o6 s6))
  refine ret_mc2 rfl rfl r6 rfl rfl ?_
  exact ⟨rfl, h3.at o6 (fun e => by have := (h.hx.lt _ e).2; omega) (fun e => by have := (h.hy.lt _ e).2; omega), ((But.of hB2).trans hb3).new o6 (by omega)⟩
set_option maxRecDepth 100000 in
set_option maxHeartbeats 1000000 in
theorem l7Do_29_f (hv : v = m.val x y) (h : Ow base w x y m) (hok : m.ok = true) (n : Int) (hn : bok n = true) (hc : m.e = false) :
    Calls Tryz.prog 110 #[v, .int .i64 29, .int .i64 n] w fun e w' => Did base w w' e x y (m.does n 29) := by
  obtain ⟨g, hg, hgl⟩ := ram_block h.hy hok
  have HC : Hid (m.e = false) := hc
  clear hc
  go_enter Tryz.func110, Tryz.ntmps110
  go_wp2_with (first
    | (refine box_m rfl rfl hv ?_; intro w0 r0 hB0)
    | (refine al_mc rfl rfl ?_; intro w1 z1 hB1; have r1 := r0.below hB1; have hB2 := hB0.trans (hB1.mono hB0.size); have l0 := r0.lt; have lz := z1.lt; have h1 := h.below hB2)
    | (refine ld_mc rfl rfl rfl r1 ?_)
    | (go_at_call 142; refine (l7Jump_29_f rfl h1 hok _ HC.out).mono ?_; rintro e w3 ⟨rfl, h3, hb3⟩; have z3 := hb3.row hg z1 (by omega))
    | (refine st_mc rfl rfl rfl rfl z3 (one_own h.hx) (one_own h.hy) ?_; intro w6 r6 o6 s6))
  refine ret_mc2 rfl rfl r6 rfl rfl ?_
  exact ⟨rfl, h3.at o6 (fun e => by have := (h.hx.lt _ e).2; omega) (fun e => by have := (h.hy.lt _ e).2; omega), ((But.of hB2).trans hb3).new o6 (by omega)⟩
set_option maxRecDepth 100000 in
set_option maxHeartbeats 1000000 in
theorem l7Do_26 (hv : v = m.val x y) (h : Ow base w x y m) (hok : m.ok = true) (n : Int) (hn : bok n = true) :
    Calls Tryz.prog 110 #[v, .int .i64 26, .int .i64 n] w fun e w' => Did base w w' e x y (m.does n 26) := by
  go_enter Tryz.func110, Tryz.ntmps110
  go_wp2_with (first
    | (refine box_m rfl rfl hv ?_; intro w0 r0 hB0)
    | (refine al_mc rfl rfl ?_; intro w1 z1 hB1; have r1 := r0.below hB1; have hB2 := hB0.trans (hB1.mono hB0.size); have l0 := r0.lt; have lz := z1.lt; have h1 := h.below hB2)
    | (refine ld_mc rfl rfl rfl r1 ?_)
    | (go_at_call 143; refine (l7Pop_spec rfl h1 hok).mono ?_; rintro e w2 ⟨rfl, h2, hb2⟩; have hB3 := hB2.trans (hb2.mono hB2.size); have z2 := z1.below hb2; have r2 := r1.below hb2)
    | (refine st_mc rfl rfl rfl rfl r2 (one_own h.hx) (one_own h.hy) ?_; intro w3 r3 o3 s3; have z3 := z2.onto o3 (by omega); have hB4 := below_onto hB3 o3 (by omega))
    | (refine st_num (m' := (m.does n 26).1) rfl rfl rfl rfl r3 rfl rfl ?_; intro w4 r4 o4 s4; have z4 := z3.onto o4 (by omega); have hB5 := below_onto hB4 o4 (by omega))
    | (refine ld_mc rfl rfl rfl r4 ?_)
    | (refine st_mc rfl rfl rfl rfl z4 (one_own h.hx) (one_own h.hy) ?_; intro w6 r6 o6 s6))
  refine ret_mc2 rfl rfl r6 rfl rfl ?_
  have hB6 := below_onto hB5 o6 (by omega)
  exact ⟨rfl, (h.below hB6).as rfl rfl, .of hB6⟩
theorem l7Do_spec (hv : v = m.val x y) (h : Ow base w x y m) (hok : m.ok = true) (n : Int) (hn : bok n = true) (k : Nat) (hk : k < 31) :
    Calls Tryz.prog 110 #[v, .int .i64 (k : Int), .int .i64 n] w fun e w' => Did base w w' e x y (m.does n k) := by
  match k with
  | 0 => exact l7Do_0 hv h hok n hn
  | 1 => exact l7Do_1 hv h hok n hn
  | 2 => exact l7Do_2 hv h hok n hn
  | 3 => exact l7Do_3 hv h hok n hn
  | 4 => exact l7Do_4 hv h hok n hn
  | 5 => exact l7Do_5 hv h hok n hn
  | 6 => exact l7Do_6 hv h hok n hn
  | 7 => exact l7Do_7 hv h hok n hn
  | 8 => exact l7Do_8 hv h hok n hn
  | 9 => exact l7Do_9 hv h hok n hn
  | 10 => exact l7Do_10 hv h hok n hn
  | 11 => exact l7Do_11 hv h hok n hn
  | 12 => exact l7Do_12 hv h hok n hn
  | 13 => exact l7Do_13 hv h hok n hn
  | 14 => exact l7Do_14 hv h hok n hn
  | 15 => exact l7Do_15 hv h hok n hn
  | 16 => exact l7Do_16 hv h hok n hn
  | 17 => exact l7Do_17 hv h hok n hn
  | 18 => exact l7Do_18 hv h hok n hn
  | 19 => exact l7Do_19 hv h hok n hn
  | 20 =>
    cases hc : m.z
    · exact l7Do_20_f hv h hok n hn hc
    · exact l7Do_20_t hv h hok n hn hc
  | 21 =>
    cases hc : m.z
    · exact l7Do_21_f hv h hok n hn hc
    · exact l7Do_21_t hv h hok n hn hc
  | 22 =>
    cases hc : m.c
    · exact l7Do_22_f hv h hok n hn hc
    · exact l7Do_22_t hv h hok n hn hc
  | 23 => exact l7Do_23 hv h hok n hn
  | 24 =>
    cases hc : m.e
    · exact l7Do_24_f hv h hok n hn hc
    · exact l7Do_24_t hv h hok n hn hc
  | 25 => exact l7Do_25 hv h hok n hn
  | 26 => exact l7Do_26 hv h hok n hn
  | 27 => exact l7Do_27 hv h hok n hn
  | 28 => exact l7Do_28 hv h hok n hn
  | 29 =>
    cases hc : m.e
    · exact l7Do_29_f hv h hok n hn hc
    · exact l7Do_29_t hv h hok n hn hc
  | 30 => exact l7Do_30 hv h hok n hn
  | k + 31 => omega
end
end Go.Proofs.YtocofjimkfffeaaGreatDoor.Mem
namespace Go.Proofs.YtocofjimkfffeaaGreatDoor.Mem
open Go.ChangeShapes Go.WideShapes Go.RowKit Base Num Slc Rw Tmr Srl Rom RomOf Opl Reg
set_option linter.unusedVariables false
set_option linter.unusedSimpArgs false
section
variable {ops : Array Oper} {rest : List Oper} {o : Oper} {a : Act} {w : World} {Q : Exit → Act → World → Prop} {g : Nat} {x y : Value} {m : Mc}
theorem ret_mc3' {fn : Func} {R : Ending → World → Prop} {q u u2 : Tmp} {v v2 : Value} (h : fn.results = #[.cell q 30, .tmp u, .tmp u2]) (hp : a.tmps.getD q undef = .pointer (some ⟨g, 0, none⟩)) (hr : MRow w g x y m) (hde : a.defers = []) (hv : a.tmps.getD u undef = v) (hv2 : a.tmps.getD u2 undef = v2)
    (hR : R (.returned (.tuple #[m.val x y, v, v2])) w) : bodyPost Tryz.prog fn R .ret a w := ret_row_tmp2 h hp hr Tryz.underlying30 rfl info_mc hde hv hv2 hR
variable {op : Oper} {K : Act → World → Prop} {p q : Operand} {x0 y0 : Value} {m0 : Mc}
theorem sm_op' (ho : op.op = .store 30 p q) (hx : a.eval p = .pointer (some ⟨g, 0, none⟩)) (hy : a.eval q = m.val x y) (hr : MRow w g x0 y0 m0) (h1 : x.oneCell' = true) (h2 : y.oneCell' = true)
    (h : ∀ w', MRow w' g x y m → Onto g w w' → K (a.put op.dst undef) w') : op.wp Tryz.prog a w K Q :=
  wp_store_row _ p q ho g _ hx hy _ _ hr.row info_mc rfl (all_one h1 h2 m)
    (h _ (Row.of (setRow_heap w g _ _ _ _ hr.row)) ⟨rfl, rfl, rfl, by simp, fun k hk _ => setRow_other w g k _ hk⟩)
end
section
variable {base : Nat} {w : World} {x y v : Value} {m : Mc}
/-- What l7Run answers. -/
def Ran (base : Nat) (w w' : World) (e : Ending) (x y : Value) (r : Mc × Int × Int) : Prop := e = .returned (.tuple #[r.1.val x y, .int .i64 r.2.1, .int .i64 r.2.2]) ∧ Ow base w' x y r.1 ∧ But y w w'
theorem l7Run_idle (hv : v = m.val x y) (h : Ow base w x y m) (hi : (m.h || m.s) = true) : Calls Tryz.prog 35 #[v] w fun e w' => Ran base w w' e x y (m, 1, -1) := by
  cases hh : m.h
  · have hs : m.s = true := by simpa [hh] using hi
    go_enter Tryz.func35, Tryz.ntmps35
    go_wp2_with (first
      | (refine box_m rfl rfl hv ?_; intro w0 r0 hB0)
      | (refine al_mc rfl rfl ?_; intro w1 z1 hB1; have r1 := r0.below hB1; have hB2 := hB0.trans (hB1.mono hB0.size); have l0 := r0.lt; have lz := z1.lt; have kh := (cw r1).h; have ks := (cw r1).s; rw [hh] at kh; rw [hs] at ks)
      | (refine ld_mc rfl rfl rfl r1 ?_)
      | (refine st_mc rfl rfl rfl rfl z1 (one_own h.hx) (one_own h.hy) ?_; intro w6 r6 o6 s6))
    refine ret_mc3' rfl rfl r6 rfl rfl rfl ?_
    have hB6 := below_onto hB2 o6 (by omega)
    exact ⟨rfl, h.below hB6, .of hB6⟩
  · go_enter Tryz.func35, Tryz.ntmps35
    go_wp2_with (first
      | (refine box_m rfl rfl hv ?_; intro w0 r0 hB0)
      | (refine al_mc rfl rfl ?_; intro w1 z1 hB1; have r1 := r0.below hB1; have hB2 := hB0.trans (hB1.mono hB0.size); have l0 := r0.lt; have lz := z1.lt; have kh := (cw r1).h; rw [hh] at kh)
      | (refine ld_mc rfl rfl rfl r1 ?_)
      | (refine st_mc rfl rfl rfl rfl z1 (one_own h.hx) (one_own h.hy) ?_; intro w6 r6 o6 s6))
    refine ret_mc3' rfl rfl r6 rfl rfl rfl ?_
    have hB6 := below_onto hB2 o6 (by omega)
    exact ⟨rfl, h.below hB6, .of hB6⟩
theorem l7Run_stuck (hv : v = m.val x y) (h : Ow base w x y m) (hok : m.ok = true) (hi : (m.h || m.s) = false) (hz : m.size' = 0) : Calls Tryz.prog 35 #[v] w fun e w' => Ran base w w' e x y ({ m with s := true }, 1, -1) := by
  have hh : m.h = false := by simp at hi; exact hi.1
  have hs : m.s = false := by simp at hi; exact hi.2
  have hpc := bok_iff.1 (okm.1 hok).pc
  have HC : Hid ((line (m.read m.pc)).2.1 = 0) := hz
  clear hz
  go_enter Tryz.func35, Tryz.ntmps35
  go_wp2_with (first
    | (refine box_m rfl rfl hv ?_; intro w0 r0 hB0)
    | (refine al_mc rfl rfl ?_; intro w1 z1 hB1; have r1 := r0.below hB1; have hB2 := hB0.trans (hB1.mono hB0.size); have l0 := r0.lt; have lz := z1.lt; have h1 := h.below hB2; have kh := (cw r1).h; have ks := (cw r1).s; have kp := (cw r1).pc; rw [hh] at kh; rw [hs] at ks)
    | (refine ld_mc rfl rfl rfl r1 ?_)
    | (go_at_call 44; refine (l6Read_spec _ m _ _ h1.sl (Mc.right hok) hpc).mono ?_; rintro e w2 ⟨rfl, hb2⟩; have hB3 := hB2.trans (hb2.mono hB2.size); have z2 := z1.below hb2; have r2 := r1.below hb2; clear kh ks kp)
    | (go_at_call 109; refine (sizeOf_spec _ _).mono ?_; rintro e w3 ⟨rfl, hb3⟩; rw [HC.out]; have hB4 := hB3.trans (hb3.mono hB3.size); have z3 := z2.below hb3; have r3 := r2.below hb3)
    | (refine st_yes (m' := { m with s := true }) rfl rfl rfl rfl r3 rfl rfl ?_; intro w4 r4 o4 s4; have z4 := z3.onto o4 (by omega); have hB5 := below_onto hB4 o4 (by omega))
    | (refine ld_mc rfl rfl rfl r4 ?_)
    | (refine st_mc rfl rfl rfl rfl z4 (one_own h.hx) (one_own h.hy) ?_; intro w6 r6 o6 s6))
  refine ret_mc3' rfl rfl r6 rfl rfl rfl ?_
  have hB6 := below_onto hB5 o6 (by omega)
  exact ⟨rfl, (h.below hB6).as rfl rfl, .of hB6⟩
/-- While the answer is laid. -/
structure Gy (w : World) (base g g2 : Nat) (x y : Value) (m : Mc) (b : Bool) (W : World) : Prop where
  row : MRow W g x y m
  ow : Ow base W x y m
  but : But y w W
  res : if b = true then MRow W g2 x y m else MRow W g2 nil64 nil64 Mc.nul
theorem Gy.below {w W W' : World} {base g g2 : Nat} {x y : Value} {m : Mc} {b : Bool} (h : Gy w base g g2 x y m b W) (hb : Below W.heap.size W W') : Gy w base g g2 x y m b W' :=
  ⟨h.row.below hb, h.ow.below hb, h.but.trans (.of hb), by have := h.res; cases b <;> exact Row.below this hb⟩
theorem Gy.lay {w W W' : World} {base g g2 : Nat} {x y : Value} {m : Mc} {b : Bool} (h : Gy w base g g2 x y m b W) (hr : MRow W' g2 x y m) (ho : Onto g2 W W') (h1 : g ≠ g2) (h2 : w.heap.size ≤ g2) (n1 : x.ownBlock ≠ some g2) (n2 : y.ownBlock ≠ some g2) : Gy w base g g2 x y m true W' :=
  ⟨h.row.onto ho h1, h.ow.at ho n1 n2, h.but.new ho h2, by simpa using hr⟩
set_option maxRecDepth 100000 in
set_option maxHeartbeats 2000000 in
theorem l7Run_does (hv : v = m.val x y) (h : Ow base w x y m) (hok : m.ok = true) (hi : (m.h || m.s) = false) (k : Nat) (hk : k < 31) (hcode : m.code = (k : Int)) :
    Calls Tryz.prog 35 #[v] w fun e w' => Ran base w w' e x y ((m.onw.does m.opnd k).1, (line (k : Int)).2.2, (m.onw.does m.opnd k).2) := by
  have hh : m.h = false := by simp at hi; exact hi.1
  have hs : m.s = false := by simp at hi; exact hi.2
  have hpc := bok_iff.1 (okm.1 hok).pc
  obtain ⟨g, hg, hgl⟩ := ram_block h.hy hok
  have HC : Hid (m.read m.pc = (k : Int)) := hcode
  obtain ⟨sz, HS⟩ : ∃ sz, Hid (sz = (line (k : Int)).2.1) := ⟨_, show _ = _ from rfl⟩
  have hsz : 1 ≤ sz ∧ sz ≤ 2 := by have := size_in k hk; have := HS.out; omega
  have hz0 : (sz == 0) = false := by simp; omega
  have HO : Hid (m.onw = { m with pc := (m.pc + sz) % 256 }) := show _ = _ by unfold Mc.onw Mc.size'; rw [hcode, ← HS.out]
  have hrem1 := rem_pos' (a := m.pc + 1) (r := 256) (by omega)
  have hrem2 := rem_pos' (a := m.pc + sz) (r := 256) (by omega)
  have hq : 0 ≤ (m.pc + 1) % 256 ∧ (m.pc + 1) % 256 ≤ 255 := by omega
  have HP : Hid (m.read ((m.pc + 1) % 256) = m.opnd) := show _ = _ from rfl
  clear hcode
  go_enter Tryz.func35, Tryz.ntmps35
  go_wp2_with (first
    | (refine box_m rfl rfl hv ?_; intro w0 r0 hB0)
    | (refine al_mc rfl rfl ?_; intro w1 z1 hB1; have r1 := r0.below hB1; have hB2 := hB0.trans (hB1.mono hB0.size); have l0 := r0.lt; have lz := z1.lt; have h1 := h.below hB2; have kh := (cw r1).h; have ks := (cw r1).s; have kp := (cw r1).pc; rw [hh] at kh; rw [hs] at ks)
    | (refine ld_mc rfl rfl rfl r1 ?_))
  go_at_call 44
  refine (l6Read_spec _ m _ _ h1.sl (Mc.right hok) hpc).mono ?_
  rintro e w2 ⟨rfl, hb2⟩
  rw [HC.out]
  have hB3 := hB2.trans (hb2.mono hB2.size)
  have z2 := z1.below hb2
  have r2 := r1.below hb2
  clear kh ks kp
  go_wp2_with (first
    | (go_at_call 109; refine (sizeOf_spec _ _).mono ?_; rintro e w3 ⟨rfl, hb3⟩; rw [← HS.out]; have hB4 := hB3.trans (hb3.mono hB3.size); have z3 := z2.below hb3; have r3 := r2.below hb3; have kp := (cw r3).pc; have h3 := h.below hB4)
    | (refine ld_mc rfl rfl rfl r3 ?_))
  go_at_call 44
  refine (l6Read_spec _ m _ _ h3.sl (Mc.right hok) hq).mono ?_
  rintro e w4 ⟨rfl, hb4⟩
  rw [HP.out]
  have hB5 := hB4.trans (hb4.mono hB4.size)
  have z4 := z3.below hb4
  have r4 := r3.below hb4
  have kp4 := (cw r4).pc
  have lz4 := z4.lt
  have lr4 := r4.lt
  clear kp
  obtain ⟨N, HN⟩ : ∃ N, Hid (N = m.opnd) := ⟨_, show _ = _ from rfl⟩
  rw [← HN.out]
  have hnb : bok N = true := by rw [HN.out]; exact opnd_ok hok
  obtain ⟨M, HM⟩ : ∃ M, Hid (M = (m.onw.does m.opnd k).1) := ⟨_, show _ = _ from rfl⟩
  obtain ⟨O, HQ⟩ : ∃ O, Hid (O = (m.onw.does m.opnd k).2) := ⟨_, show _ = _ from rfl⟩
  obtain ⟨m5, H5⟩ : ∃ m5 : Mc, Hid (m5 = { m with pc := (m.pc + sz) % 256 }) := ⟨_, show _ = _ from rfl⟩
  have hDo : ∀ (W : World), Ow base W x y m5 → Calls Tryz.prog 110 #[m5.val x y, .int .i64 (k : Int), .int .i64 N] W fun e w' => e = .returned (.tuple #[M.val x y, .int .i64 O]) ∧ Ow base w' x y M ∧ But y W w' := fun W hW => by
    rw [HM.out, HQ.out, HO.out, ← HN.out, ← H5.out]
    exact l7Do_spec rfl hW (by rw [H5.out]; exact ok_pc hok (bok_mod _)) _ hnb k hk
  clear hnb
  have hc5 : (m.cells x y).setIfInBounds 4 (.int .i64 ((m.pc + sz) % 256)) = m5.cells x y := by rw [H5.out]; rfl
  have hr5 : m5.rom = m.rom ∧ m5.ram = m.ram := by rw [H5.out]; exact ⟨rfl, rfl⟩
  go_wp2_with (first
    | (refine st_num (m' := m5) rfl rfl rfl rfl r4 rfl hc5 ?_; intro w5 r5 o5 s5; have z5 := z4.onto o5 (by omega); have hB6 := below_onto hB5 o5 (by omega); have h5 := (h.below hB6).as (m' := m5) hr5.1 hr5.2; clear hc5 hr5 kp4 hrem1 hrem2 hz0)
    | (refine ld_mc rfl rfl rfl r5 ?_)
    | (go_at_call 110; refine (hDo _ h5).mono ?_; rintro e w6 ⟨rfl, h6, hb6⟩; have z6 := hb6.row hg z5 (by omega); have hsz6 := (hb6 g hg).size; have hsB6 := hB6.size)
    | (refine al_mc rfl rfl ?_; intro w7 z7 hb7; have z7' := z6.below hb7; have h7 := h6.below hb7; have l7 := z7.lt; have l6 := z6.lt; have hsz7 := hb7.size)
    | (refine st_mc rfl rfl rfl rfl z7 (one_own h.hx) (one_own h.hy) ?_; intro w8 r8 o8 s8))
  have hGy : Gy w base w6.heap.size w0.heap.size x y M false w8 :=
    ⟨r8, h7.at o8 (fun e => by have := (h.hx.lt _ e).2; omega) (fun e => by have := (h.hy.lt _ e).2; omega), (((But.of hB6).trans hb6).trans (.of hb7)).new o8 (by omega), z7'.onto o8 (by omega)⟩
  have hs0 := hB0.size
  refine region_known (by kernel_rfl) (by kernel_rfl) 4 (by decide) (by kernel_rfl) (Gy w base w6.heap.size w0.heap.size x y M)
    [M.val x y, .int .i64 (k : Int), .int .i64 (line (k : Int)).2.2, .int .i64 O, undef, .int .i64 (line (k : Int)).2.2, .int .i64 O] (hGy.below (below_drewN (Below.refl _ _) 1)) ?step ?done
  case step =>
    intro L ix o' A W hi hI hL hd
    have hin : ix < 7 := by
      by_cases hl : ix < 7
      · exact hl
      · simp [hl] at hi
    have hg' := hI.g
    rcases ix with _ | ix
    · obtain rfl := (Option.some.inj hi).symm
      have e0 : A.eval (.tmp 8) = .pointer (some ⟨w6.heap.size, 0, none⟩) := hI.old 8 (by kernel_rfl)
      exact at_op rfl rfl (wp_load_row _ _ rfl _ e0 _ _ _ _ hg'.row.row Tryz.underlying30 rfl info_mc ⟨_, rfl, rfl, by simpa using hg'⟩)
    rcases ix with _ | ix
    · obtain rfl := (Option.some.inj hi).symm
      have e0 : A.eval (.tmp 5) = .int .i64 (k : Int) := hI.old 5 (by kernel_rfl)
      exact at_op rfl rfl (move_op rfl ⟨_, rfl, e0, by simpa using hg'⟩)
    rcases ix with _ | ix
    · obtain rfl := (Option.some.inj hi).symm
      have e0 : A.eval (.tmp 47) = .int .i64 (k : Int) := hI.val hd 1 47 rfl rfl (by kernel_rfl)
      refine at_op rfl rfl (call_op rfl Tryz.func111 (by kernel_rfl) (by kernel_rfl) ?_)
      simp only [List.map_cons, List.map_nil, e0]
      refine (costOf_spec _ _).mono ?_
      rintro e W1 ⟨rfl, hb⟩
      exact ⟨_, rfl, _, rfl, rfl, by simpa using hg'.below hb⟩
    rcases ix with _ | ix
    · obtain rfl := (Option.some.inj hi).symm
      have e0 : A.eval (.tmp 9) = .int .i64 O := hI.old 9 (by kernel_rfl)
      exact at_op rfl rfl (move_op rfl ⟨_, rfl, e0, by simpa using hg'⟩)
    rcases ix with _ | ix
    · obtain rfl := (Option.some.inj hi).symm
      have e0 : A.eval (.tmp 2) = .pointer (some ⟨w0.heap.size, 0, none⟩) := hI.old 2 (by kernel_rfl)
      have e1 : A.eval (.tmp 46) = M.val x y := hI.val hd 0 46 rfl rfl (by kernel_rfl)
      have hres : MRow W w0.heap.size nil64 nil64 Mc.nul := by have := hg'.res; simpa [hL] using this
      refine at_op rfl rfl (sm_op' rfl e0 e1 hres (one_own hg'.ow.hx) (one_own hg'.ow.hy) (fun W1 hr hon => ⟨_, rfl, rfl, ?_⟩))
      have := hg'.lay hr hon (by omega) (by omega) (fun e => by have := (h.hx.lt _ e).2; omega) (fun e => by have := (h.hy.lt _ e).2; omega)
      simpa using this
    rcases ix with _ | ix
    · obtain rfl := (Option.some.inj hi).symm
      have e0 : A.eval (.tmp 48) = .int .i64 (line (k : Int)).2.2 := hI.val hd 2 48 rfl rfl (by kernel_rfl)
      exact at_op rfl rfl (assign_op rfl ⟨_, rfl, e0, by simpa using hg'⟩)
    rcases ix with _ | ix
    · obtain rfl := (Option.some.inj hi).symm
      have e0 : A.eval (.tmp 49) = .int .i64 O := hI.val hd 3 49 rfl rfl (by kernel_rfl)
      exact at_op rfl rfl (assign_op rfl ⟨_, rfl, e0, by simpa using hg'⟩)
    omega
  case done =>
    intro A W hI
    have hg' := hI.g
    have hres : MRow W w0.heap.size x y M := by have := hg'.res; simpa using this
    have a2 : A.tmps.getD 2 undef = .pointer (some ⟨w0.heap.size, 0, none⟩) := hI.old 2 (by kernel_rfl)
    have a3 : A.tmps.getD 3 undef = .int .i64 (line (k : Int)).2.2 := hI.last 5 3 rfl
    have a4 : A.tmps.getD 4 undef = .int .i64 O := hI.last 6 4 rfl
    go_wp2_with fail
    refine ret_mc3' rfl a2 hres hI.defers a3 a4 ?_
    rw [← HM.out, ← HQ.out]
    exact ⟨rfl, hg'.ow, hg'.but⟩
theorem l7Run_spec (hv : v = m.val x y) (h : Ow base w x y m) (hok : m.ok = true) : Calls Tryz.prog 35 #[v] w fun e w' => Ran base w w' e x y m.exec := by
  unfold Mc.exec
  cases hi : (m.h || m.s)
  · rw [if_neg (by decide)]
    by_cases hz : m.size' = 0
    · rw [if_pos hz]; exact l7Run_stuck hv h hok hi hz
    · rw [if_neg hz]
      have hc : 0 ≤ m.code ∧ m.code < 31 := by
        by_cases h : 0 ≤ m.code ∧ m.code < 31
        · exact h
        · exact absurd (by unfold Mc.size'; rw [size_no _ h]) hz
      obtain ⟨k, hk⟩ : ∃ k : Nat, m.code = (k : Int) := ⟨m.code.toNat, by omega⟩
      have hk31 : k < 31 := by omega
      rw [hk, Int.toNat_natCast]
      exact l7Run_does hv h hok hi k hk31 hk
  · rw [if_pos rfl]; exact l7Run_idle hv h hi
end
/-- What the model's Executed answers. -/
def AnsS (base : Nat) (w' : World) (e : Ending) (r : Mc × Int × Int) : Prop := ∃ v, e = .returned (.tuple #[v, .int .i64 r.2.1, .int .i64 r.2.2]) ∧ MOwn base w' v r.1
theorem executed_spec (v : Value) (m : Mc) (w : World) (hm : MSl w v m) :
    Calls Tryz.prog 8 #[v] w fun e w' => AnsS w.heap.size w' e m.execd ∧ Below w.heap.size w w' := by
  obtain ⟨vr, va, hv, hr, ha⟩ := hm
  cases hok : m.ok
  · have e : m.execd = (Mc.nul, 0, -1) := by simp [Mc.execd, hok]
    rw [e]
    go_enter Tryz.func8, Tryz.ntmps8
    go_wp2_with (first
      | (refine box_m rfl rfl hv ?_; intro w0 r0 hB0)
      | (refine al_mc rfl rfl ?_; intro w1 z1 hB1; have r1 := r0.below hB1; have hB2 := hB0.trans (hB1.mono hB0.size); have l0 := r0.lt)
      | (refine ld_mc rfl rfl rfl r1 ?_)
      | (go_at_call 10; refine (machineOk_spec _ m _ ⟨vr, va, rfl, hr.below hB2, ha.below hB2⟩).mono ?_; rintro e w2 ⟨rfl, hb2⟩; rw [hok]; have hB3 := hB2.trans (hb2.mono hB2.size); have z2 := z1.below hb2)
      | (refine bd_nul rfl rfl ?_)
      | (refine st_mc rfl rfl rfl rfl z2 rfl rfl ?_; intro w6 r6 o6 s6))
    refine ret_mc3' rfl rfl r6 rfl rfl rfl ?_
    exact ⟨⟨_, rfl, nul_own _ _⟩, below_onto hB3 o6 (by omega)⟩
  · have e : m.execd = m.exec := by simp [Mc.execd, hok]
    rw [e]
    obtain ⟨r, HR⟩ : ∃ r, Hid (r = m.exec) := ⟨_, show _ = _ from rfl⟩
    rw [← HR.out]
    clear e
    have hR := Mc.right hok
    have hR1 := hR.rom
    have hR2 : Hid (m.ram.length = 64) := hR.ram
    go_enter Tryz.func8, Tryz.ntmps8
    go_wp2_with (first
      | (refine box_m rfl rfl hv ?_; intro w0 r0 hB0)
      | (refine al_mc rfl rfl ?_; intro w1 z1 hB1; have r1 := r0.below hB1; have hB2 := hB0.trans (hB1.mono hB0.size); have l0 := r0.lt; have lz := z1.lt)
      | (refine ld_mc rfl rfl rfl r1 ?_)
      | (go_at_call 10; refine (machineOk_spec _ m _ ⟨vr, va, rfl, hr.below hB2, ha.below hB2⟩).mono ?_; rintro e w2 ⟨rfl, hb2⟩; rw [hok]; have hB3 := hB2.trans (hb2.mono hB2.size); have z2 := z1.below hb2; replace r1 := r1.below hb2)
      | (go_at_call 36; refine (l6Copy_spec _ m _ ⟨vr, va, rfl, hr.below hB3, ha.below hB3⟩ (by omega) (by have := hR2.out; omega)).mono ?_; rintro e w3 ⟨v3, rfl, ⟨x3, y3, rfl, hx3, hy3, ha3⟩, hb3⟩; have hB4 := hB3.trans (hb3.mono hB3.size); have z3 := z2.below hb3; have s23 := hb3.size; have l2 := z2.lt; have hw3 : Ow w2.heap.size w3 x3 y3 m := ⟨hx3, hy3, ha3, s23⟩; obtain ⟨g, hg, hgl⟩ := ram_block hy3 hok; have hg2 := (hy3.lt _ hg).1)
      | (go_at_call 35; refine (l7Run_spec rfl hw3 hok).mono ?_; rintro e w4 ⟨rfl, h4, hb4⟩; rw [← HR.out] at h4 ⊢; have z4 := hb4.row hg z3 (by omega); have hB5 : Below w.heap.size w w4 := below_onto hB4 (hb4 g hg) (by have := hB3.size; omega))
      | (refine st_mc rfl rfl rfl rfl z4 (one_own h4.hx) (one_own h4.hy) ?_; intro w6 r6 o6 s6))
    refine ret_mc3' rfl rfl r6 rfl rfl rfl ?_
    have h6 := h4.at o6 (fun e => by have := (h4.hx.lt _ e).1; omega) (fun e => by have := (h4.hy.lt _ e).1; omega)
    exact ⟨⟨_, rfl, x3, y3, rfl, h6.hx.mono (by have := hB3.size; omega), h6.hy.mono (by have := hB3.size; omega), h6.ap⟩, below_onto hB5 o6 (by omega)⟩
end Go.Proofs.YtocofjimkfffeaaGreatDoor.Mem
