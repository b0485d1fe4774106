/-
  The model's operations, one by one: each does what the document's line tells.
-/
import Derived.Test.YtmbncgeiaijnpaaGreatDoorSp2
namespace Go.Proofs.YtmbncgeiaijnpaaGreatDoor.Mem
open Go.ChangeShapes Go.WideShapes Go.RowKit Base Num Slc Rw Tmr Srl Rom RomOf Opl Reg
set_option linter.unusedVariables false
set_option linter.unusedSimpArgs false
section
variable {base : Nat} {w : World} {x y v : Value} {m : Mc}

/-- What l7Do answers. -/
def Did (base : Nat) (w w' : World) (e : Ending) (x y : Value) (r : Mc × Int) : Prop := e = .returned (.tuple #[r.1.val x y, .int .i64 r.2]) ∧ Ow base w' x y r.1 ∧ But y w w'
set_option maxRecDepth 100000 in
set_option maxHeartbeats 1000000 in
theorem l7Do_0 (hv : v = m.val x y) (h : Ow base w x y m) (hok : m.ok = true) (n : Int) (hn : bok n = true) :
    Calls Tryz.prog 108 #[v, .int .i64 0, .int .i64 n] w fun e w' => Did base w w' e x y (m.does n 0) := by
  go_enter Tryz.func108, Tryz.ntmps108
  go_wp2_with (first
    | (refine box_m rfl rfl hv ?_; intro w0 r0 hB0)
    | (refine al_mc rfl rfl ?_; intro w1 z1 hB1; have r1 := r0.below hB1; have hB2 := hB0.trans (hB1.mono hB0.size); have l0 := r0.lt; have lz := z1.lt; have h1 := h.below hB2)
    | (refine ld_mc rfl rfl rfl r1 ?_)
    | (refine st_mc rfl rfl rfl rfl z1 (one_own h.hx) (one_own h.hy) ?_; intro w6 r6 o6 s6))
  refine ret_mc2 rfl rfl r6 rfl rfl ?_
  have hB6 := below_onto hB2 o6 (by omega)
  exact ⟨rfl, (h.below hB6).as rfl rfl, .of hB6⟩
set_option maxRecDepth 100000 in
set_option maxHeartbeats 1000000 in
theorem l7Do_1 (hv : v = m.val x y) (h : Ow base w x y m) (hok : m.ok = true) (n : Int) (hn : bok n = true) :
    Calls Tryz.prog 108 #[v, .int .i64 1, .int .i64 n] w fun e w' => Did base w w' e x y (m.does n 1) := by
  go_enter Tryz.func108, Tryz.ntmps108
  go_wp2_with (first
    | (refine box_m rfl rfl hv ?_; intro w0 r0 hB0)
    | (refine al_mc rfl rfl ?_; intro w1 z1 hB1; have r1 := r0.below hB1; have hB2 := hB0.trans (hB1.mono hB0.size); have l0 := r0.lt; have lz := z1.lt; have h1 := h.below hB2)
    | (refine st_num (m' := (m.does n 1).1) rfl rfl rfl rfl r1 rfl rfl ?_; intro w2 r2 o2 s2; have z2 := z1.onto o2 (by omega); have hB3 := below_onto hB2 o2 (by omega))
    | (refine ld_mc rfl rfl rfl r2 ?_)
    | (refine st_mc rfl rfl rfl rfl z2 (one_own h.hx) (one_own h.hy) ?_; intro w6 r6 o6 s6))
  refine ret_mc2 rfl rfl r6 rfl rfl ?_
  have hB6 := below_onto hB3 o6 (by omega)
  exact ⟨rfl, (h.below hB6).as rfl rfl, .of hB6⟩
set_option maxRecDepth 100000 in
set_option maxHeartbeats 1000000 in
theorem l7Do_2 (hv : v = m.val x y) (h : Ow base w x y m) (hok : m.ok = true) (n : Int) (hn : bok n = true) :
    Calls Tryz.prog 108 #[v, .int .i64 2, .int .i64 n] w fun e w' => Did base w w' e x y (m.does n 2) := by
  go_enter Tryz.func108, Tryz.ntmps108
  go_wp2_with (first
    | (refine box_m rfl rfl hv ?_; intro w0 r0 hB0)
    | (refine al_mc rfl rfl ?_; intro w1 z1 hB1; have r1 := r0.below hB1; have hB2 := hB0.trans (hB1.mono hB0.size); have l0 := r0.lt; have lz := z1.lt; have h1 := h.below hB2)
    | (refine st_num (m' := (m.does n 2).1) rfl rfl rfl rfl r1 rfl rfl ?_; intro w2 r2 o2 s2; have z2 := z1.onto o2 (by omega); have hB3 := below_onto hB2 o2 (by omega))
    | (refine ld_mc rfl rfl rfl r2 ?_)
    | (refine st_mc rfl rfl rfl rfl z2 (one_own h.hx) (one_own h.hy) ?_; intro w6 r6 o6 s6))
  refine ret_mc2 rfl rfl r6 rfl rfl ?_
  have hB6 := below_onto hB3 o6 (by omega)
  exact ⟨rfl, (h.below hB6).as rfl rfl, .of hB6⟩
set_option maxRecDepth 100000 in
set_option maxHeartbeats 1000000 in
theorem l7Do_3 (hv : v = m.val x y) (h : Ow base w x y m) (hok : m.ok = true) (n : Int) (hn : bok n = true) :
    Calls Tryz.prog 108 #[v, .int .i64 3, .int .i64 n] w fun e w' => Did base w w' e x y (m.does n 3) := by
  go_enter Tryz.func108, Tryz.ntmps108
  go_wp2_with (first
    | (refine box_m rfl rfl hv ?_; intro w0 r0 hB0)
    | (refine al_mc rfl rfl ?_; intro w1 z1 hB1; have r1 := r0.below hB1; have hB2 := hB0.trans (hB1.mono hB0.size); have l0 := r0.lt; have lz := z1.lt; have h1 := h.below hB2; have kc := (cw r1).b)
    | (refine st_num (m' := (m.does n 3).1) rfl rfl rfl rfl r1 rfl rfl ?_; intro w2 r2 o2 s2; have z2 := z1.onto o2 (by omega); have hB3 := below_onto hB2 o2 (by omega))
    | (refine ld_mc rfl rfl rfl r2 ?_)
    | (refine st_mc rfl rfl rfl rfl z2 (one_own h.hx) (one_own h.hy) ?_; intro w6 r6 o6 s6))
  refine ret_mc2 rfl rfl r6 rfl rfl ?_
  have hB6 := below_onto hB3 o6 (by omega)
  exact ⟨rfl, (h.below hB6).as rfl rfl, .of hB6⟩
set_option maxRecDepth 100000 in
set_option maxHeartbeats 1000000 in
theorem l7Do_4 (hv : v = m.val x y) (h : Ow base w x y m) (hok : m.ok = true) (n : Int) (hn : bok n = true) :
    Calls Tryz.prog 108 #[v, .int .i64 4, .int .i64 n] w fun e w' => Did base w w' e x y (m.does n 4) := by
  go_enter Tryz.func108, Tryz.ntmps108
  go_wp2_with (first
    | (refine box_m rfl rfl hv ?_; intro w0 r0 hB0)
    | (refine al_mc rfl rfl ?_; intro w1 z1 hB1; have r1 := r0.below hB1; have hB2 := hB0.trans (hB1.mono hB0.size); have l0 := r0.lt; have lz := z1.lt; have h1 := h.below hB2; have kc := (cw r1).a)
    | (refine st_num (m' := (m.does n 4).1) rfl rfl rfl rfl r1 rfl rfl ?_; intro w2 r2 o2 s2; have z2 := z1.onto o2 (by omega); have hB3 := below_onto hB2 o2 (by omega))
    | (refine ld_mc rfl rfl rfl r2 ?_)
    | (refine st_mc rfl rfl rfl rfl z2 (one_own h.hx) (one_own h.hy) ?_; intro w6 r6 o6 s6))
  refine ret_mc2 rfl rfl r6 rfl rfl ?_
  have hB6 := below_onto hB3 o6 (by omega)
  exact ⟨rfl, (h.below hB6).as rfl rfl, .of hB6⟩
set_option maxRecDepth 100000 in
set_option maxHeartbeats 1000000 in
theorem l7Do_27 (hv : v = m.val x y) (h : Ow base w x y m) (hok : m.ok = true) (n : Int) (hn : bok n = true) :
    Calls Tryz.prog 108 #[v, .int .i64 27, .int .i64 n] w fun e w' => Did base w w' e x y (m.does n 27) := by
  go_enter Tryz.func108, Tryz.ntmps108
  go_wp2_with (first
    | (refine box_m rfl rfl hv ?_; intro w0 r0 hB0)
    | (refine al_mc rfl rfl ?_; intro w1 z1 hB1; have r1 := r0.below hB1; have hB2 := hB0.trans (hB1.mono hB0.size); have l0 := r0.lt; have lz := z1.lt; have h1 := h.below hB2)
    | (refine st_yes (m' := (m.does n 27).1) rfl rfl rfl rfl r1 rfl rfl ?_; intro w2 r2 o2 s2; have z2 := z1.onto o2 (by omega); have hB3 := below_onto hB2 o2 (by omega))
    | (refine ld_mc rfl rfl rfl r2 ?_)
    | (refine st_mc rfl rfl rfl rfl z2 (one_own h.hx) (one_own h.hy) ?_; intro w6 r6 o6 s6))
  refine ret_mc2 rfl rfl r6 rfl rfl ?_
  have hB6 := below_onto hB3 o6 (by omega)
  exact ⟨rfl, (h.below hB6).as rfl rfl, .of hB6⟩
set_option maxRecDepth 100000 in
set_option maxHeartbeats 1000000 in
theorem l7Do_28 (hv : v = m.val x y) (h : Ow base w x y m) (hok : m.ok = true) (n : Int) (hn : bok n = true) :
    Calls Tryz.prog 108 #[v, .int .i64 28, .int .i64 n] w fun e w' => Did base w w' e x y (m.does n 28) := by
  go_enter Tryz.func108, Tryz.ntmps108
  go_wp2_with (first
    | (refine box_m rfl rfl hv ?_; intro w0 r0 hB0)
    | (refine al_mc rfl rfl ?_; intro w1 z1 hB1; have r1 := r0.below hB1; have hB2 := hB0.trans (hB1.mono hB0.size); have l0 := r0.lt; have lz := z1.lt; have h1 := h.below hB2)
    | (refine st_yes (m' := (m.does n 28).1) rfl rfl rfl rfl r1 rfl rfl ?_; intro w2 r2 o2 s2; have z2 := z1.onto o2 (by omega); have hB3 := below_onto hB2 o2 (by omega))
    | (refine ld_mc rfl rfl rfl r2 ?_)
    | (refine st_mc rfl rfl rfl rfl z2 (one_own h.hx) (one_own h.hy) ?_; intro w6 r6 o6 s6))
  refine ret_mc2 rfl rfl r6 rfl rfl ?_
  have hB6 := below_onto hB3 o6 (by omega)
  exact ⟨rfl, (h.below hB6).as rfl rfl, .of hB6⟩
set_option maxRecDepth 100000 in
set_option maxHeartbeats 1000000 in
theorem l7Do_30 (hv : v = m.val x y) (h : Ow base w x y m) (hok : m.ok = true) (n : Int) (hn : bok n = true) :
    Calls Tryz.prog 108 #[v, .int .i64 30, .int .i64 n] w fun e w' => Did base w w' e x y (m.does n 30) := by
  go_enter Tryz.func108, Tryz.ntmps108
  go_wp2_with (first
    | (refine box_m rfl rfl hv ?_; intro w0 r0 hB0)
    | (refine al_mc rfl rfl ?_; intro w1 z1 hB1; have r1 := r0.below hB1; have hB2 := hB0.trans (hB1.mono hB0.size); have l0 := r0.lt; have lz := z1.lt; have h1 := h.below hB2)
    | (refine st_yes (m' := (m.does n 30).1) rfl rfl rfl rfl r1 rfl rfl ?_; intro w2 r2 o2 s2; have z2 := z1.onto o2 (by omega); have hB3 := below_onto hB2 o2 (by omega))
    | (refine ld_mc rfl rfl rfl r2 ?_)
    | (refine st_mc rfl rfl rfl rfl z2 (one_own h.hx) (one_own h.hy) ?_; intro w6 r6 o6 s6))
  refine ret_mc2 rfl rfl r6 rfl rfl ?_
  have hB6 := below_onto hB3 o6 (by omega)
  exact ⟨rfl, (h.below hB6).as rfl rfl, .of hB6⟩
set_option maxRecDepth 100000 in
set_option maxHeartbeats 1000000 in
theorem l7Do_5 (hv : v = m.val x y) (h : Ow base w x y m) (hok : m.ok = true) (n : Int) (hn : bok n = true) :
    Calls Tryz.prog 108 #[v, .int .i64 5, .int .i64 n] w fun e w' => Did base w w' e x y (m.does n 5) := by
  go_enter Tryz.func108, Tryz.ntmps108
  go_wp2_with (first
    | (refine box_m rfl rfl hv ?_; intro w0 r0 hB0)
    | (refine al_mc rfl rfl ?_; intro w1 z1 hB1; have r1 := r0.below hB1; have hB2 := hB0.trans (hB1.mono hB0.size); have l0 := r0.lt; have lz := z1.lt; have h1 := h.below hB2)
    | (refine ld_mc rfl rfl rfl r1 ?_)
    | (go_at_call 39; refine (l6Read_spec _ m _ _ h1.sl (Mc.right hok) (bok_iff.1 hn)).mono ?_; rintro e w2 ⟨rfl, hb2⟩; have hB3 := hB2.trans (hb2.mono hB2.size); have z2 := z1.below hb2; have r2 := r1.below hb2)
    | (refine st_num (m' := (m.does n 5).1) rfl rfl rfl rfl r2 rfl rfl ?_; intro w3 r3 o3 s3; have z3 := z2.onto o3 (by omega); have hB4 := below_onto hB3 o3 (by omega))
    | (refine ld_mc rfl rfl rfl r3 ?_)
    | (refine st_mc rfl rfl rfl rfl z3 (one_own h.hx) (one_own h.hy) ?_; intro w6 r6 o6 s6))
  refine ret_mc2 rfl rfl r6 rfl rfl ?_
  have hB6 := below_onto hB4 o6 (by omega)
  exact ⟨rfl, (h.below hB6).as rfl rfl, .of hB6⟩
set_option maxRecDepth 100000 in
set_option maxHeartbeats 1000000 in
theorem l7Do_7 (hv : v = m.val x y) (h : Ow base w x y m) (hok : m.ok = true) (n : Int) (hn : bok n = true) :
    Calls Tryz.prog 108 #[v, .int .i64 7, .int .i64 n] w fun e w' => Did base w w' e x y (m.does n 7) := by
  go_enter Tryz.func108, Tryz.ntmps108
  go_wp2_with (first
    | (refine box_m rfl rfl hv ?_; intro w0 r0 hB0)
    | (refine al_mc rfl rfl ?_; intro w1 z1 hB1; have r1 := r0.below hB1; have hB2 := hB0.trans (hB1.mono hB0.size); have l0 := r0.lt; have lz := z1.lt; have h1 := h.below hB2; have kc := (cw r1).b)
    | (refine ld_mc rfl rfl rfl r1 ?_)
    | (go_at_call 39; refine (l6Read_spec _ m _ _ h1.sl (Mc.right hok) (bok_iff.1 (okm.1 hok).b)).mono ?_; rintro e w2 ⟨rfl, hb2⟩; have hB3 := hB2.trans (hb2.mono hB2.size); have z2 := z1.below hb2; have r2 := r1.below hb2)
    | (refine st_num (m' := (m.does n 7).1) rfl rfl rfl rfl r2 rfl rfl ?_; intro w3 r3 o3 s3; have z3 := z2.onto o3 (by omega); have hB4 := below_onto hB3 o3 (by omega))
    | (refine ld_mc rfl rfl rfl r3 ?_)
    | (refine st_mc rfl rfl rfl rfl z3 (one_own h.hx) (one_own h.hy) ?_; intro w6 r6 o6 s6))
  refine ret_mc2 rfl rfl r6 rfl rfl ?_
  have hB6 := below_onto hB4 o6 (by omega)
  exact ⟨rfl, (h.below hB6).as rfl rfl, .of hB6⟩
set_option maxRecDepth 100000 in
set_option maxHeartbeats 1000000 in
theorem l7Do_6 (hv : v = m.val x y) (h : Ow base w x y m) (hok : m.ok = true) (n : Int) (hn : bok n = true) :
    Calls Tryz.prog 108 #[v, .int .i64 6, .int .i64 n] w fun e w' => Did base w w' e x y (m.does n 6) := by
  obtain ⟨g, hg, hgl⟩ := ram_block h.hy hok
  go_enter Tryz.func108, Tryz.ntmps108
  go_wp2_with (first
    | (refine box_m rfl rfl hv ?_; intro w0 r0 hB0)
    | (refine al_mc rfl rfl ?_; intro w1 z1 hB1; have r1 := r0.below hB1; have hB2 := hB0.trans (hB1.mono hB0.size); have l0 := r0.lt; have lz := z1.lt; have h1 := h.below hB2; have ka := (cw r1).a)
    | (refine ld_mc rfl rfl rfl r1 ?_)
    | (go_at_call 137; refine (l7Put_spec rfl h1 hok _ _ hn (okm.1 hok).a).mono ?_; rintro e w3 ⟨rfl, h3, hb3⟩; have z3 := hb3.row hg z1 (by omega))
    | (refine st_mc rfl rfl rfl rfl z3 (one_own h.hx) (one_own h.hy) ?_; intro w6 r6 o6 s6))
  refine ret_mc2 rfl rfl r6 rfl rfl ?_
  exact ⟨rfl, h3.at o6 (fun e => by have := (h.hx.lt _ e).2; omega) (fun e => by have := (h.hy.lt _ e).2; omega), ((But.of hB2).trans hb3).new o6 (by omega)⟩
set_option maxRecDepth 100000 in
set_option maxHeartbeats 1000000 in
theorem l7Do_8 (hv : v = m.val x y) (h : Ow base w x y m) (hok : m.ok = true) (n : Int) (hn : bok n = true) :
    Calls Tryz.prog 108 #[v, .int .i64 8, .int .i64 n] w fun e w' => Did base w w' e x y (m.does n 8) := by
  obtain ⟨g, hg, hgl⟩ := ram_block h.hy hok
  go_enter Tryz.func108, Tryz.ntmps108
  go_wp2_with (first
    | (refine box_m rfl rfl hv ?_; intro w0 r0 hB0)
    | (refine al_mc rfl rfl ?_; intro w1 z1 hB1; have r1 := r0.below hB1; have hB2 := hB0.trans (hB1.mono hB0.size); have l0 := r0.lt; have lz := z1.lt; have h1 := h.below hB2; have ka := (cw r1).a; have kb := (cw r1).b)
    | (refine ld_mc rfl rfl rfl r1 ?_)
    | (go_at_call 137; refine (l7Put_spec rfl h1 hok _ _ (okm.1 hok).b (okm.1 hok).a).mono ?_; rintro e w3 ⟨rfl, h3, hb3⟩; have z3 := hb3.row hg z1 (by omega))
    | (refine st_mc rfl rfl rfl rfl z3 (one_own h.hx) (one_own h.hy) ?_; intro w6 r6 o6 s6))
  refine ret_mc2 rfl rfl r6 rfl rfl ?_
  exact ⟨rfl, h3.at o6 (fun e => by have := (h.hx.lt _ e).2; omega) (fun e => by have := (h.hy.lt _ e).2; omega), ((But.of hB2).trans hb3).new o6 (by omega)⟩
set_option maxRecDepth 100000 in
set_option maxHeartbeats 1000000 in
theorem l7Do_25 (hv : v = m.val x y) (h : Ow base w x y m) (hok : m.ok = true) (n : Int) (hn : bok n = true) :
    Calls Tryz.prog 108 #[v, .int .i64 25, .int .i64 n] w fun e w' => Did base w w' e x y (m.does n 25) := by
  obtain ⟨g, hg, hgl⟩ := ram_block h.hy hok
  go_enter Tryz.func108, Tryz.ntmps108
  go_wp2_with (first
    | (refine box_m rfl rfl hv ?_; intro w0 r0 hB0)
    | (refine al_mc rfl rfl ?_; intro w1 z1 hB1; have r1 := r0.below hB1; have hB2 := hB0.trans (hB1.mono hB0.size); have l0 := r0.lt; have lz := z1.lt; have h1 := h.below hB2; have ka := (cw r1).a)
    | (refine ld_mc rfl rfl rfl r1 ?_)
    | (go_at_call 141; refine (l7Push_spec rfl h1 hok _ (okm.1 hok).a).mono ?_; rintro e w3 ⟨rfl, h3, hb3⟩; have z3 := hb3.row hg z1 (by omega))
    | (refine st_mc rfl rfl rfl rfl z3 (one_own h.hx) (one_own h.hy) ?_; intro w6 r6 o6 s6))
  refine ret_mc2 rfl rfl r6 rfl rfl ?_
  exact ⟨rfl, h3.at o6 (fun e => by have := (h.hx.lt _ e).2; omega) (fun e => by have := (h.hy.lt _ e).2; omega), ((But.of hB2).trans hb3).new o6 (by omega)⟩
set_option maxRecDepth 100000 in
set_option maxHeartbeats 1000000 in
theorem l7Do_9 (hv : v = m.val x y) (h : Ow base w x y m) (hok : m.ok = true) (n : Int) (hn : bok n = true) :
    Calls Tryz.prog 108 #[v, .int .i64 9, .int .i64 n] w fun e w' => Did base w w' e x y (m.does n 9) := by
  go_enter Tryz.func108, Tryz.ntmps108
  go_wp2_with (first
    | (refine box_m rfl rfl hv ?_; intro w0 r0 hB0)
    | (refine al_mc rfl rfl ?_; intro w1 z1 hB1; have r1 := r0.below hB1; have hB2 := hB0.trans (hB1.mono hB0.size); have l0 := r0.lt; have lz := z1.lt; have h1 := h.below hB2)
    | (refine ld_mc rfl rfl rfl r1 ?_)
    | (go_at_call 138; refine (l7Alu_9 rfl h1 n).mono ?_; rintro e w2 ⟨rfl, hb2⟩; have hB3 := hB2.trans (hb2.mono hB2.size); have z2 := z1.below hb2; have r2 := r1.below hb2)
    | (refine st_mc rfl rfl rfl rfl r2 (one_own h.hx) (one_own h.hy) ?_; intro w3 r3 o3 s3; have z3 := z2.onto o3 (by omega); have hB4 := below_onto hB3 o3 (by omega))
    | (refine ld_mc rfl rfl rfl r3 ?_)
    | (refine st_mc rfl rfl rfl rfl z3 (one_own h.hx) (one_own h.hy) ?_; intro w6 r6 o6 s6))
  refine ret_mc2 rfl rfl r6 rfl rfl ?_
  have hB6 := below_onto hB4 o6 (by omega)
  exact ⟨rfl, (h.below hB6).as rfl rfl, .of hB6⟩
set_option maxRecDepth 100000 in
set_option maxHeartbeats 1000000 in
theorem l7Do_10 (hv : v = m.val x y) (h : Ow base w x y m) (hok : m.ok = true) (n : Int) (hn : bok n = true) :
    Calls Tryz.prog 108 #[v, .int .i64 10, .int .i64 n] w fun e w' => Did base w w' e x y (m.does n 10) := by
  go_enter Tryz.func108, Tryz.ntmps108
  go_wp2_with (first
    | (refine box_m rfl rfl hv ?_; intro w0 r0 hB0)
    | (refine al_mc rfl rfl ?_; intro w1 z1 hB1; have r1 := r0.below hB1; have hB2 := hB0.trans (hB1.mono hB0.size); have l0 := r0.lt; have lz := z1.lt; have h1 := h.below hB2)
    | (refine ld_mc rfl rfl rfl r1 ?_)
    | (go_at_call 138; refine (l7Alu_10 rfl h1 n).mono ?_; rintro e w2 ⟨rfl, hb2⟩; have hB3 := hB2.trans (hb2.mono hB2.size); have z2 := z1.below hb2; have r2 := r1.below hb2)
    | (refine st_mc rfl rfl rfl rfl r2 (one_own h.hx) (one_own h.hy) ?_; intro w3 r3 o3 s3; have z3 := z2.onto o3 (by omega); have hB4 := below_onto hB3 o3 (by omega))
    | (refine ld_mc rfl rfl rfl r3 ?_)
    | (refine st_mc rfl rfl rfl rfl z3 (one_own h.hx) (one_own h.hy) ?_; intro w6 r6 o6 s6))
  refine ret_mc2 rfl rfl r6 rfl rfl ?_
  have hB6 := below_onto hB4 o6 (by omega)
  exact ⟨rfl, (h.below hB6).as rfl rfl, .of hB6⟩
set_option maxRecDepth 100000 in
set_option maxHeartbeats 1000000 in
theorem l7Do_11 (hv : v = m.val x y) (h : Ow base w x y m) (hok : m.ok = true) (n : Int) (hn : bok n = true) :
    Calls Tryz.prog 108 #[v, .int .i64 11, .int .i64 n] w fun e w' => Did base w w' e x y (m.does n 11) := by
  go_enter Tryz.func108, Tryz.ntmps108
  go_wp2_with (first
    | (refine box_m rfl rfl hv ?_; intro w0 r0 hB0)
    | (refine al_mc rfl rfl ?_; intro w1 z1 hB1; have r1 := r0.below hB1; have hB2 := hB0.trans (hB1.mono hB0.size); have l0 := r0.lt; have lz := z1.lt; have h1 := h.below hB2)
    | (refine ld_mc rfl rfl rfl r1 ?_)
    | (go_at_call 138; refine (l7Alu_11 rfl h1 n).mono ?_; rintro e w2 ⟨rfl, hb2⟩; have hB3 := hB2.trans (hb2.mono hB2.size); have z2 := z1.below hb2; have r2 := r1.below hb2)
    | (refine st_mc rfl rfl rfl rfl r2 (one_own h.hx) (one_own h.hy) ?_; intro w3 r3 o3 s3; have z3 := z2.onto o3 (by omega); have hB4 := below_onto hB3 o3 (by omega))
    | (refine ld_mc rfl rfl rfl r3 ?_)
    | (refine st_mc rfl rfl rfl rfl z3 (one_own h.hx) (one_own h.hy) ?_; intro w6 r6 o6 s6))
  refine ret_mc2 rfl rfl r6 rfl rfl ?_
  have hB6 := below_onto hB4 o6 (by omega)
  exact ⟨rfl, (h.below hB6).as rfl rfl, .of hB6⟩
set_option maxRecDepth 100000 in
set_option maxHeartbeats 1000000 in
theorem l7Do_12 (hv : v = m.val x y) (h : Ow base w x y m) (hok : m.ok = true) (n : Int) (hn : bok n = true) :
    Calls Tryz.prog 108 #[v, .int .i64 12, .int .i64 n] w fun e w' => Did base w w' e x y (m.does n 12) := by
  go_enter Tryz.func108, Tryz.ntmps108
  go_wp2_with (first
    | (refine box_m rfl rfl hv ?_; intro w0 r0 hB0)
    | (refine al_mc rfl rfl ?_; intro w1 z1 hB1; have r1 := r0.below hB1; have hB2 := hB0.trans (hB1.mono hB0.size); have l0 := r0.lt; have lz := z1.lt; have h1 := h.below hB2)
    | (refine ld_mc rfl rfl rfl r1 ?_)
    | (go_at_call 138; refine (l7Alu_12 rfl h1 n).mono ?_; rintro e w2 ⟨rfl, hb2⟩; have hB3 := hB2.trans (hb2.mono hB2.size); have z2 := z1.below hb2; have r2 := r1.below hb2)
    | (refine st_mc rfl rfl rfl rfl r2 (one_own h.hx) (one_own h.hy) ?_; intro w3 r3 o3 s3; have z3 := z2.onto o3 (by omega); have hB4 := below_onto hB3 o3 (by omega))
    | (refine ld_mc rfl rfl rfl r3 ?_)
    | (refine st_mc rfl rfl rfl rfl z3 (one_own h.hx) (one_own h.hy) ?_; intro w6 r6 o6 s6))
  refine ret_mc2 rfl rfl r6 rfl rfl ?_
  have hB6 := below_onto hB4 o6 (by omega)
  exact ⟨rfl, (h.below hB6).as rfl rfl, .of hB6⟩
set_option maxRecDepth 100000 in
set_option maxHeartbeats 1000000 in
theorem l7Do_13 (hv : v = m.val x y) (h : Ow base w x y m) (hok : m.ok = true) (n : Int) (hn : bok n = true) :
    Calls Tryz.prog 108 #[v, .int .i64 13, .int .i64 n] w fun e w' => Did base w w' e x y (m.does n 13) := by
  go_enter Tryz.func108, Tryz.ntmps108
  go_wp2_with (first
    | (refine box_m rfl rfl hv ?_; intro w0 r0 hB0)
    | (refine al_mc rfl rfl ?_; intro w1 z1 hB1; have r1 := r0.below hB1; have hB2 := hB0.trans (hB1.mono hB0.size); have l0 := r0.lt; have lz := z1.lt; have h1 := h.below hB2)
    | (refine ld_mc rfl rfl rfl r1 ?_)
    | (go_at_call 138; refine (l7Alu_13 rfl h1 n).mono ?_; rintro e w2 ⟨rfl, hb2⟩; have hB3 := hB2.trans (hb2.mono hB2.size); have z2 := z1.below hb2; have r2 := r1.below hb2)
    | (refine st_mc rfl rfl rfl rfl r2 (one_own h.hx) (one_own h.hy) ?_; intro w3 r3 o3 s3; have z3 := z2.onto o3 (by omega); have hB4 := below_onto hB3 o3 (by omega))
    | (refine ld_mc rfl rfl rfl r3 ?_)
    | (refine st_mc rfl rfl rfl rfl z3 (one_own h.hx) (one_own h.hy) ?_; intro w6 r6 o6 s6))
  refine ret_mc2 rfl rfl r6 rfl rfl ?_
  have hB6 := below_onto hB4 o6 (by omega)
  exact ⟨rfl, (h.below hB6).as rfl rfl, .of hB6⟩
set_option maxRecDepth 100000 in
set_option maxHeartbeats 1000000 in
theorem l7Do_14 (hv : v = m.val x y) (h : Ow base w x y m) (hok : m.ok = true) (n : Int) (hn : bok n = true) :
    Calls Tryz.prog 108 #[v, .int .i64 14, .int .i64 n] w fun e w' => Did base w w' e x y (m.does n 14) := by
  go_enter Tryz.func108, Tryz.ntmps108
  go_wp2_with (first
    | (refine box_m rfl rfl hv ?_; intro w0 r0 hB0)
    | (refine al_mc rfl rfl ?_; intro w1 z1 hB1; have r1 := r0.below hB1; have hB2 := hB0.trans (hB1.mono hB0.size); have l0 := r0.lt; have lz := z1.lt; have h1 := h.below hB2)
    | (refine ld_mc rfl rfl rfl r1 ?_)
    | (go_at_call 138; refine (l7Alu_14 rfl h1 n).mono ?_; rintro e w2 ⟨rfl, hb2⟩; have hB3 := hB2.trans (hb2.mono hB2.size); have z2 := z1.below hb2; have r2 := r1.below hb2)
    | (refine st_mc rfl rfl rfl rfl r2 (one_own h.hx) (one_own h.hy) ?_; intro w3 r3 o3 s3; have z3 := z2.onto o3 (by omega); have hB4 := below_onto hB3 o3 (by omega))
    | (refine ld_mc rfl rfl rfl r3 ?_)
    | (refine st_mc rfl rfl rfl rfl z3 (one_own h.hx) (one_own h.hy) ?_; intro w6 r6 o6 s6))
  refine ret_mc2 rfl rfl r6 rfl rfl ?_
  have hB6 := below_onto hB4 o6 (by omega)
  exact ⟨rfl, (h.below hB6).as rfl rfl, .of hB6⟩
set_option maxRecDepth 100000 in
set_option maxHeartbeats 1000000 in
theorem l7Do_15 (hv : v = m.val x y) (h : Ow base w x y m) (hok : m.ok = true) (n : Int) (hn : bok n = true) :
    Calls Tryz.prog 108 #[v, .int .i64 15, .int .i64 n] w fun e w' => Did base w w' e x y (m.does n 15) := by
  go_enter Tryz.func108, Tryz.ntmps108
  go_wp2_with (first
    | (refine box_m rfl rfl hv ?_; intro w0 r0 hB0)
    | (refine al_mc rfl rfl ?_; intro w1 z1 hB1; have r1 := r0.below hB1; have hB2 := hB0.trans (hB1.mono hB0.size); have l0 := r0.lt; have lz := z1.lt; have h1 := h.below hB2)
    | (refine ld_mc rfl rfl rfl r1 ?_)
    | (go_at_call 138; refine (l7Alu_15 rfl h1 n).mono ?_; rintro e w2 ⟨rfl, hb2⟩; have hB3 := hB2.trans (hb2.mono hB2.size); have z2 := z1.below hb2; have r2 := r1.below hb2)
    | (refine st_mc rfl rfl rfl rfl r2 (one_own h.hx) (one_own h.hy) ?_; intro w3 r3 o3 s3; have z3 := z2.onto o3 (by omega); have hB4 := below_onto hB3 o3 (by omega))
    | (refine ld_mc rfl rfl rfl r3 ?_)
    | (refine st_mc rfl rfl rfl rfl z3 (one_own h.hx) (one_own h.hy) ?_; intro w6 r6 o6 s6))
  refine ret_mc2 rfl rfl r6 rfl rfl ?_
  have hB6 := below_onto hB4 o6 (by omega)
  exact ⟨rfl, (h.below hB6).as rfl rfl, .of hB6⟩
set_option maxRecDepth 100000 in
set_option maxHeartbeats 1000000 in
theorem l7Do_16 (hv : v = m.val x y) (h : Ow base w x y m) (hok : m.ok = true) (n : Int) (hn : bok n = true) :
    Calls Tryz.prog 108 #[v, .int .i64 16, .int .i64 n] w fun e w' => Did base w w' e x y (m.does n 16) := by
  go_enter Tryz.func108, Tryz.ntmps108
  go_wp2_with (first
    | (refine box_m rfl rfl hv ?_; intro w0 r0 hB0)
    | (refine al_mc rfl rfl ?_; intro w1 z1 hB1; have r1 := r0.below hB1; have hB2 := hB0.trans (hB1.mono hB0.size); have l0 := r0.lt; have lz := z1.lt; have h1 := h.below hB2)
    | (refine ld_mc rfl rfl rfl r1 ?_)
    | (go_at_call 138; refine (l7Alu_16 rfl h1 n).mono ?_; rintro e w2 ⟨rfl, hb2⟩; have hB3 := hB2.trans (hb2.mono hB2.size); have z2 := z1.below hb2; have r2 := r1.below hb2)
    | (refine st_mc rfl rfl rfl rfl r2 (one_own h.hx) (one_own h.hy) ?_; intro w3 r3 o3 s3; have z3 := z2.onto o3 (by omega); have hB4 := below_onto hB3 o3 (by omega))
    | (refine ld_mc rfl rfl rfl r3 ?_)
    | (refine st_mc rfl rfl rfl rfl z3 (one_own h.hx) (one_own h.hy) ?_; intro w6 r6 o6 s6))
  refine ret_mc2 rfl rfl r6 rfl rfl ?_
  have hB6 := below_onto hB4 o6 (by omega)
  exact ⟨rfl, (h.below hB6).as rfl rfl, .of hB6⟩
set_option maxRecDepth 100000 in
set_option maxHeartbeats 1000000 in
theorem l7Do_17 (hv : v = m.val x y) (h : Ow base w x y m) (hok : m.ok = true) (n : Int) (hn : bok n = true) :
    Calls Tryz.prog 108 #[v, .int .i64 17, .int .i64 n] w fun e w' => Did base w w' e x y (m.does n 17) := by
  go_enter Tryz.func108, Tryz.ntmps108
  go_wp2_with (first
    | (refine box_m rfl rfl hv ?_; intro w0 r0 hB0)
    | (refine al_mc rfl rfl ?_; intro w1 z1 hB1; have r1 := r0.below hB1; have hB2 := hB0.trans (hB1.mono hB0.size); have l0 := r0.lt; have lz := z1.lt; have h1 := h.below hB2)
    | (refine ld_mc rfl rfl rfl r1 ?_)
    | (go_at_call 139; refine (l7CountB_17 rfl h1).mono ?_; rintro e w2 ⟨rfl, hb2⟩; have hB3 := hB2.trans (hb2.mono hB2.size); have z2 := z1.below hb2; have r2 := r1.below hb2)
    | (refine st_mc rfl rfl rfl rfl r2 (one_own h.hx) (one_own h.hy) ?_; intro w3 r3 o3 s3; have z3 := z2.onto o3 (by omega); have hB4 := below_onto hB3 o3 (by omega))
    | (refine ld_mc rfl rfl rfl r3 ?_)
    | (refine st_mc rfl rfl rfl rfl z3 (one_own h.hx) (one_own h.hy) ?_; intro w6 r6 o6 s6))
  refine ret_mc2 rfl rfl r6 rfl rfl ?_
  have hB6 := below_onto hB4 o6 (by omega)
  exact ⟨rfl, (h.below hB6).as rfl rfl, .of hB6⟩
set_option maxRecDepth 100000 in
set_option maxHeartbeats 1000000 in
theorem l7Do_18 (hv : v = m.val x y) (h : Ow base w x y m) (hok : m.ok = true) (n : Int) (hn : bok n = true) :
    Calls Tryz.prog 108 #[v, .int .i64 18, .int .i64 n] w fun e w' => Did base w w' e x y (m.does n 18) := by
  go_enter Tryz.func108, Tryz.ntmps108
  go_wp2_with (first
    | (refine box_m rfl rfl hv ?_; intro w0 r0 hB0)
    | (refine al_mc rfl rfl ?_; intro w1 z1 hB1; have r1 := r0.below hB1; have hB2 := hB0.trans (hB1.mono hB0.size); have l0 := r0.lt; have lz := z1.lt; have h1 := h.below hB2)
    | (refine ld_mc rfl rfl rfl r1 ?_)
    | (go_at_call 139; refine (l7CountB_18 rfl h1).mono ?_; rintro e w2 ⟨rfl, hb2⟩; have hB3 := hB2.trans (hb2.mono hB2.size); have z2 := z1.below hb2; have r2 := r1.below hb2)
    | (refine st_mc rfl rfl rfl rfl r2 (one_own h.hx) (one_own h.hy) ?_; intro w3 r3 o3 s3; have z3 := z2.onto o3 (by omega); have hB4 := below_onto hB3 o3 (by omega))
    | (refine ld_mc rfl rfl rfl r3 ?_)
    | (refine st_mc rfl rfl rfl rfl z3 (one_own h.hx) (one_own h.hy) ?_; intro w6 r6 o6 s6))
  refine ret_mc2 rfl rfl r6 rfl rfl ?_
  have hB6 := below_onto hB4 o6 (by omega)
  exact ⟨rfl, (h.below hB6).as rfl rfl, .of hB6⟩
set_option maxRecDepth 100000 in
set_option maxHeartbeats 1000000 in
theorem l7Do_19 (hv : v = m.val x y) (h : Ow base w x y m) (hok : m.ok = true) (n : Int) (hn : bok n = true) :
    Calls Tryz.prog 108 #[v, .int .i64 19, .int .i64 n] w fun e w' => Did base w w' e x y (m.does n 19) := by
  obtain ⟨g, hg, hgl⟩ := ram_block h.hy hok
  go_enter Tryz.func108, Tryz.ntmps108
  go_wp2_with (first
    | (refine box_m rfl rfl hv ?_; intro w0 r0 hB0)
    | (refine al_mc rfl rfl ?_; intro w1 z1 hB1; have r1 := r0.below hB1; have hB2 := hB0.trans (hB1.mono hB0.size); have l0 := r0.lt; have lz := z1.lt; have h1 := h.below hB2)
    | (refine ld_mc rfl rfl rfl r1 ?_)
    | (go_at_call 140; refine (l7Jump_19 rfl h1 hok _).mono ?_; rintro e w3 ⟨rfl, h3, hb3⟩; have z3 := hb3.row hg z1 (by omega))
    | (refine st_mc rfl rfl rfl rfl z3 (one_own h.hx) (one_own h.hy) ?_; intro w6 r6 o6 s6))
  refine ret_mc2 rfl rfl r6 rfl rfl ?_
  exact ⟨rfl, h3.at o6 (fun e => by have := (h.hx.lt _ e).2; omega) (fun e => by have := (h.hy.lt _ e).2; omega), ((But.of hB2).trans hb3).new o6 (by omega)⟩
set_option maxRecDepth 100000 in
set_option maxHeartbeats 1000000 in
theorem l7Do_20_t (hv : v = m.val x y) (h : Ow base w x y m) (hok : m.ok = true) (n : Int) (hn : bok n = true) (hc : m.z = true) :
    Calls Tryz.prog 108 #[v, .int .i64 20, .int .i64 n] w fun e w' => Did base w w' e x y (m.does n 20) := by
  obtain ⟨g, hg, hgl⟩ := ram_block h.hy hok
  have HC : Hid (m.z = true) := hc
  clear hc
  go_enter Tryz.func108, Tryz.ntmps108
  go_wp2_with (first
    | (refine box_m rfl rfl hv ?_; intro w0 r0 hB0)
    | (refine al_mc rfl rfl ?_; intro w1 z1 hB1; have r1 := r0.below hB1; have hB2 := hB0.trans (hB1.mono hB0.size); have l0 := r0.lt; have lz := z1.lt; have h1 := h.below hB2)
    | (refine ld_mc rfl rfl rfl r1 ?_)
    | (go_at_call 140; refine (l7Jump_20_t rfl h1 hok _ HC.out).mono ?_; rintro e w3 ⟨rfl, h3, hb3⟩; have z3 := hb3.row hg z1 (by omega))
    | (refine st_mc rfl rfl rfl rfl z3 (one_own h.hx) (one_own h.hy) ?_; intro w6 r6 o6 s6))
  refine ret_mc2 rfl rfl r6 rfl rfl ?_
  exact ⟨rfl, h3.at o6 (fun e => by have := (h.hx.lt _ e).2; omega) (fun e => by have := (h.hy.lt _ e).2; omega), ((But.of hB2).trans hb3).new o6 (by omega)⟩
set_option maxRecDepth 100000 in
set_option maxHeartbeats 1000000 in
theorem l7Do_20_f (hv : v = m.val x y) (h : Ow base w x y m) (hok : m.ok = true) (n : Int) (hn : bok n = true) (hc : m.z = false) :
    Calls Tryz.prog 108 #[v, .int .i64 20, .int .i64 n] w fun e w' => Did base w w' e x y (m.does n 20) := by
  obtain ⟨g, hg, hgl⟩ := ram_block h.hy hok
  have HC : Hid (m.z = false) := hc
  clear hc
  go_enter Tryz.func108, Tryz.ntmps108
  go_wp2_with (first
    | (refine box_m rfl rfl hv ?_; intro w0 r0 hB0)
    | (refine al_mc rfl rfl ?_; intro w1 z1 hB1; have r1 := r0.below hB1; have hB2 := hB0.trans (hB1.mono hB0.size); have l0 := r0.lt; have lz := z1.lt; have h1 := h.below hB2)
    | (refine ld_mc rfl rfl rfl r1 ?_)
    | (go_at_call 140; refine (l7Jump_20_f rfl h1 hok _ HC.out).mono ?_; rintro e w3 ⟨rfl, h3, hb3⟩; have z3 := hb3.row hg z1 (by omega))
    | (refine st_mc rfl rfl rfl rfl z3 (one_own h.hx) (one_own h.hy) ?_; intro w6 r6 o6 s6))
  refine ret_mc2 rfl rfl r6 rfl rfl ?_
  exact ⟨rfl, h3.at o6 (fun e => by have := (h.hx.lt _ e).2; omega) (fun e => by have := (h.hy.lt _ e).2; omega), ((But.of hB2).trans hb3).new o6 (by omega)⟩
set_option maxRecDepth 100000 in
set_option maxHeartbeats 1000000 in
theorem l7Do_21_t (hv : v = m.val x y) (h : Ow base w x y m) (hok : m.ok = true) (n : Int) (hn : bok n = true) (hc : m.z = true) :
    Calls Tryz.prog 108 #[v, .int .i64 21, .int .i64 n] w fun e w' => Did base w w' e x y (m.does n 21) := by
  obtain ⟨g, hg, hgl⟩ := ram_block h.hy hok
  have HC : Hid (m.z = true) := hc
  clear hc
  go_enter Tryz.func108, Tryz.ntmps108
  go_wp2_with (first
    | (refine box_m rfl rfl hv ?_; intro w0 r0 hB0)
    | (refine al_mc rfl rfl ?_; intro w1 z1 hB1; have r1 := r0.below hB1; have hB2 := hB0.trans (hB1.mono hB0.size); have l0 := r0.lt; have lz := z1.lt; have h1 := h.below hB2)
    | (refine ld_mc rfl rfl rfl r1 ?_)
    | (go_at_call 140; refine (l7Jump_21_t rfl h1 hok _ HC.out).mono ?_; rintro e w3 ⟨rfl, h3, hb3⟩; have z3 := hb3.row hg z1 (by omega))
    | (refine st_mc rfl rfl rfl rfl z3 (one_own h.hx) (one_own h.hy) ?_; intro w6 r6 o6 s6))
  refine ret_mc2 rfl rfl r6 rfl rfl ?_
  exact ⟨rfl, h3.at o6 (fun e => by have := (h.hx.lt _ e).2; omega) (fun e => by have := (h.hy.lt _ e).2; omega), ((But.of hB2).trans hb3).new o6 (by omega)⟩
set_option maxRecDepth 100000 in
set_option maxHeartbeats 1000000 in
theorem l7Do_21_f (hv : v = m.val x y) (h : Ow base w x y m) (hok : m.ok = true) (n : Int) (hn : bok n = true) (hc : m.z = false) :
    Calls Tryz.prog 108 #[v, .int .i64 21, .int .i64 n] w fun e w' => Did base w w' e x y (m.does n 21) := by
  obtain ⟨g, hg, hgl⟩ := ram_block h.hy hok
  have HC : Hid (m.z = false) := hc
  clear hc
  go_enter Tryz.func108, Tryz.ntmps108
  go_wp2_with (first
    | (refine box_m rfl rfl hv ?_; intro w0 r0 hB0)
    | (refine al_mc rfl rfl ?_; intro w1 z1 hB1; have r1 := r0.below hB1; have hB2 := hB0.trans (hB1.mono hB0.size); have l0 := r0.lt; have lz := z1.lt; have h1 := h.below hB2)
    | (refine ld_mc rfl rfl rfl r1 ?_)
    | (go_at_call 140; refine (l7Jump_21_f rfl h1 hok _ HC.out).mono ?_; rintro e w3 ⟨rfl, h3, hb3⟩; have z3 := hb3.row hg z1 (by omega))
    | (refine st_mc rfl rfl rfl rfl z3 (one_own h.hx) (one_own h.hy) ?_; intro w6 r6 o6 s6))
  refine ret_mc2 rfl rfl r6 rfl rfl ?_
  exact ⟨rfl, h3.at o6 (fun e => by have := (h.hx.lt _ e).2; omega) (fun e => by have := (h.hy.lt _ e).2; omega), ((But.of hB2).trans hb3).new o6 (by omega)⟩
set_option maxRecDepth 100000 in
set_option maxHeartbeats 1000000 in
theorem l7Do_22_t (hv : v = m.val x y) (h : Ow base w x y m) (hok : m.ok = true) (n : Int) (hn : bok n = true) (hc : m.c = true) :
    Calls Tryz.prog 108 #[v, .int .i64 22, .int .i64 n] w fun e w' => Did base w w' e x y (m.does n 22) := by
  obtain ⟨g, hg, hgl⟩ := ram_block h.hy hok
  have HC : Hid (m.c = true) := hc
  clear hc
  go_enter Tryz.func108, Tryz.ntmps108
  go_wp2_with (first
    | (refine box_m rfl rfl hv ?_; intro w0 r0 hB0)
    | (refine al_mc rfl rfl ?_; intro w1 z1 hB1; have r1 := r0.below hB1; have hB2 := hB0.trans (hB1.mono hB0.size); have l0 := r0.lt; have lz := z1.lt; have h1 := h.below hB2)
    | (refine ld_mc rfl rfl rfl r1 ?_)
    | (go_at_call 140; refine (l7Jump_22_t rfl h1 hok _ HC.out).mono ?_; rintro e w3 ⟨rfl, h3, hb3⟩; have z3 := hb3.row hg z1 (by omega))
    | (refine st_mc rfl rfl rfl rfl z3 (one_own h.hx) (one_own h.hy) ?_; intro w6 r6 o6 s6))
  refine ret_mc2 rfl rfl r6 rfl rfl ?_
  exact ⟨rfl, h3.at o6 (fun e => by have := (h.hx.lt _ e).2; omega) (fun e => by have := (h.hy.lt _ e).2; omega), ((But.of hB2).trans hb3).new o6 (by omega)⟩
set_option maxRecDepth 100000 in
set_option maxHeartbeats 1000000 in
theorem l7Do_22_f (hv : v = m.val x y) (h : Ow base w x y m) (hok : m.ok = true) (n : Int) (hn : bok n = true) (hc : m.c = false) :
    Calls Tryz.prog 108 #[v, .int .i64 22, .int .i64 n] w fun e w' => Did base w w' e x y (m.does n 22) := by
  obtain ⟨g, hg, hgl⟩ := ram_block h.hy hok
  have HC : Hid (m.c = false) := hc
  clear hc
  go_enter Tryz.func108, Tryz.ntmps108
  go_wp2_with (first
    | (refine box_m rfl rfl hv ?_; intro w0 r0 hB0)
    | (refine al_mc rfl rfl ?_; intro w1 z1 hB1; have r1 := r0.below hB1; have hB2 := hB0.trans (hB1.mono hB0.size); have l0 := r0.lt; have lz := z1.lt; have h1 := h.below hB2)
    | (refine ld_mc rfl rfl rfl r1 ?_)
    | (go_at_call 140; refine (l7Jump_22_f rfl h1 hok _ HC.out).mono ?_; rintro e w3 ⟨rfl, h3, hb3⟩; have z3 := hb3.row hg z1 (by omega))
    | (refine st_mc rfl rfl rfl rfl z3 (one_own h.hx) (one_own h.hy) ?_; intro w6 r6 o6 s6))
  refine ret_mc2 rfl rfl r6 rfl rfl ?_
  exact ⟨rfl, h3.at o6 (fun e => by have := (h.hx.lt _ e).2; omega) (fun e => by have := (h.hy.lt _ e).2; omega), ((But.of hB2).trans hb3).new o6 (by omega)⟩
set_option maxRecDepth 100000 in
set_option maxHeartbeats 1000000 in
theorem l7Do_23 (hv : v = m.val x y) (h : Ow base w x y m) (hok : m.ok = true) (n : Int) (hn : bok n = true) :
    Calls Tryz.prog 108 #[v, .int .i64 23, .int .i64 n] w fun e w' => Did base w w' e x y (m.does n 23) := by
  obtain ⟨g, hg, hgl⟩ := ram_block h.hy hok
  go_enter Tryz.func108, Tryz.ntmps108
  go_wp2_with (first
    | (refine box_m rfl rfl hv ?_; intro w0 r0 hB0)
    | (refine al_mc rfl rfl ?_; intro w1 z1 hB1; have r1 := r0.below hB1; have hB2 := hB0.trans (hB1.mono hB0.size); have l0 := r0.lt; have lz := z1.lt; have h1 := h.below hB2)
    | (refine ld_mc rfl rfl rfl r1 ?_)
    | (go_at_call 140; refine (l7Jump_23 rfl h1 hok _).mono ?_; rintro e w3 ⟨rfl, h3, hb3⟩; have z3 := hb3.row hg z1 (by omega))
    | (refine st_mc rfl rfl rfl rfl z3 (one_own h.hx) (one_own h.hy) ?_; intro w6 r6 o6 s6))
  refine ret_mc2 rfl rfl r6 rfl rfl ?_
  exact ⟨rfl, h3.at o6 (fun e => by have := (h.hx.lt _ e).2; omega) (fun e => by have := (h.hy.lt _ e).2; omega), ((But.of hB2).trans hb3).new o6 (by omega)⟩
set_option maxRecDepth 100000 in
set_option maxHeartbeats 1000000 in
theorem l7Do_24_t (hv : v = m.val x y) (h : Ow base w x y m) (hok : m.ok = true) (n : Int) (hn : bok n = true) (hc : m.e = true) :
    Calls Tryz.prog 108 #[v, .int .i64 24, .int .i64 n] w fun e w' => Did base w w' e x y (m.does n 24) := by
  obtain ⟨g, hg, hgl⟩ := ram_block h.hy hok
  have HC : Hid (m.e = true) := hc
  clear hc
  go_enter Tryz.func108, Tryz.ntmps108
  go_wp2_with (first
    | (refine box_m rfl rfl hv ?_; intro w0 r0 hB0)
    | (refine al_mc rfl rfl ?_; intro w1 z1 hB1; have r1 := r0.below hB1; have hB2 := hB0.trans (hB1.mono hB0.size); have l0 := r0.lt; have lz := z1.lt; have h1 := h.below hB2)
    | (refine ld_mc rfl rfl rfl r1 ?_)
    | (go_at_call 140; refine (l7Jump_24_t rfl h1 hok _ HC.out).mono ?_; rintro e w3 ⟨rfl, h3, hb3⟩; have z3 := hb3.row hg z1 (by omega))
    | (refine st_mc rfl rfl rfl rfl z3 (one_own h.hx) (one_own h.hy) ?_; intro w6 r6 o6 s6))
  refine ret_mc2 rfl rfl r6 rfl rfl ?_
  exact ⟨rfl, h3.at o6 (fun e => by have := (h.hx.lt _ e).2; omega) (fun e => by have := (h.hy.lt _ e).2; omega), ((But.of hB2).trans hb3).new o6 (by omega)⟩
set_option maxRecDepth 100000 in
set_option maxHeartbeats 1000000 in
theorem l7Do_24_f (hv : v = m.val x y) (h : Ow base w x y m) (hok : m.ok = true) (n : Int) (hn : bok n = true) (hc : m.e = false) :
    Calls Tryz.prog 108 #[v, .int .i64 24, .int .i64 n] w fun e w' => Did base w w' e x y (m.does n 24) := by
  obtain ⟨g, hg, hgl⟩ := ram_block h.hy hok
  have HC : Hid (m.e = false) := hc
  clear hc
  go_enter Tryz.func108, Tryz.ntmps108
  go_wp2_with (first
    | (refine box_m rfl rfl hv ?_; intro w0 r0 hB0)
    | (refine al_mc rfl rfl ?_; intro w1 z1 hB1; have r1 := r0.below hB1; have hB2 := hB0.trans (hB1.mono hB0.size); have l0 := r0.lt; have lz := z1.lt; have h1 := h.below hB2)
    | (refine ld_mc rfl rfl rfl r1 ?_)
    | (go_at_call 140; refine (l7Jump_24_f rfl h1 hok _ HC.out).mono ?_; rintro e w3 ⟨rfl, h3, hb3⟩; have z3 := hb3.row hg z1 (by omega))
    | (refine st_mc rfl rfl rfl rfl z3 (one_own h.hx) (one_own h.hy) ?_; intro w6 r6 o6 s6))
  refine ret_mc2 rfl rfl r6 rfl rfl ?_
  exact ⟨rfl, h3.at o6 (fun e => by have := (h.hx.lt _ e).2; omega) (fun e => by have := (h.hy.lt _ e).2; omega), ((But.of hB2).trans hb3).new o6 (by omega)⟩
set_option maxRecDepth 100000 in
set_option maxHeartbeats 1000000 in
theorem l7Do_29_t (hv : v = m.val x y) (h : Ow base w x y m) (hok : m.ok = true) (n : Int) (hn : bok n = true) (hc : m.e = true) :
    Calls Tryz.prog 108 #[v, .int .i64 29, .int .i64 n] w fun e w' => Did base w w' e x y (m.does n 29) := by
  obtain ⟨g, hg, hgl⟩ := ram_block h.hy hok
  have HC : Hid (m.e = true) := hc
  clear hc
  go_enter Tryz.func108, Tryz.ntmps108
  go_wp2_with (first
    | (refine box_m rfl rfl hv ?_; intro w0 r0 hB0)
    | (refine al_mc rfl rfl ?_; intro w1 z1 hB1; have r1 := r0.below hB1; have hB2 := hB0.trans (hB1.mono hB0.size); have l0 := r0.lt; have lz := z1.lt; have h1 := h.below hB2)
    | (refine ld_mc rfl rfl rfl r1 ?_)
    | (go_at_call 140; refine (l7Jump_29_t rfl h1 hok _ HC.out).mono ?_; rintro e w3 ⟨rfl, h3, hb3⟩; have z3 := hb3.row hg z1 (by omega))
    | (refine st_mc rfl rfl rfl rfl z3 (one_own h.hx) (one_own h.hy) ?_; intro w6 r6 o6 s6))
  refine ret_mc2 rfl rfl r6 rfl rfl ?_
  exact ⟨rfl, h3.at o6 (fun e => by have := (h.hx.lt _ e).2; omega) (fun e => by have := (h.hy.lt _ e).2; omega), ((But.of hB2).trans hb3).new o6 (by omega)⟩
set_option maxRecDepth 100000 in
set_option maxHeartbeats 1000000 in
theorem l7Do_29_f (hv : v = m.val x y) (h : Ow base w x y m) (hok : m.ok = true) (n : Int) (hn : bok n = true) (hc : m.e = false) :
    Calls Tryz.prog 108 #[v, .int .i64 29, .int .i64 n] w fun e w' => Did base w w' e x y (m.does n 29) := by
  obtain ⟨g, hg, hgl⟩ := ram_block h.hy hok
  have HC : Hid (m.e = false) := hc
  clear hc
  go_enter Tryz.func108, Tryz.ntmps108
  go_wp2_with (first
    | (refine box_m rfl rfl hv ?_; intro w0 r0 hB0)
    | (refine al_mc rfl rfl ?_; intro w1 z1 hB1; have r1 := r0.below hB1; have hB2 := hB0.trans (hB1.mono hB0.size); have l0 := r0.lt; have lz := z1.lt; have h1 := h.below hB2)
    | (refine ld_mc rfl rfl rfl r1 ?_)
    | (go_at_call 140; refine (l7Jump_29_f rfl h1 hok _ HC.out).mono ?_; rintro e w3 ⟨rfl, h3, hb3⟩; have z3 := hb3.row hg z1 (by omega))
    | (refine st_mc rfl rfl rfl rfl z3 (one_own h.hx) (one_own h.hy) ?_; intro w6 r6 o6 s6))
  refine ret_mc2 rfl rfl r6 rfl rfl ?_
  exact ⟨rfl, h3.at o6 (fun e => by have := (h.hx.lt _ e).2; omega) (fun e => by have := (h.hy.lt _ e).2; omega), ((But.of hB2).trans hb3).new o6 (by omega)⟩
set_option maxRecDepth 100000 in
set_option maxHeartbeats 1000000 in
theorem l7Do_26 (hv : v = m.val x y) (h : Ow base w x y m) (hok : m.ok = true) (n : Int) (hn : bok n = true) :
    Calls Tryz.prog 108 #[v, .int .i64 26, .int .i64 n] w fun e w' => Did base w w' e x y (m.does n 26) := by
  go_enter Tryz.func108, Tryz.ntmps108
  go_wp2_with (first
    | (refine box_m rfl rfl hv ?_; intro w0 r0 hB0)
    | (refine al_mc rfl rfl ?_; intro w1 z1 hB1; have r1 := r0.below hB1; have hB2 := hB0.trans (hB1.mono hB0.size); have l0 := r0.lt; have lz := z1.lt; have h1 := h.below hB2)
    | (refine ld_mc rfl rfl rfl r1 ?_)
    | (go_at_call 142; refine (l7Pop_spec rfl h1 hok).mono ?_; rintro e w2 ⟨rfl, h2, hb2⟩; have hB3 := hB2.trans (hb2.mono hB2.size); have z2 := z1.below hb2; have r2 := r1.below hb2)
    | (refine st_mc rfl rfl rfl rfl r2 (one_own h.hx) (one_own h.hy) ?_; intro w3 r3 o3 s3; have z3 := z2.onto o3 (by omega); have hB4 := below_onto hB3 o3 (by omega))
    | (refine st_num (m' := (m.does n 26).1) rfl rfl rfl rfl r3 rfl rfl ?_; intro w4 r4 o4 s4; have z4 := z3.onto o4 (by omega); have hB5 := below_onto hB4 o4 (by omega))
    | (refine ld_mc rfl rfl rfl r4 ?_)
    | (refine st_mc rfl rfl rfl rfl z4 (one_own h.hx) (one_own h.hy) ?_; intro w6 r6 o6 s6))
  refine ret_mc2 rfl rfl r6 rfl rfl ?_
  have hB6 := below_onto hB5 o6 (by omega)
  exact ⟨rfl, (h.below hB6).as rfl rfl, .of hB6⟩
theorem l7Do_spec (hv : v = m.val x y) (h : Ow base w x y m) (hok : m.ok = true) (n : Int) (hn : bok n = true) (k : Nat) (hk : k < 31) :
    Calls Tryz.prog 108 #[v, .int .i64 (k : Int), .int .i64 n] w fun e w' => Did base w w' e x y (m.does n k) := by
  match k with
  | 0 => exact l7Do_0 hv h hok n hn
  | 1 => exact l7Do_1 hv h hok n hn
  | 2 => exact l7Do_2 hv h hok n hn
  | 3 => exact l7Do_3 hv h hok n hn
  | 4 => exact l7Do_4 hv h hok n hn
  | 5 => exact l7Do_5 hv h hok n hn
  | 6 => exact l7Do_6 hv h hok n hn
  | 7 => exact l7Do_7 hv h hok n hn
  | 8 => exact l7Do_8 hv h hok n hn
  | 9 => exact l7Do_9 hv h hok n hn
  | 10 => exact l7Do_10 hv h hok n hn
  | 11 => exact l7Do_11 hv h hok n hn
  | 12 => exact l7Do_12 hv h hok n hn
  | 13 => exact l7Do_13 hv h hok n hn
  | 14 => exact l7Do_14 hv h hok n hn
  | 15 => exact l7Do_15 hv h hok n hn
  | 16 => exact l7Do_16 hv h hok n hn
  | 17 => exact l7Do_17 hv h hok n hn
  | 18 => exact l7Do_18 hv h hok n hn
  | 19 => exact l7Do_19 hv h hok n hn
  | 20 =>
    cases hc : m.z
    · exact l7Do_20_f hv h hok n hn hc
    · exact l7Do_20_t hv h hok n hn hc
  | 21 =>
    cases hc : m.z
    · exact l7Do_21_f hv h hok n hn hc
    · exact l7Do_21_t hv h hok n hn hc
  | 22 =>
    cases hc : m.c
    · exact l7Do_22_f hv h hok n hn hc
    · exact l7Do_22_t hv h hok n hn hc
  | 23 => exact l7Do_23 hv h hok n hn
  | 24 =>
    cases hc : m.e
    · exact l7Do_24_f hv h hok n hn hc
    · exact l7Do_24_t hv h hok n hn hc
  | 25 => exact l7Do_25 hv h hok n hn
  | 26 => exact l7Do_26 hv h hok n hn
  | 27 => exact l7Do_27 hv h hok n hn
  | 28 => exact l7Do_28 hv h hok n hn
  | 29 =>
    cases hc : m.e
    · exact l7Do_29_f hv h hok n hn hc
    · exact l7Do_29_t hv h hok n hn hc
  | 30 => exact l7Do_30 hv h hok n hn
  | k + 31 => omega
end
end Go.Proofs.YtmbncgeiaijnpaaGreatDoor.Mem
