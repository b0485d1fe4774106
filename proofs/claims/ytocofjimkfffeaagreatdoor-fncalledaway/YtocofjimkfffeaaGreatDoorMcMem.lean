/-
  Whether two machines are the same, as the document's model tells it. What FnMemory wants to be known of machines. FnMemory: what was written into Ram stands there, and nothing else is otherwise; a right machine stays right.
-/
import Derived.Test.YtocofjimkfffeaaGreatDoorMcW
import Derived.Test.YtocofjimkfffeaaGreatDoorEx
import Derived.Test.YtocofjimkfffeaaGreatDoorMcDraw5
import Derived.Test.YtocofjimkfffeaaGreatDoorMcWriteI
import Derived.Test.YtocofjimkfffeaaGreatDoorMcWrite
import Derived.Test.YtocofjimkfffeaaGreatDoorMcReadI
import Derived.Test.YtocofjimkfffeaaGreatDoorMcLaw
import Derived.Test.YtocofjimkfffeaaGreatDoorPrg
namespace Go.Proofs.YtocofjimkfffeaaGreatDoor.Mem
open Go.ChangeShapes Go.WideShapes Go.RowKit Base Num Slc Rw Tmr Srl Rom RomOf Ex
set_option linter.unusedVariables false
set_option linter.unusedSimpArgs false

theorem same_any (v1 v2 : Value) (l1 l2 : List Int) (w : World) (h1 : Sl w v1 l1) (h2 : Sl w v2 l2) :
    Calls Tryz.prog 112 #[v1, v2] w fun e w' => e = .returned (.bool (decide (l1 = l2))) ∧ ∃ n, w' = w.drewN n := by
  obtain ⟨a1, cap1, rfl, hat1, hlc1, hcm1, hnil1⟩ := h1
  obtain ⟨a2, cap2, rfl, hat2, hlc2, hcm2, hnil2⟩ := h2
  unfold maxLen at hcm1 hcm2
  have H1 : Hid (IntsAt w a1 l1.length l1) := hat1
  have H2 : Hid (IntsAt w a2 l2.length l2) := hat2
  clear hat1 hat2 hnil1 hnil2
  by_cases hll : l1.length = l2.length
  · go_enter Tryz.func112, Tryz.ntmps112
    go_wp2
    go_loopw [5] (fun i wr => ∃ k : Nat, k ≤ l1.length ∧ i = .int .i64 k ∧ l1.take k = l2.take k ∧ ∃ n, wr = w.drewN n) (fun i _ => l1.length - (intOf i).toNat)
    case atStart => exact ⟨0, Nat.zero_le _, rfl, rfl, 0, rfl⟩
    case round =>
      obtain ⟨k, hk, rfl, htk, n, rfl⟩ := hrel
      have HT : Hid (l1.take k = l2.take k) := htk
      have HL : Hid (l1.length = l2.length) := hll
      clear htk
      by_cases hlt : k < l1.length
      · rcases H1.out.2 with h0 | ⟨b1, off1, rfl, hbl1, hcell1⟩
        · omega
        · rcases H2.out.2 with h0 | ⟨b2, off2, rfl, hbl2, hcell2⟩
          · omega
          · have hz1 := hcell1 k hlt
            have hz2 := hcell2 k (by omega)
            obtain ⟨z1, hzz1⟩ : ∃ z, z = l1.getD k 0 := ⟨_, rfl⟩
            obtain ⟨z2, hzz2⟩ : ∃ z, z = l2.getD k 0 := ⟨_, rfl⟩
            rw [← hzz1] at hz1
            rw [← hzz2] at hz2
            have hk1 : (k : Int) < (l1.length : Int) := by omega
            have hk2 : (k : Int) < (l2.length : Int) := by omega
            have hk3 : k < l2.length := by omega
            have HZ1 : Hid (z1 = l1.getD k 0) := hzz1
            have HZ2 : Hid (z2 = l2.getD k 0) := hzz2
            clear hzz1 hzz2 hcell1 hcell2 hll
            by_cases hz : z1 = z2
            · have hzt : (z1 == z2) = true := by simp [hz]
              have HZ : Hid (z1 = z2) := hz
              clear hz
              go_wp2
              go_quiet (fail)
              go_wp2
              go_roundw
              case rel => exact ⟨k + 1, by omega, by go_num, take_both HT.out hlt hk3 (by rw [← HZ1.out, ← HZ2.out]; exact HZ.out), _, rfl⟩
              case measure => simp [intOf]; omega
            · have hzf : (z1 == z2) = false := by simp [hz]
              have HD : Hid (decide (l1 = l2) = false) := by show decide (l1 = l2) = false; simp; intro e; exact hz (by rw [HZ1.out, HZ2.out, e])
              clear hz
              go_wp2
              go_quiet (fail)
              go_wp2
              go_ret
              exact ⟨ret_bool HD.out.symm, _, World.drewN_drewN _ _ _⟩
      · clear hll
        go_wp2
        go_ret
        have e1 : l1.take k = l1 := List.take_of_length_le (by omega)
        have e2 : l2.take k = l2 := List.take_of_length_le (by have := HL.out; omega)
        have e3 := HT.out
        rw [e1, e2] at e3
        exact ⟨ret_bool (by simp [e3]), _, rfl⟩
  · have HD : Hid (decide (l1 = l2) = false) := by show decide (l1 = l2) = false; simp; intro e; exact hll (by rw [e])
    have hne : ((l1.length : Int) == (l2.length : Int)) = false := by simp; omega
    go_enter Tryz.func112, Tryz.ntmps112
    go_wp2
    go_ret
    exact ⟨ret_bool HD.out.symm, 0, rfl⟩

set_option maxRecDepth 20000 in
set_option maxHeartbeats 2000000 in
theorem sameMachine_same (vr va ur ua : Value) (m : Mc) (w : World) (h1 : Sl w vr m.rom) (h2 : Sl w va m.ram) (h3 : Sl w ur m.rom) (h4 : Sl w ua m.ram) :
    Calls Tryz.prog 37 #[m.val vr va, m.val ur ua] w fun e w' => e = .returned (.bool true) ∧ Below w.heap.size w w' := by
  obtain ⟨vv, hvv⟩ : ∃ vv, vv = m.val vr va := ⟨_, rfl⟩
  obtain ⟨uu, huu⟩ : ∃ uu, uu = m.val ur ua := ⟨_, rfl⟩
  rw [← hvv, ← huu]
  go_enter Tryz.func37, Tryz.ntmps37
  go_wp2_with (first
    | (refine box_m rfl rfl hvv ?_; intro w0 r0 hB0)
    | (refine box_m rfl rfl huu ?_; intro w1 q1 hB1; have r1 := r0.below hB1; have hB2 := hB0.trans (hB1.mono hB0.size); have a0 := (cw r1).vr; have b0 := (cw q1).vr))
  go_at_call 112
  refine (same_any vr ur m.rom m.rom _ (h1.below hB2) (h3.below hB2)).mono ?_
  rintro e w2 ⟨rfl, n2, hw2⟩
  have hb2 := drew_below hw2
  have hB3 := hB2.trans (hb2.mono hB2.size)
  have r2 := r1.below hb2
  have q2 := q1.below hb2
  clear hw2 a0 b0
  have a0 := (cw r2).va
  have b0 := (cw q2).va
  rw [decide_eq_true rfl]
  go_wp2_with fail
  go_at_call 112
  refine (same_any va ua m.ram m.ram _ (h2.below hB3) (h4.below hB3)).mono ?_
  rintro e w3 ⟨rfl, n3, hw3⟩
  have hb3 := drew_below hw3
  have hB4 := hB3.trans (hb3.mono hB3.size)
  have r3 := r2.below hb3
  have q3 := q2.below hb3
  clear hw3 a0 b0 r0 r1 r2 q1 q2
  rw [decide_eq_true rfl]
  have a2 := (cw r3).a
  have a3 := (cw r3).b
  have a4 := (cw r3).pc
  have a5 := (cw r3).sp
  have a6 := (cw r3).z
  have a7 := (cw r3).c
  have a8 := (cw r3).e
  have a9 := (cw r3).h
  have a10 := (cw r3).s
  have a11 := (cw r3).fl
  have a12 := (cw r3).ms
  have a13 := (cw r3).ky
  have a14 := (cw r3).tc
  have a15 := (cw r3).tv
  have a16 := (cw r3).ts
  have a17 := (cw r3).tm
  have a18 := (cw r3).pd
  have a19 := (cw r3).pb
  have a20 := (cw r3).pl
  have a21 := (cw r3).pn
  have a22 := (cw r3).px
  have a23 := (cw r3).pt
  have a24 := (cw r3).k
  have b2 := (cw q3).a
  have b3 := (cw q3).b
  have b4 := (cw q3).pc
  have b5 := (cw q3).sp
  have b6 := (cw q3).z
  have b7 := (cw q3).c
  have b8 := (cw q3).e
  have b9 := (cw q3).h
  have b10 := (cw q3).s
  have b11 := (cw q3).fl
  have b12 := (cw q3).ms
  have b13 := (cw q3).ky
  have b14 := (cw q3).tc
  have b15 := (cw q3).tv
  have b16 := (cw q3).ts
  have b17 := (cw q3).tm
  have b18 := (cw q3).pd
  have b19 := (cw q3).pb
  have b20 := (cw q3).pl
  have b21 := (cw q3).pn
  have b22 := (cw q3).px
  have b23 := (cw q3).pt
  have b24 := (cw q3).k
  go_wp2_with fail
  go_ret
  exact ⟨rfl, hB4⟩
theorem likeMachine_same (vr va ur ua : Value) (m : Mc) (w : World) (h1 : Sl w vr m.rom) (h2 : Sl w va m.ram) (h3 : Sl w ur m.rom) (h4 : Sl w ua m.ram) :
    Calls Tryz.prog 9 #[m.val vr va, m.val ur ua] w fun e w' => e = .returned (.bool true) ∧ Below w.heap.size w w' := by
  obtain ⟨vv, hvv⟩ : ∃ vv, vv = m.val vr va := ⟨_, rfl⟩
  obtain ⟨uu, huu⟩ : ∃ uu, uu = m.val ur ua := ⟨_, rfl⟩
  rw [← hvv, ← huu]
  go_enter Tryz.func9, Tryz.ntmps9
  go_wp2_with (first
    | (refine box_m rfl rfl hvv ?_; intro w0 r0 hB0)
    | (refine box_m rfl rfl huu ?_; intro w1 q1 hB1; have r1 := r0.below hB1; have hB2 := hB0.trans (hB1.mono hB0.size))
    | (refine ld_mc rfl rfl rfl r1 ?_)
    | (refine ld_mc rfl rfl rfl q1 ?_)
    | (go_at_call 37; refine (sameMachine_same vr va ur ua m _ (h1.below hB2) (h2.below hB2) (h3.below hB2) (h4.below hB2)).mono ?_; rintro e w2 ⟨rfl, hb2⟩; have hB3 := hB2.trans (hb2.mono hB2.size)))
  go_ret
  exact ⟨rfl, hB3⟩
end Go.Proofs.YtocofjimkfffeaaGreatDoor.Mem
namespace Go.Proofs.YtocofjimkfffeaaGreatDoor.Mem
open Go.ChangeShapes Go.WideShapes Go.RowKit Base Draw Slc Num Rw Tmr Srl Rom RomOf Reg
set_option linter.unusedVariables false
set_option linter.unusedSimpArgs false

theorem big_m (a : Option Addr) (len cap : Nat) (w : World) :
    Calls Tryz.prog 5 #[.slice a len cap] w fun e w' => e = .returned (.bool (decide ((4096 : Int) < (len : Int)))) ∧ w' = w := by
  go_enter Tryz.func5, Tryz.ntmps5
  go_wp2
  go_ret
  exact ⟨rfl, rfl⟩
theorem fresh_ok {l : List Int} (h : romOk l = true) : (Mc.fresh l).ok = true := by
  simp only [Mc.ok, Mc.fresh, h]
  rfl
theorem fresh_set_ok {l : List Int} (h : romOk l = true) (j : Nat) {v : Int} (hv : bok v = true) : ({ Mc.fresh l with ram := (Mc.fresh l).ram.set j v } : Mc).ok = true := by
  have hb : ((List.replicate 64 (0 : Int)).set j v).all bok = true := by
    rw [List.all_eq_true]
    intro x hx
    rcases List.mem_or_eq_of_mem_set hx with h | h
    · rw [List.eq_of_mem_replicate h]; decide
    · rw [h]; exact hv
  have hl : ((List.replicate 64 (0 : Int)).set j v).length = 64 := by simp
  simp only [Mc.ok, Mc.fresh, h, hb, hl]
  decide
theorem read_set {l : List Int} (h : romOk l = true) (k : Nat) (hk : k < 64) {v : Int} (hv : bok v = true) (i : Int) (hi : 0 ≤ i ∧ i < 256) :
    ((Mc.fresh l).writtenAt (128 + (k : Int)) v).readAt i = if i = 128 + (k : Int) then v else (Mc.fresh l).readAt i := by
  have hq : bok (128 + (k : Int)) = true := by simp [bok]; omega
  have hbi : bok i = true := by simp [bok]; omega
  have hw : (Mc.fresh l).writtenAt (128 + (k : Int)) v = { Mc.fresh l with ram := (Mc.fresh l).ram.set k v } := by
    have h1 : 128 ≤ 128 + (k : Int) ∧ 128 + (k : Int) < 192 := by omega
    have h2 : (128 + (k : Int) - 128).toNat = k := by omega
    simp only [Mc.writtenAt, fresh_ok h, hq, hv, Bool.and_self, if_true, Mc.write, h1, and_self, h2]
  rw [hw]
  simp only [Mc.readAt, fresh_set_ok h k hv, fresh_ok h, hbi, Bool.and_self, if_true, Mc.read]
  by_cases h1 : i < 128
  · have hne : ¬ i = 128 + (k : Int) := by omega
    simp only [h1, hne, if_true, if_false]
  · by_cases h2 : i < 192
    · simp only [h1, h2, if_true, if_false]
      by_cases he : i = 128 + (k : Int)
      · have hj : (i - 128).toNat = k := by omega
        simp only [he, if_true]
        rw [show (128 + (k : Int) - 128).toNat = k by omega]
        simp [Mc.fresh, List.getD_eq_getElem?_getD, hk]
      · have hj : ¬ k = (i - 128).toNat := by omega
        simp only [he, if_false]
        simp [List.getD_eq_getElem?_getD, hj]
    · have hne : ¬ i = 128 + (k : Int) := by omega
      simp only [h1, h2, hne, if_false]
theorem set_ok {l : List Int} (h : romOk l = true) (k : Nat) (hk : k < 64) {v : Int} (hv : bok v = true) : ((Mc.fresh l).writtenAt (128 + (k : Int)) v).ok = true := by
  have hq : bok (128 + (k : Int)) = true := by simp [bok]; omega
  have hw : (Mc.fresh l).writtenAt (128 + (k : Int)) v = { Mc.fresh l with ram := (Mc.fresh l).ram.set k v } := by
    have h1 : 128 ≤ 128 + (k : Int) ∧ 128 + (k : Int) < 192 := by omega
    have h2 : (128 + (k : Int) - 128).toNat = k := by omega
    simp only [Mc.writtenAt, fresh_ok h, hq, hv, Bool.and_self, if_true, Mc.write, h1, and_self, h2]
  rw [hw]; exact fresh_set_ok h k hv
theorem clock_same (m : Mc) (q n : Int) : (m.writtenAt q n).k = m.k ∨ (m.writtenAt q n).rom.length = 0 := by
  unfold Mc.writtenAt Mc.write
  repeat' split
  all_goals first | exact .inl rfl | (right; rfl)
theorem Sl.rel {w w' : World} {v : Value} {l : List Int} (h : Sl w v l) (hr : Rel (fun _ => False) w w') : Sl w' v l := by
  obtain ⟨a, cap, rfl, h1, h2⟩ := h
  refine ⟨a, cap, rfl, ⟨h1.1, ?_⟩, h2⟩
  rcases h1.2 with h0 | ⟨b, off, rfl, hb, hc⟩
  · exact .inl h0
  · refine .inr ⟨b, off, rfl, Nat.lt_of_lt_of_le hb hr.1, fun i hi => ?_⟩
    rw [World.cell?_of_block (w := w) (a := ⟨b, off + i, none⟩) (hr.2 b (fun h => h) hb)]
    exact hc i hi
def KMs (N : Mc) (v : Value) (w : World) : Prop := MSl w v N
theorem bears_ms (N : Mc) : Bears (fun _ => False) (KMs N) := fun v w w' h hr => by
  obtain ⟨vr, va, e, h1, h2⟩ := h
  exact ⟨vr, va, e, Sl.rel h1 hr, Sl.rel h2 hr⟩
/-- The four machines that are drawn and written. -/
structure Gl (w : World) (gA gB gC gD : Nat) (x y ar aa x2 y2 x3 y3 : Value) (M N M2 M3 : Mc) (W : World) : Prop where
  A : MRow W gA x y M
  B : MRow W gB ar aa N
  C : MRow W gC x2 y2 M2
  D : MRow W gD x3 y3 M3
  a1 : Sl W x M.rom
  a2 : Sl W y M.ram
  b1 : Sl W ar N.rom
  b2 : Sl W aa N.ram
  c1 : Sl W x2 M2.rom
  c2 : Sl W y2 M2.ram
  d1 : Sl W x3 M3.rom
  d2 : Sl W y3 M3.ram
  bel : Below w.heap.size w W
theorem Gl.below {w W W' : World} {gA gB gC gD : Nat} {x y ar aa x2 y2 x3 y3 : Value} {M N M2 M3 : Mc} (h : Gl w gA gB gC gD x y ar aa x2 y2 x3 y3 M N M2 M3 W) (hb : Below W.heap.size W W') : Gl w gA gB gC gD x y ar aa x2 y2 x3 y3 M N M2 M3 W' :=
  ⟨h.A.below hb, h.B.below hb, h.C.below hb, h.D.below hb, h.a1.below hb, h.a2.below hb, h.b1.below hb, h.b2.below hb, h.c1.below hb, h.c2.below hb, h.d1.below hb, h.d2.below hb, below_more h.bel hb⟩
/-- The two that are kept, and the two of the loop. -/
structure Gk (w : World) (gA gB gE gF : Nat) (x y ar aa er ea fr fa : Value) (M N E F : Mc) (W : World) : Prop where
  rA : MRow W gA x y M
  rB : MRow W gB ar aa N
  rE : MRow W gE er ea E
  rF : MRow W gF fr fa F
  b1 : Sl W ar N.rom
  e1 : Sl W er E.rom
  e2 : Sl W ea E.ram
  f1 : Sl W fr F.rom
  f2 : Sl W fa F.ram
  bel : Below w.heap.size w W
theorem Gk.below {w W W' : World} {gA gB gE gF : Nat} {x y ar aa er ea fr fa : Value} {M N E F : Mc} (h : Gk w gA gB gE gF x y ar aa er ea fr fa M N E F W) (hb : Below W.heap.size W W') : Gk w gA gB gE gF x y ar aa er ea fr fa M N E F W' :=
  ⟨h.rA.below hb, h.rB.below hb, h.rE.below hb, h.rF.below hb, h.b1.below hb, h.e1.below hb, h.e2.below hb, h.f1.below hb, h.f2.below hb, below_more h.bel hb⟩
theorem sl_new {w3 w4 w5 : World} {v : Value} {l : List Int} (hs : Sl w3 v l) (hb : Below w3.heap.size w3 w4) (ho : Onto w3.heap.size w4 w5) : Sl w5 v l := by
  by_cases h0 : 0 < l.length
  · exact sl_onto (hs.below hb) ho (fun e => by have := hs.lt h0 _ e; omega)
  · obtain ⟨a, cap, rfl, h1, h2⟩ := hs
    exact ⟨a, cap, rfl, ⟨h1.1, .inl (by omega)⟩, h2⟩
theorem row_new {w3 w4 w5 : World} {g : Nat} {cs : Array Value} {T : TypeId} (r : Row w3 g cs T) (hb : Below w3.heap.size w3 w4) (ho : Onto w3.heap.size w4 w5) : Row w5 g cs T := (r.below hb).onto ho (by have := r.lt; omega)
theorem bel_new {w w3 w4 w5 : World} (h : Below w.heap.size w w3) (hb : Below w3.heap.size w3 w4) (ho : Onto w3.heap.size w4 w5) : Below w.heap.size w w5 := below_onto (h.trans (hb.mono h.size)) ho h.size
end Go.Proofs.YtocofjimkfffeaaGreatDoor.Mem
namespace Go.Proofs.YtocofjimkfffeaaGreatDoor.Mem
open Go.ChangeShapes Go.WideShapes Go.RowKit Base Draw Slc Num Rw Tmr Srl Rom RomOf Reg
set_option linter.unusedVariables false
set_option linter.unusedSimpArgs false

end Go.Proofs.YtocofjimkfffeaaGreatDoor.Mem
