/-
  Whether two machines are the same, as the document's model tells it. What FnMemory wants to be known of machines. FnMemory: what was written into Ram stands there, and nothing else is otherwise; a right machine stays right.
-/
import Derived.Test.YtogmhpjelmlonaaMcW
import Derived.Test.YtogmhpjelmlonaaEx
import Derived.Test.YtogmhpjelmlonaaMcDraw5
import Derived.Test.YtogmhpjelmlonaaMcWriteJ
import Derived.Test.YtogmhpjelmlonaaMcWrite
import Derived.Test.YtogmhpjelmlonaaMcReadI
import Derived.Test.YtogmhpjelmlonaaMcLaw
import Derived.Test.YtogmhpjelmlonaaPrg
namespace Go.Proofs.Ytogmhpjelmlonaa.Mem
open Go.ChangeShapes Go.WideShapes Go.RowKit Base Num Slc Rw Tmr Srl Rom RomOf Ex
set_option linter.unusedVariables false
set_option linter.unusedSimpArgs false

theorem same_any (v1 v2 : Value) (l1 l2 : List Int) (w : World) (h1 : Sl w v1 l1) (h2 : Sl w v2 l2) :
    Calls Try.prog 75 #[v1, v2] w fun e w' => e = .returned (.bool (decide (l1 = l2))) ∧ ∃ n, w' = w.drewN n := by
  obtain ⟨a1, cap1, rfl, hat1, hlc1, hcm1, hnil1⟩ := h1
  obtain ⟨a2, cap2, rfl, hat2, hlc2, hcm2, hnil2⟩ := h2
  unfold maxLen at hcm1 hcm2
  have H1 : Hid (IntsAt w a1 l1.length l1) := hat1
  have H2 : Hid (IntsAt w a2 l2.length l2) := hat2
  clear hat1 hat2 hnil1 hnil2
  by_cases hll : l1.length = l2.length
  · go_enter Try.func75, Try.ntmps75
    go_wp2
    go_loopw [5] (fun i wr => ∃ k : Nat, k ≤ l1.length ∧ i = .int .i64 k ∧ l1.take k = l2.take k ∧ ∃ n, wr = w.drewN n) (fun i _ => l1.length - (intOf i).toNat)
    case atStart => exact ⟨0, Nat.zero_le _, rfl, rfl, 0, rfl⟩
    case round =>
      obtain ⟨k, hk, rfl, htk, n, rfl⟩ := hrel
      have HT : Hid (l1.take k = l2.take k) := htk
      have HL : Hid (l1.length = l2.length) := hll
      clear htk
      by_cases hlt : k < l1.length
      · rcases H1.out.2 with h0 | ⟨b1, off1, rfl, hbl1, hcell1⟩
        · omega
        · rcases H2.out.2 with h0 | ⟨b2, off2, rfl, hbl2, hcell2⟩
          · omega
          · have hz1 := hcell1 k hlt
            have hz2 := hcell2 k (by omega)
            obtain ⟨z1, hzz1⟩ : ∃ z, z = l1.getD k 0 := ⟨_, rfl⟩
            obtain ⟨z2, hzz2⟩ : ∃ z, z = l2.getD k 0 := ⟨_, rfl⟩
            rw [← hzz1] at hz1
            rw [← hzz2] at hz2
            have hk1 : (k : Int) < (l1.length : Int) := by omega
            have hk2 : (k : Int) < (l2.length : Int) := by omega
            have hk3 : k < l2.length := by omega
            have HZ1 : Hid (z1 = l1.getD k 0) := hzz1
            have HZ2 : Hid (z2 = l2.getD k 0) := hzz2
            clear hzz1 hzz2 hcell1 hcell2 hll
            by_cases hz : z1 = z2
            · have hzt : (z1 == z2) = true := by simp [hz]
              have HZ : Hid (z1 = z2) := hz
              clear hz
              go_wp2
              go_quiet (fail)
              go_wp2
              go_roundw
              case rel => exact ⟨k + 1, by omega, by go_num, take_both HT.out hlt hk3 (by rw [← HZ1.out, ← HZ2.out]; exact HZ.out), _, rfl⟩
              case measure => simp [intOf]; omega
            · have hzf : (z1 == z2) = false := by simp [hz]
              have HD : Hid (decide (l1 = l2) = false) := by show decide (l1 = l2) = false; simp; intro e; exact hz (by rw [HZ1.out, HZ2.out, e])
              clear hz
              go_wp2
              go_quiet (fail)
              go_wp2
              go_ret
              exact ⟨ret_bool HD.out.symm, _, World.drewN_drewN _ _ _⟩
      · clear hll
        go_wp2
        go_ret
        have e1 : l1.take k = l1 := List.take_of_length_le (by omega)
        have e2 : l2.take k = l2 := List.take_of_length_le (by have := HL.out; omega)
        have e3 := HT.out
        rw [e1, e2] at e3
        exact ⟨ret_bool (by simp [e3]), _, rfl⟩
  · have HD : Hid (decide (l1 = l2) = false) := by show decide (l1 = l2) = false; simp; intro e; exact hll (by rw [e])
    have hne : ((l1.length : Int) == (l2.length : Int)) = false := by simp; omega
    go_enter Try.func75, Try.ntmps75
    go_wp2
    go_ret
    exact ⟨ret_bool HD.out.symm, 0, rfl⟩

set_option maxRecDepth 20000 in
set_option maxHeartbeats 2000000 in
theorem sameMachine_same (vr va ur ua : Value) (m : Mc) (w : World) (h1 : Sl w vr m.rom) (h2 : Sl w va m.ram) (h3 : Sl w ur m.rom) (h4 : Sl w ua m.ram) :
    Calls Try.prog 42 #[m.val vr va, m.val ur ua] w fun e w' => e = .returned (.bool true) ∧ Below w.heap.size w w' := by
  obtain ⟨vv, hvv⟩ : ∃ vv, vv = m.val vr va := ⟨_, rfl⟩
  obtain ⟨uu, huu⟩ : ∃ uu, uu = m.val ur ua := ⟨_, rfl⟩
  rw [← hvv, ← huu]
  go_enter Try.func42, Try.ntmps42
  go_wp2_with (first
    | (refine box_m rfl rfl hvv ?_; intro w0 r0 hB0)
    | (refine box_m rfl rfl huu ?_; intro w1 q1 hB1; have r1 := r0.below hB1; have hB2 := hB0.trans (hB1.mono hB0.size); have a0 := (cw r1).vr; have b0 := (cw q1).vr))
  go_at_call 75
  refine (same_any vr ur m.rom m.rom _ (h1.below hB2) (h3.below hB2)).mono ?_
  rintro e w2 ⟨rfl, n2, hw2⟩
  have hb2 := drew_below hw2
  have hB3 := hB2.trans (hb2.mono hB2.size)
  have r2 := r1.below hb2
  have q2 := q1.below hb2
  clear hw2 a0 b0
  have a0 := (cw r2).va
  have b0 := (cw q2).va
  rw [decide_eq_true rfl]
  go_wp2_with fail
  go_at_call 75
  refine (same_any va ua m.ram m.ram _ (h2.below hB3) (h4.below hB3)).mono ?_
  rintro e w3 ⟨rfl, n3, hw3⟩
  have hb3 := drew_below hw3
  have hB4 := hB3.trans (hb3.mono hB3.size)
  have r3 := r2.below hb3
  have q3 := q2.below hb3
  clear hw3 a0 b0 r0 r1 r2 q1 q2
  rw [decide_eq_true rfl]
  have a2 := (cw r3).a
  have a3 := (cw r3).b
  have a4 := (cw r3).pc
  have a5 := (cw r3).sp
  have a6 := (cw r3).z
  have a7 := (cw r3).c
  have a8 := (cw r3).e
  have a9 := (cw r3).h
  have a10 := (cw r3).s
  have a11 := (cw r3).fl
  have a12 := (cw r3).ms
  have a13 := (cw r3).ky
  have a14 := (cw r3).tc
  have a15 := (cw r3).tv
  have a16 := (cw r3).ts
  have a17 := (cw r3).tm
  have a18 := (cw r3).pd
  have a19 := (cw r3).pb
  have a20 := (cw r3).pl
  have a21 := (cw r3).pn
  have a22 := (cw r3).px
  have a23 := (cw r3).pt
  have a24 := (cw r3).k
  have b2 := (cw q3).a
  have b3 := (cw q3).b
  have b4 := (cw q3).pc
  have b5 := (cw q3).sp
  have b6 := (cw q3).z
  have b7 := (cw q3).c
  have b8 := (cw q3).e
  have b9 := (cw q3).h
  have b10 := (cw q3).s
  have b11 := (cw q3).fl
  have b12 := (cw q3).ms
  have b13 := (cw q3).ky
  have b14 := (cw q3).tc
  have b15 := (cw q3).tv
  have b16 := (cw q3).ts
  have b17 := (cw q3).tm
  have b18 := (cw q3).pd
  have b19 := (cw q3).pb
  have b20 := (cw q3).pl
  have b21 := (cw q3).pn
  have b22 := (cw q3).px
  have b23 := (cw q3).pt
  have b24 := (cw q3).k
  go_wp2_with fail
  go_ret
  exact ⟨rfl, hB4⟩
theorem likeMachine_same (vr va ur ua : Value) (m : Mc) (w : World) (h1 : Sl w vr m.rom) (h2 : Sl w va m.ram) (h3 : Sl w ur m.rom) (h4 : Sl w ua m.ram) :
    Calls Try.prog 13 #[m.val vr va, m.val ur ua] w fun e w' => e = .returned (.bool true) ∧ Below w.heap.size w w' := by
  obtain ⟨vv, hvv⟩ : ∃ vv, vv = m.val vr va := ⟨_, rfl⟩
  obtain ⟨uu, huu⟩ : ∃ uu, uu = m.val ur ua := ⟨_, rfl⟩
  rw [← hvv, ← huu]
  go_enter Try.func13, Try.ntmps13
  go_wp2_with (first
    | (refine box_m rfl rfl hvv ?_; intro w0 r0 hB0)
    | (refine box_m rfl rfl huu ?_; intro w1 q1 hB1; have r1 := r0.below hB1; have hB2 := hB0.trans (hB1.mono hB0.size))
    | (refine ld_mc rfl rfl rfl r1 ?_)
    | (refine ld_mc rfl rfl rfl q1 ?_)
    | (go_at_call 42; refine (sameMachine_same vr va ur ua m _ (h1.below hB2) (h2.below hB2) (h3.below hB2) (h4.below hB2)).mono ?_; rintro e w2 ⟨rfl, hb2⟩; have hB3 := hB2.trans (hb2.mono hB2.size)))
  go_ret
  exact ⟨rfl, hB3⟩
end Go.Proofs.Ytogmhpjelmlonaa.Mem
namespace Go.Proofs.Ytogmhpjelmlonaa.Mem
open Go.ChangeShapes Go.WideShapes Go.RowKit Base Draw Slc Num Rw Tmr Srl Rom RomOf Reg
set_option linter.unusedVariables false
set_option linter.unusedSimpArgs false

theorem big_m (a : Option Addr) (len cap : Nat) (w : World) :
    Calls Try.prog 8 #[.slice a len cap] w fun e w' => e = .returned (.bool (decide ((4096 : Int) < (len : Int)))) ∧ w' = w := by
  go_enter Try.func8, Try.ntmps8
  go_wp2
  go_ret
  exact ⟨rfl, rfl⟩
theorem fresh_ok {l : List Int} (h : romOk l = true) : (Mc.fresh l).ok = true := by
  simp only [Mc.ok, Mc.fresh, h]
  rfl
theorem fresh_set_ok {l : List Int} (h : romOk l = true) (j : Nat) {v : Int} (hv : bok v = true) : ({ Mc.fresh l with ram := (Mc.fresh l).ram.set j v } : Mc).ok = true := by
  have hb : ((List.replicate 64 (0 : Int)).set j v).all bok = true := by
    rw [List.all_eq_true]
    intro x hx
    rcases List.mem_or_eq_of_mem_set hx with h | h
    · rw [List.eq_of_mem_replicate h]; decide
    · rw [h]; exact hv
  have hl : ((List.replicate 64 (0 : Int)).set j v).length = 64 := by simp
  simp only [Mc.ok, Mc.fresh, h, hb, hl]
  decide
theorem read_set {l : List Int} (h : romOk l = true) (k : Nat) (hk : k < 64) {v : Int} (hv : bok v = true) (i : Int) (hi : 0 ≤ i ∧ i < 256) :
    ((Mc.fresh l).writtenAt (128 + (k : Int)) v).readAt i = if i = 128 + (k : Int) then v else (Mc.fresh l).readAt i := by
  have hq : bok (128 + (k : Int)) = true := by simp [bok]; omega
  have hbi : bok i = true := by simp [bok]; omega
  have hw : (Mc.fresh l).writtenAt (128 + (k : Int)) v = { Mc.fresh l with ram := (Mc.fresh l).ram.set k v } := by
    have h1 : 128 ≤ 128 + (k : Int) ∧ 128 + (k : Int) < 192 := by omega
    have h2 : (128 + (k : Int) - 128).toNat = k := by omega
    simp only [Mc.writtenAt, fresh_ok h, hq, hv, Bool.and_self, if_true, Mc.write, h1, and_self, h2]
  rw [hw]
  simp only [Mc.readAt, fresh_set_ok h k hv, fresh_ok h, hbi, Bool.and_self, if_true, Mc.read]
  by_cases h1 : i < 128
  · have hne : ¬ i = 128 + (k : Int) := by omega
    simp only [h1, hne, if_true, if_false]
  · by_cases h2 : i < 192
    · simp only [h1, h2, if_true, if_false]
      by_cases he : i = 128 + (k : Int)
      · have hj : (i - 128).toNat = k := by omega
        simp only [he, if_true]
        rw [show (128 + (k : Int) - 128).toNat = k by omega]
        simp [Mc.fresh, List.getD_eq_getElem?_getD, hk]
      · have hj : ¬ k = (i - 128).toNat := by omega
        simp only [he, if_false]
        simp [List.getD_eq_getElem?_getD, hj]
    · have hne : ¬ i = 128 + (k : Int) := by omega
      simp only [h1, h2, hne, if_false]
theorem set_ok {l : List Int} (h : romOk l = true) (k : Nat) (hk : k < 64) {v : Int} (hv : bok v = true) : ((Mc.fresh l).writtenAt (128 + (k : Int)) v).ok = true := by
  have hq : bok (128 + (k : Int)) = true := by simp [bok]; omega
  have hw : (Mc.fresh l).writtenAt (128 + (k : Int)) v = { Mc.fresh l with ram := (Mc.fresh l).ram.set k v } := by
    have h1 : 128 ≤ 128 + (k : Int) ∧ 128 + (k : Int) < 192 := by omega
    have h2 : (128 + (k : Int) - 128).toNat = k := by omega
    simp only [Mc.writtenAt, fresh_ok h, hq, hv, Bool.and_self, if_true, Mc.write, h1, and_self, h2]
  rw [hw]; exact fresh_set_ok h k hv
theorem clock_same (m : Mc) (q n : Int) : (m.writtenAt q n).k = m.k ∨ (m.writtenAt q n).rom.length = 0 := by
  unfold Mc.writtenAt Mc.write
  repeat' split
  all_goals first | exact .inl rfl | (right; rfl)
theorem Sl.rel {w w' : World} {v : Value} {l : List Int} (h : Sl w v l) (hr : Rel (fun _ => False) w w') : Sl w' v l := by
  obtain ⟨a, cap, rfl, h1, h2⟩ := h
  refine ⟨a, cap, rfl, ⟨h1.1, ?_⟩, h2⟩
  rcases h1.2 with h0 | ⟨b, off, rfl, hb, hc⟩
  · exact .inl h0
  · refine .inr ⟨b, off, rfl, Nat.lt_of_lt_of_le hb hr.1, fun i hi => ?_⟩
    rw [World.cell?_of_block (w := w) (a := ⟨b, off + i, none⟩) (hr.2 b (fun h => h) hb)]
    exact hc i hi
def KMs (N : Mc) (v : Value) (w : World) : Prop := MSl w v N
theorem bears_ms (N : Mc) : Bears (fun _ => False) (KMs N) := fun v w w' h hr => by
  obtain ⟨vr, va, e, h1, h2⟩ := h
  exact ⟨vr, va, e, Sl.rel h1 hr, Sl.rel h2 hr⟩
/-- The four machines that are drawn and written. -/
structure Gl (w : World) (gA gB gC gD : Nat) (x y ar aa x2 y2 x3 y3 : Value) (M N M2 M3 : Mc) (W : World) : Prop where
  A : MRow W gA x y M
  B : MRow W gB ar aa N
  C : MRow W gC x2 y2 M2
  D : MRow W gD x3 y3 M3
  a1 : Sl W x M.rom
  a2 : Sl W y M.ram
  b1 : Sl W ar N.rom
  b2 : Sl W aa N.ram
  c1 : Sl W x2 M2.rom
  c2 : Sl W y2 M2.ram
  d1 : Sl W x3 M3.rom
  d2 : Sl W y3 M3.ram
  bel : Below w.heap.size w W
theorem Gl.below {w W W' : World} {gA gB gC gD : Nat} {x y ar aa x2 y2 x3 y3 : Value} {M N M2 M3 : Mc} (h : Gl w gA gB gC gD x y ar aa x2 y2 x3 y3 M N M2 M3 W) (hb : Below W.heap.size W W') : Gl w gA gB gC gD x y ar aa x2 y2 x3 y3 M N M2 M3 W' :=
  ⟨h.A.below hb, h.B.below hb, h.C.below hb, h.D.below hb, h.a1.below hb, h.a2.below hb, h.b1.below hb, h.b2.below hb, h.c1.below hb, h.c2.below hb, h.d1.below hb, h.d2.below hb, below_more h.bel hb⟩
/-- The two that are kept, and the two of the loop. -/
structure Gk (w : World) (gA gB gE gF : Nat) (x y ar aa er ea fr fa : Value) (M N E F : Mc) (W : World) : Prop where
  rA : MRow W gA x y M
  rB : MRow W gB ar aa N
  rE : MRow W gE er ea E
  rF : MRow W gF fr fa F
  b1 : Sl W ar N.rom
  e1 : Sl W er E.rom
  e2 : Sl W ea E.ram
  f1 : Sl W fr F.rom
  f2 : Sl W fa F.ram
  bel : Below w.heap.size w W
theorem Gk.below {w W W' : World} {gA gB gE gF : Nat} {x y ar aa er ea fr fa : Value} {M N E F : Mc} (h : Gk w gA gB gE gF x y ar aa er ea fr fa M N E F W) (hb : Below W.heap.size W W') : Gk w gA gB gE gF x y ar aa er ea fr fa M N E F W' :=
  ⟨h.rA.below hb, h.rB.below hb, h.rE.below hb, h.rF.below hb, h.b1.below hb, h.e1.below hb, h.e2.below hb, h.f1.below hb, h.f2.below hb, below_more h.bel hb⟩
theorem sl_new {w3 w4 w5 : World} {v : Value} {l : List Int} (hs : Sl w3 v l) (hb : Below w3.heap.size w3 w4) (ho : Onto w3.heap.size w4 w5) : Sl w5 v l := by
  by_cases h0 : 0 < l.length
  · exact sl_onto (hs.below hb) ho (fun e => by have := hs.lt h0 _ e; omega)
  · obtain ⟨a, cap, rfl, h1, h2⟩ := hs
    exact ⟨a, cap, rfl, ⟨h1.1, .inl (by omega)⟩, h2⟩
theorem row_new {w3 w4 w5 : World} {g : Nat} {cs : Array Value} {T : TypeId} (r : Row w3 g cs T) (hb : Below w3.heap.size w3 w4) (ho : Onto w3.heap.size w4 w5) : Row w5 g cs T := (r.below hb).onto ho (by have := r.lt; omega)
theorem bel_new {w w3 w4 w5 : World} (h : Below w.heap.size w w3) (hb : Below w3.heap.size w3 w4) (ho : Onto w3.heap.size w4 w5) : Below w.heap.size w w5 := below_onto (h.trans (hb.mono h.size)) ho h.size
end Go.Proofs.Ytogmhpjelmlonaa.Mem
namespace Go.Proofs.Ytogmhpjelmlonaa.Mem
open Go.ChangeShapes Go.WideShapes Go.RowKit Base Draw Slc Num Rw Tmr Srl Rom RomOf Reg
set_option linter.unusedVariables false
set_option linter.unusedSimpArgs false

set_option maxRecDepth 20000 in
set_option maxHeartbeats 4000000 in
theorem memory_any (a : Option Addr) (len cap : Nat) (w : World) (hc : CodeAt w a len) :
    Calls Try.prog 3 #[.slice a len cap] w fun e w' => e = .returned (.bool true) ∧ Below w.heap.size w w' := by
  by_cases hl : len ≤ 4096
  · have hs : decide ((4096 : Int) < (len : Int)) = false := by simp; omega
    go_enter Try.func3, Try.ntmps3
    go_wp2_with (go_at_call 8; refine (big_m _ _ _ _).mono ?_; rintro e w0 ⟨rfl, rfl⟩; rw [hs])
    go_at_call 9
    refine (drawWrittenAt_any a len cap _ hc hl).mono ?_
    rintro e w1 ⟨x, y, M, z, n, rfl, hm1, hB_1⟩
    have a1_1 := hm1.s1
    have a2_1 := hm1.s2
    go_wp2_with (first
      | (refine al_mc rfl rfl ?_; intro w2 zt2 hb2)
      | (refine st_mc rfl rfl rfl rfl zt2 (one_sl hm1.s1) (one_sl hm1.s2) ?_; rintro w3 A_3 o3 -; have a1_3 := sl_new a1_1 hb2 o3; have a2_3 := sl_new a2_1 hb2 o3; have hB_3 := bel_new hB_1 hb2 o3)
      | (refine ld_mc rfl rfl rfl A_3 ?_))
    go_at_call 10
    refine (writtenAt_impl _ M z n _ ⟨x, y, rfl, a1_3, a2_3⟩).mono ?_
    have hck := clock_same M z n
    generalize hN : M.writtenAt z n = N at hck
    have HN : Hid (M.writtenAt z n = N) := hN
    have HC : Hid (N.k = M.k ∨ N.rom.length = 0) := hck
    clear hN hck
    rintro e w4 ⟨v4, rfl, ⟨ar, aa, rfl, hp1, hp2, hp3⟩, hbe4⟩
    have A_4 := A_3.below hbe4
    have a1_4 := a1_3.below hbe4
    have a2_4 := a2_3.below hbe4
    have hB_4 := hB_3.trans (hbe4.mono hB_3.size)
    have b1_4 := hp1.sl
    have b2_4 := hp2.sl
    go_wp2_with (first
      | (refine al_mc rfl rfl ?_; intro w5 zt5 hb5)
      | (refine st_mc rfl rfl rfl rfl zt5 (one_own hp1) (one_own hp2) ?_; rintro w6 B_6 o6 -; have A_6 := row_new A_4 hb5 o6; have a1_6 := sl_new a1_4 hb5 o6; have a2_6 := sl_new a2_4 hb5 o6; have b1_6 := sl_new b1_4 hb5 o6; have b2_6 := sl_new b2_4 hb5 o6; have hB_6 := bel_new hB_4 hb5 o6))
    go_at_call 11
    refine (drawReadAt_any a len cap _ (hc.below hB_6) hl).mono ?_
    rintro e w7 ⟨x2, y2, M2, z2, rfl, hm7, hbe7⟩
    have A_7 := A_6.below hbe7
    have B_7 := B_6.below hbe7
    have a1_7 := a1_6.below hbe7
    have a2_7 := a2_6.below hbe7
    have b1_7 := b1_6.below hbe7
    have b2_7 := b2_6.below hbe7
    have hB_7 := hB_6.trans (hbe7.mono hB_6.size)
    have c1_7 := hm7.s1
    have c2_7 := hm7.s2
    go_wp2_with (first
      | (refine al_mc rfl rfl ?_; intro w8 zt8 hb8)
      | (refine st_mc rfl rfl rfl rfl zt8 (one_sl hm7.s1) (one_sl hm7.s2) ?_; rintro w9 C_9 o9 -; have A_9 := row_new A_7 hb8 o9; have B_9 := row_new B_7 hb8 o9; have a1_9 := sl_new a1_7 hb8 o9; have a2_9 := sl_new a2_7 hb8 o9; have b1_9 := sl_new b1_7 hb8 o9; have b2_9 := sl_new b2_7 hb8 o9; have c1_9 := sl_new c1_7 hb8 o9; have c2_9 := sl_new c2_7 hb8 o9; have hB_9 := bel_new hB_7 hb8 o9))
    go_at_call 12
    refine (drawMachineOk_any a len cap _ (hc.below hB_9) hl).mono ?_
    rintro e w10 ⟨x3, y3, M3, rfl, hm10, hbe10⟩
    have A_10 := A_9.below hbe10
    have B_10 := B_9.below hbe10
    have C_10 := C_9.below hbe10
    have a1_10 := a1_9.below hbe10
    have a2_10 := a2_9.below hbe10
    have b1_10 := b1_9.below hbe10
    have b2_10 := b2_9.below hbe10
    have c1_10 := c1_9.below hbe10
    have c2_10 := c2_9.below hbe10
    have hB_10 := hB_9.trans (hbe10.mono hB_9.size)
    have d1_10 := hm10.s1
    have d2_10 := hm10.s2
    go_wp2_with (first
      | (refine al_mc rfl rfl ?_; intro w11 zt11 hb11)
      | (refine st_mc rfl rfl rfl rfl zt11 (one_sl hm10.s1) (one_sl hm10.s2) ?_; rintro w12 D_12 o12 -; have A_12 := row_new A_10 hb11 o12; have B_12 := row_new B_10 hb11 o12; have C_12 := row_new C_10 hb11 o12; have a1_12 := sl_new a1_10 hb11 o12; have a2_12 := sl_new a2_10 hb11 o12; have b1_12 := sl_new b1_10 hb11 o12; have b2_12 := sl_new b2_10 hb11 o12; have c1_12 := sl_new c1_10 hb11 o12; have c2_12 := sl_new c2_10 hb11 o12; have d1_12 := sl_new d1_10 hb11 o12; have d2_12 := sl_new d2_10 hb11 o12; have hB_12 := bel_new hB_10 hb11 o12))
    have hG : Gl w0 w1.heap.size w4.heap.size w7.heap.size w10.heap.size x y ar aa x2 y2 x3 y3 M N M2 M3 w12 := ⟨A_12, B_12, C_12, D_12, a1_12, a2_12, b1_12, b2_12, c1_12, c2_12, d1_12, d2_12, hB_12⟩
    clear a1_1 a2_1 A_3 a1_3 a2_3 A_4 a1_4 a2_4 b1_4 b2_4 A_6 B_6 a1_6 a2_6 b1_6 b2_6 A_7 B_7 a1_7 a2_7 b1_7 b2_7 c1_7 c2_7 A_9 B_9 C_9 a1_9 a2_9 b1_9 b2_9 c1_9 c2_9 A_10 B_10 C_10 a1_10 a2_10 b1_10 b2_10 c1_10 c2_10 d1_10 d2_10 A_12 B_12 C_12 D_12 a1_12 a2_12 b1_12 b2_12 c1_12 c2_12 d1_12 d2_12 hp1 hp2 hp3 zt2 zt5 zt8 zt11 o3 o6 o9 o12 hbe4 hbe7 hbe10
    refine region_by (by kernel_rfl) (by kernel_rfl) (fun W => Gl w0 w1.heap.size w4.heap.size w7.heap.size w10.heap.size x y ar aa x2 y2 x3 y3 M N M2 M3 W)
      (kinds [KIs (N.val ar aa), KIs (M.val x y), KIs (.int .i64 z), KIs (.int .i64 n), KMs N, KIs (.bool true), KIs (.bool false), KIs (.bool false), KIs (M2.val x2 y2), KIs (.int .i64 z2), KIs (.int .i64 (M2.readAt z2)), KIs (M2.val x2 y2), KIs (.int .i64 z2), KIs (.int .i64 (M2.readAt z2)), KIs (.bool false), KIs (.bool false), KIs (.bool false), KIs (M3.val x3 y3), KIs (.bool M3.ok), KIs (M3.val x3 y3), KIs (.bool M3.ok), KIs (.bool false), KIs (.bool false)])
      (Rel fun _ => False) (by kernel_rfl) (kinds_mono ?mono) (hG.below (drew_below (n := 1) rfl)) ?step ?done
    case mono =>
      intro K hK
      simp only [List.mem_cons, List.not_mem_nil, or_false] at hK
      rcases hK with rfl | rfl | rfl | rfl | rfl | rfl | rfl | rfl | rfl | rfl | rfl | rfl | rfl | rfl | rfl | rfl | rfl | rfl | rfl | rfl | rfl | rfl | rfl
      all_goals first | exact bears_is _ _ | exact bears_ms _
    case step =>
      intro L ix o A W hi hI hL hd
      have hin : ix < 23 := by
        by_cases hl : ix < 23
        · exact hl
        · simp [hl] at hi
      have hsz : A.tmps.size = 122 := hI.size
      have hS := hI.g
      rcases ix with _ | ix
      · obtain rfl := (Option.some.inj hi).symm
        have e : A.eval (.tmp 6) = .pointer (some ⟨w4.heap.size, 0, none⟩) := hI.old 6 (by kernel_rfl)
        exact at_op rfl rfl (wp_load_row _ _ rfl _ e _ _ _ _ hS.B.row Try.underlying30 rfl info_mc ⟨_, rfl, rfl, hS, Rel.refl _ _⟩)
      rcases ix with _ | ix
      · obtain rfl := (Option.some.inj hi).symm
        have e : A.eval (.tmp 3) = .pointer (some ⟨w1.heap.size, 0, none⟩) := hI.old 3 (by kernel_rfl)
        exact at_op rfl rfl (wp_load_row _ _ rfl _ e _ _ _ _ hS.A.row Try.underlying30 rfl info_mc ⟨_, rfl, rfl, hS, Rel.refl _ _⟩)
      rcases ix with _ | ix
      · obtain rfl := (Option.some.inj hi).symm
        have e : A.eval (.tmp 4) = .int .i64 z := hI.old 4 (by kernel_rfl)
        exact at_op rfl rfl (move_op rfl ⟨_, rfl, e, hS, Rel.refl _ _⟩)
      rcases ix with _ | ix
      · obtain rfl := (Option.some.inj hi).symm
        have e : A.eval (.tmp 5) = .int .i64 n := hI.old 5 (by kernel_rfl)
        exact at_op rfl rfl (move_op rfl ⟨_, rfl, e, hS, Rel.refl _ _⟩)
      rcases ix with _ | ix
      · obtain rfl := (Option.some.inj hi).symm
        have e0 : A.eval (.tmp 40) = M.val x y := hI.get hd 1 40 rfl (by kernel_rfl)
        have e1 : A.eval (.tmp 41) = .int .i64 z := hI.get hd 2 41 rfl (by kernel_rfl)
        have e2 : A.eval (.tmp 42) = .int .i64 n := hI.get hd 3 42 rfl (by kernel_rfl)
        refine at_op rfl rfl (call_op rfl Try.func14 (by kernel_rfl) (by kernel_rfl) ?_)
        simp only [List.map_cons, List.map_nil, e0, e1, e2]
        refine (writtenAt_spec _ M z n W ⟨x, y, rfl, hS.a1, hS.a2⟩).mono ?_
        rw [HN.out]; rintro e w20 ⟨v20, rfl, ho20, hb20⟩
        exact ⟨_, rfl, _, rfl, ho20.sl, hS.below hb20, Rel.below hb20⟩
      rcases ix with _ | ix
      · obtain rfl := (Option.some.inj hi).symm
        have e0 : A.eval (.tmp 39) = N.val ar aa := hI.get hd 0 39 rfl (by kernel_rfl)
        obtain ⟨pr, pa, eq1, hq1, hq2⟩ : KMs N (A.eval (.tmp 43)) W := hI.get hd 4 43 rfl (by kernel_rfl)
        have e1 : A.eval (.tmp 43) = N.val pr pa := eq1
        refine at_op rfl rfl (call_op rfl Try.func13 (by kernel_rfl) (by kernel_rfl) ?_)
        simp only [List.map_cons, List.map_nil, e0, e1]
        refine (likeMachine_same ar aa pr pa N W hS.b1 hS.b2 hq1 hq2).mono ?_
        rintro e w20 ⟨rfl, hb20⟩
        exact ⟨_, rfl, _, rfl, rfl, hS.below hb20, Rel.below hb20⟩
      rcases ix with _ | ix
      · obtain rfl := (Option.some.inj hi).symm
        have e : A.eval (.tmp 44) = .bool true := hI.get hd 5 44 rfl (by kernel_rfl)
        refine at_op rfl rfl (val_op (v := .bool false) ?_ ⟨_, rfl, rfl, hS, Rel.refl _ _⟩)
        unfold execOp
        simp only [List.getElem_toArray, List.getElem_cons_zero, List.getElem_cons_succ, e]
        simp [go_sem]
      rcases ix with _ | ix
      · obtain rfl := (Option.some.inj hi).symm
        have e : A.eval (.tmp 45) = .bool false := hI.get hd 6 45 rfl (by kernel_rfl)
        exact at_op rfl rfl (move_op rfl ⟨_, rfl, e, hS, Rel.refl _ _⟩)
      rcases ix with _ | ix
      · obtain rfl := (Option.some.inj hi).symm
        have hg : A.tmps.getD 46 undef = .bool false := hI.get hd 7 46 rfl (by kernel_rfl)
        have e : A.eval (.tmp 7) = .pointer (some ⟨w7.heap.size, 0, none⟩) := hI.old 7 (by kernel_rfl)
        exact at_guard rfl rfl (j := 7) (k := 46) rfl (by omega) hg (wp_load_row _ _ rfl _ e _ _ _ _ hS.C.row Try.underlying30 rfl info_mc ⟨_, rfl, rfl, hS, Rel.refl _ _⟩)
      rcases ix with _ | ix
      · obtain rfl := (Option.some.inj hi).symm
        have hg : A.tmps.getD 46 undef = .bool false := hI.get hd 7 46 rfl (by kernel_rfl)
        have e : A.eval (.tmp 8) = .int .i64 z2 := hI.old 8 (by kernel_rfl)
        exact at_guard rfl rfl (j := 7) (k := 46) rfl (by omega) hg (move_op rfl ⟨_, rfl, e, hS, Rel.refl _ _⟩)
      rcases ix with _ | ix
      · obtain rfl := (Option.some.inj hi).symm
        have hg : A.tmps.getD 46 undef = .bool false := hI.get hd 7 46 rfl (by kernel_rfl)
        have e0 : A.eval (.tmp 47) = M2.val x2 y2 := hI.get hd 8 47 rfl (by kernel_rfl)
        have e1 : A.eval (.tmp 48) = .int .i64 z2 := hI.get hd 9 48 rfl (by kernel_rfl)
        refine at_guard rfl rfl (j := 7) (k := 46) rfl (by omega) hg (call_op rfl Try.func15 (by kernel_rfl) (by kernel_rfl) ?_)
        simp only [List.map_cons, List.map_nil, e0, e1]
        refine (readAt_impl _ M2 z2 W ⟨x2, y2, rfl, hS.c1, hS.c2⟩).mono ?_
        rintro e w20 ⟨rfl, hb20⟩
        exact ⟨_, rfl, _, rfl, rfl, hS.below hb20, Rel.below hb20⟩
      rcases ix with _ | ix
      · obtain rfl := (Option.some.inj hi).symm
        have hg : A.tmps.getD 46 undef = .bool false := hI.get hd 7 46 rfl (by kernel_rfl)
        have e : A.eval (.tmp 7) = .pointer (some ⟨w7.heap.size, 0, none⟩) := hI.old 7 (by kernel_rfl)
        exact at_guard rfl rfl (j := 7) (k := 46) rfl (by omega) hg (wp_load_row _ _ rfl _ e _ _ _ _ hS.C.row Try.underlying30 rfl info_mc ⟨_, rfl, rfl, hS, Rel.refl _ _⟩)
      rcases ix with _ | ix
      · obtain rfl := (Option.some.inj hi).symm
        have hg : A.tmps.getD 46 undef = .bool false := hI.get hd 7 46 rfl (by kernel_rfl)
        have e : A.eval (.tmp 8) = .int .i64 z2 := hI.old 8 (by kernel_rfl)
        exact at_guard rfl rfl (j := 7) (k := 46) rfl (by omega) hg (move_op rfl ⟨_, rfl, e, hS, Rel.refl _ _⟩)
      rcases ix with _ | ix
      · obtain rfl := (Option.some.inj hi).symm
        have hg : A.tmps.getD 46 undef = .bool false := hI.get hd 7 46 rfl (by kernel_rfl)
        have e0 : A.eval (.tmp 50) = M2.val x2 y2 := hI.get hd 11 50 rfl (by kernel_rfl)
        have e1 : A.eval (.tmp 51) = .int .i64 z2 := hI.get hd 12 51 rfl (by kernel_rfl)
        refine at_guard rfl rfl (j := 7) (k := 46) rfl (by omega) hg (call_op rfl Try.func16 (by kernel_rfl) (by kernel_rfl) ?_)
        simp only [List.map_cons, List.map_nil, e0, e1]
        refine (readAt_spec _ M2 z2 W ⟨x2, y2, rfl, hS.c1, hS.c2⟩).mono ?_
        rintro e w20 ⟨rfl, hb20⟩
        exact ⟨_, rfl, _, rfl, rfl, hS.below hb20, Rel.below hb20⟩
      rcases ix with _ | ix
      · obtain rfl := (Option.some.inj hi).symm
        have hg : A.tmps.getD 46 undef = .bool false := hI.get hd 7 46 rfl (by kernel_rfl)
        have e1 : A.eval (.tmp 49) = .int .i64 (M2.readAt z2) := hI.get hd 10 49 rfl (by kernel_rfl)
        have e2 : A.eval (.tmp 52) = .int .i64 (M2.readAt z2) := hI.get hd 13 52 rfl (by kernel_rfl)
        exact at_guard rfl rfl (j := 7) (k := 46) rfl (by omega) hg (bin_op rfl e1 e2 (fun w => by simp [go_sem]) ⟨_, rfl, rfl, hS, Rel.refl _ _⟩)
      rcases ix with _ | ix
      · obtain rfl := (Option.some.inj hi).symm
        have e1 : A.eval (.tmp 46) = .bool false := hI.get hd 7 46 rfl (by kernel_rfl)
        have e3 : A.eval (.tmp 53) = .bool false := hI.get hd 14 53 rfl (by kernel_rfl)
        exact at_op rfl rfl (pick_op rfl e1 ⟨_, rfl, e3, hS, Rel.refl _ _⟩)
      rcases ix with _ | ix
      · obtain rfl := (Option.some.inj hi).symm
        have e : A.eval (.tmp 54) = .bool false := hI.get hd 15 54 rfl (by kernel_rfl)
        exact at_op rfl rfl (move_op rfl ⟨_, rfl, e, hS, Rel.refl _ _⟩)
      rcases ix with _ | ix
      · obtain rfl := (Option.some.inj hi).symm
        have hg : A.tmps.getD 55 undef = .bool false := hI.get hd 16 55 rfl (by kernel_rfl)
        have e : A.eval (.tmp 9) = .pointer (some ⟨w10.heap.size, 0, none⟩) := hI.old 9 (by kernel_rfl)
        exact at_guard rfl rfl (j := 16) (k := 55) rfl (by omega) hg (wp_load_row _ _ rfl _ e _ _ _ _ hS.D.row Try.underlying30 rfl info_mc ⟨_, rfl, rfl, hS, Rel.refl _ _⟩)
      rcases ix with _ | ix
      · obtain rfl := (Option.some.inj hi).symm
        have hg : A.tmps.getD 55 undef = .bool false := hI.get hd 16 55 rfl (by kernel_rfl)
        have e0 : A.eval (.tmp 56) = M3.val x3 y3 := hI.get hd 17 56 rfl (by kernel_rfl)
        refine at_guard rfl rfl (j := 16) (k := 55) rfl (by omega) hg (call_op rfl Try.func17 (by kernel_rfl) (by kernel_rfl) ?_)
        simp only [List.map_cons, List.map_nil, e0]
        refine (machineOk_impl _ M3 W ⟨x3, y3, rfl, hS.d1, hS.d2⟩).mono ?_
        rintro e w20 ⟨rfl, hb20⟩
        exact ⟨_, rfl, _, rfl, rfl, hS.below hb20, Rel.below hb20⟩
      rcases ix with _ | ix
      · obtain rfl := (Option.some.inj hi).symm
        have hg : A.tmps.getD 55 undef = .bool false := hI.get hd 16 55 rfl (by kernel_rfl)
        have e : A.eval (.tmp 9) = .pointer (some ⟨w10.heap.size, 0, none⟩) := hI.old 9 (by kernel_rfl)
        exact at_guard rfl rfl (j := 16) (k := 55) rfl (by omega) hg (wp_load_row _ _ rfl _ e _ _ _ _ hS.D.row Try.underlying30 rfl info_mc ⟨_, rfl, rfl, hS, Rel.refl _ _⟩)
      rcases ix with _ | ix
      · obtain rfl := (Option.some.inj hi).symm
        have hg : A.tmps.getD 55 undef = .bool false := hI.get hd 16 55 rfl (by kernel_rfl)
        have e0 : A.eval (.tmp 58) = M3.val x3 y3 := hI.get hd 19 58 rfl (by kernel_rfl)
        refine at_guard rfl rfl (j := 16) (k := 55) rfl (by omega) hg (call_op rfl Try.func18 (by kernel_rfl) (by kernel_rfl) ?_)
        simp only [List.map_cons, List.map_nil, e0]
        refine (machineOk_spec _ M3 W ⟨x3, y3, rfl, hS.d1, hS.d2⟩).mono ?_
        rintro e w20 ⟨rfl, hb20⟩
        exact ⟨_, rfl, _, rfl, rfl, hS.below hb20, Rel.below hb20⟩
      rcases ix with _ | ix
      · obtain rfl := (Option.some.inj hi).symm
        have hg : A.tmps.getD 55 undef = .bool false := hI.get hd 16 55 rfl (by kernel_rfl)
        have e1 : A.eval (.tmp 57) = .bool M3.ok := hI.get hd 18 57 rfl (by kernel_rfl)
        have e2 : A.eval (.tmp 59) = .bool M3.ok := hI.get hd 20 59 rfl (by kernel_rfl)
        exact at_guard rfl rfl (j := 16) (k := 55) rfl (by omega) hg (bin_op rfl e1 e2 (fun w => by simp [go_sem]) ⟨_, rfl, rfl, hS, Rel.refl _ _⟩)
      rcases ix with _ | ix
      · obtain rfl := (Option.some.inj hi).symm
        have e1 : A.eval (.tmp 55) = .bool false := hI.get hd 16 55 rfl (by kernel_rfl)
        have e3 : A.eval (.tmp 60) = .bool false := hI.get hd 21 60 rfl (by kernel_rfl)
        exact at_op rfl rfl (pick_op rfl e1 ⟨_, rfl, e3, hS, Rel.refl _ _⟩)
      omega
    case done =>
      intro A W hI
      have hS := hI.g
      have e61 : A.tmps.getD 61 undef = .bool false := hI.slot 22 61 rfl rfl
      have hA := hI.frame [39, 40, 41, 42, 43, 44, 45, 46, 47, 48, 49, 50, 51, 52, 53, 54, 55, 56, 57, 58, 59, 60, 61] (by kernel_rfl)
      rw [hA]
      simp only [putAll, List.foldl_cons, List.foldl_nil, e61]
      clear hA hI e61
      have hS0 := hS.bel.size
      simp only [Act.put, List.setIfInBounds_toArray, List.set_cons_zero, List.set_cons_succ]
      have hbar := hS.b1.lt
      have lA := hS.A.lt
      have lB := hS.B.lt
      go_wp2_with fail
      go_at_call 19
      refine (Dice.roll_any a len cap _ _ (hc.below hS.bel) hl).mono ?_
      rintro e v1 ⟨rfl, hv1, hdice⟩
      go_wp2_with fail
      go_at_call 21
      refine (Prg.program_any _ hdice).mono ?_
      rintro e v2 ⟨vc, l, rfl, hoc, hl32, hl1, hall, hro⟩
      have A2 := row_new hS.A hv1 hro.1
      have B2 := row_new hS.B hv1 hro.1
      have b2 := sl_new hS.b1 hv1 hro.1
      have hB2 := bel_new hS.bel hv1 hro.1
      have hd2 := hro.2
      have s1 := hv1.size
      have s2 := hro.1.size
      have sp := hdice.lt
      clear hS hro hdice
      go_wp2_with fail
      go_at_call 20
      refine (romOf_spec vc l _ hoc.sl (by omega)).mono ?_
      rintro e v3 ⟨vr3, rfl, ho3, hb3⟩
      have hrom := rom_bytes hall hl1 (by omega)
      have hro2 : romOf l = l ++ [chk l] := by simp [romOf, hrom]
      rw [hro2] at ho3
      have A3 := A2.below hb3
      have B3 := B2.below hb3
      have b3 := b2.below hb3
      have hB3 := hB2.trans (hb3.mono hB2.size)
      have hd3 := hd2.below hb3
      have s3 := hb3.size
      clear A2 B2 b2 hB2 hd2 hoc
      go_wp2_with fail
      go_at_call 22
      refine (newMachine_impl vr3 (l ++ [chk l]) _ ho3.sl).mono ?_
      have hnm : newMc (l ++ [chk l]) = Mc.fresh (l ++ [chk l]) := by simp [newMc, hrom]
      rw [hnm, hrom]
      rintro e v4 ⟨vv4, rfl, ⟨er, ea, rfl, he1, he2, he3⟩, hb4⟩
      have A4 := A3.below hb4
      have B4 := B3.below hb4
      have b4 := b3.below hb4
      have hB4 := hB3.trans (hb4.mono hB3.size)
      have hd4 := hd3.below hb4
      have s4 := hb4.size
      have hel1 := he1.lt
      have hel2 := he2.lt
      clear A3 B3 b3 hB3 hd3 ho3
      have HE1 : Hid ((Mc.fresh (l ++ [chk l])).ok = true) := fresh_ok hrom
      have HE2 : Hid (∀ (k : Nat), k < 64 → ∀ (u : Int), bok u = true → ((Mc.fresh (l ++ [chk l])).writtenAt (128 + (k : Int)) u).ok = true ∧ ∀ i : Int, 0 ≤ i ∧ i < 256 → ((Mc.fresh (l ++ [chk l])).writtenAt (128 + (k : Int)) u).readAt i = if i = 128 + (k : Int) then u else (Mc.fresh (l ++ [chk l])).readAt i) :=
        fun k hk u hu => ⟨set_ok hrom k hk hu, fun i hi => read_set hrom k hk hu i hi⟩
      generalize Mc.fresh (l ++ [chk l]) = E at HE1 HE2 he1 he2 hel1 hel2 ⊢
      go_wp2_with (first
        | (refine al_mc rfl rfl ?_; intro v5 z5 hb5; have l5 := z5.lt)
        | (refine st_mc rfl rfl rfl rfl z5 (one_own he1) (one_own he2) ?_; rintro v6 E6 o6 -; have A6 := row_new A4 hb5 o6; have B6 := row_new B4 hb5 o6; have b6 := sl_new b4 hb5 o6; have hB6 := bel_new hB4 hb5 o6; have hd6 := (hd4.below hb5).onto o6 (by omega) (fun h0 x hx e => by have := hd4.code.lt h0 x hx; omega); have x6 := (he1.below hb5).onto o6 (fun e => by have := hel1 _ e; omega); have y6 := (he2.below hb5).onto o6 (fun e => by have := hel2 _ e; omega); have s6 := o6.size))
      clear A4 B4 b4 hB4 hd4 he1 he2 z5
      go_at_call 23
      refine (Dice.below_any _ a len cap _ _ hd6 (by omega)).mono ?_
      rintro e v7 ⟨k, rfl, hk, o7, hd7⟩
      have A7 := A6.onto o7 (by omega)
      have B7 := B6.onto o7 (by omega)
      have E7 := E6.onto o7 (by omega)
      have b7 := (Turn.onto (X := fun q => q = W.heap.size) o7 rfl).sl b6 (fun h0 q hq e => by have := hbar h0 q hq; omega)
      have x7 := x6.onto o7 (fun e => by have := hel1 _ e; omega)
      have y7 := y6.onto o7 (fun e => by have := hel2 _ e; omega)
      have hB7 := below_onto hB6 o7 (by have := hS0; omega)
      clear A6 B6 E6 b6 x6 y6 hB6 hd6
      go_wp2_with fail
      go_at_call 23
      refine (Dice.below_any _ a len cap _ _ hd7 (by omega)).mono ?_
      rintro e v8 ⟨u, rfl, hu, o8, hd8⟩
      have A8 := A7.onto o8 (by omega)
      have B8 := B7.onto o8 (by omega)
      have E8 := E7.onto o8 (by omega)
      have b8 := (Turn.onto (X := fun q => q = W.heap.size) o8 rfl).sl b7 (fun h0 q hq e => by have := hbar h0 q hq; omega)
      have x8 := x7.onto o8 (fun e => by have := hel1 _ e; omega)
      have y8 := y7.onto o8 (fun e => by have := hel2 _ e; omega)
      have hB8 := below_onto hB7 o8 (by have := hS0; omega)
      clear A7 B7 E7 b7 x7 y7 hB7 hd7 hd8
      have hku := HE2.out k (by omega) (u : Int) (by simp [bok]; omega)
      go_wp2_with (refine ld_mc rfl rfl rfl E8 ?_)
      go_at_call 10
      refine (writtenAt_impl _ E (128 + (k : Int)) (u : Int) _ ⟨er, ea, rfl, x8.sl, y8.sl⟩).mono ?_
      generalize E.writtenAt (128 + (k : Int)) (u : Int) = FF at hku ⊢
      rintro e v9 ⟨vv9, rfl, ⟨fr, fa, rfl, hf1, hf2, hf3⟩, hb9⟩
      have A9 := A8.below hb9
      have B9 := B8.below hb9
      have E9 := E8.below hb9
      have b9 := b8.below hb9
      have x9 := x8.sl.below hb9
      have y9 := y8.sl.below hb9
      have hB9 := hB8.trans (hb9.mono hB8.size)
      clear A8 B8 E8 b8 x8 y8 hB8
      go_wp2_with (first
        | (refine al_mc rfl rfl ?_; intro v10 z10 hb10)
        | (refine st_mc rfl rfl rfl rfl z10 (one_own hf1) (one_own hf2) ?_; rintro v11 F11 o11 -; have hK : Gk w0 w1.heap.size w4.heap.size v4.heap.size v9.heap.size x y ar aa er ea fr fa M N E FF v11 := ⟨row_new A9 hb10 o11, row_new B9 hb10 o11, row_new E9 hb10 o11, F11, sl_new b9 hb10 o11, sl_new x9 hb10 o11, sl_new y9 hb10 o11, sl_new hf1.sl hb10 o11, sl_new hf2.sl hb10 o11, bel_new hB9 hb10 o11⟩))
      clear A9 B9 E9 b9 x9 y9 hB9 hf1 hf2 hf3 z10 o11 F11
      have HK : Hid (FF.ok = true ∧ ∀ i : Int, 0 ≤ i ∧ i < 256 → FF.readAt i = if i = 128 + (k : Int) then (u : Int) else E.readAt i) := hku
      clear hku HE2
      go_loopw [18] (fun i wr => ∃ j : Nat, i = .int .i64 j ∧ j ≤ 256 ∧ Gk w0 w1.heap.size w4.heap.size v4.heap.size v9.heap.size x y ar aa er ea fr fa M N E FF wr) (fun i _ => 256 - (intOf i).toNat)
      case atStart => exact ⟨0, rfl, by omega, hK⟩
      case round =>
        clear hK
        obtain ⟨j, rfl, hj256, hK⟩ := hrel
        by_cases hj : j < 256
        · have hread := HK.out.2 (j : Int) (by omega)
          by_cases hjk : (j : Int) = 128 + (k : Int)
          · rw [if_pos hjk] at hread
            have HR : Hid (FF.readAt (j : Int) = (u : Int)) := hread
            clear hread
            have hjt : ((j : Int) == 128 + (k : Int)) = true := by simp [hjk]
            have HJ : Hid ((j : Int) = 128 + (k : Int)) := hjk
            clear hjk
            go_wp2_with (refine ld_mc rfl rfl rfl hK.rE ?_)
            go_at_call 15
            refine (readAt_impl _ E (j : Int) _ ⟨er, ea, rfl, hK.e1, hK.e2⟩).mono ?_
            rintro e u1 ⟨rfl, hbu1⟩
            replace hK := hK.below hbu1
            generalize E.readAt (j : Int) = q0
            go_wp2_with (refine ld_mc rfl rfl rfl hK.rF ?_)
            go_at_call 15
            refine (readAt_impl _ FF (j : Int) _ ⟨fr, fa, rfl, hK.f1, hK.f2⟩).mono ?_
            rw [HR.out]
            rintro e u2 ⟨rfl, hbu2⟩
            replace hK := hK.below hbu2
            go_wp2_with fail
            go_roundw
            case rel => exact ⟨j + 1, by go_num, by omega, hK⟩
            case measure => simp [intOf]; omega
          · rw [if_neg hjk] at hread
            have HR : Hid (FF.readAt (j : Int) = E.readAt (j : Int)) := hread
            clear hread
            have hjt : ((j : Int) == 128 + (k : Int)) = false := by simpa using hjk
            clear hjk
            go_wp2_with (refine ld_mc rfl rfl rfl hK.rE ?_)
            go_at_call 15
            refine (readAt_impl _ E (j : Int) _ ⟨er, ea, rfl, hK.e1, hK.e2⟩).mono ?_
            rintro e u1 ⟨rfl, hbu1⟩
            replace hK := hK.below hbu1
            go_wp2_with (refine ld_mc rfl rfl rfl hK.rF ?_)
            go_at_call 15
            refine (readAt_impl _ FF (j : Int) _ ⟨fr, fa, rfl, hK.f1, hK.f2⟩).mono ?_
            rw [HR.out]
            rintro e u2 ⟨rfl, hbu2⟩
            replace hK := hK.below hbu2
            generalize E.readAt (j : Int) = q0
            go_wp2_with fail
            go_roundw
            case rel => exact ⟨j + 1, by go_num, by omega, hK⟩
            case measure => simp [intOf]; omega
        · go_wp2_with (first
            | (refine ld_mcg rfl rfl rfl hK.rE ?_)
            | (refine ld_mcg rfl rfl rfl hK.rF ?_))
          go_at_call 17
          refine (machineOk_impl _ E _ ⟨er, ea, rfl, hK.e1, hK.e2⟩).mono ?_
          rw [HE1.out]
          rintro e u1 ⟨rfl, hbu1⟩
          replace hK := hK.below hbu1
          go_wp2_with (first
            | (refine ld_mcg rfl rfl rfl hK.rF ?_))
          go_at_call 17
          refine (machineOk_impl _ FF _ ⟨fr, fa, rfl, hK.f1, hK.f2⟩).mono ?_
          rw [HK.out.1]
          rintro e u2 ⟨rfl, hbu2⟩
          replace hK := hK.below hbu2
          have kA := (cw hK.rA).k
          have kB := (cw hK.rB).k
          have kR := (cw hK.rB).vr
          obtain ⟨aR, cR, hAR, _, hcR1, hcR2, _⟩ := hK.b1
          have hBz := hK.bel
          unfold maxLen at hcR2
          by_cases hkk : N.k = M.k
          · have hkt : (N.k == M.k) = true := by simp [hkk]
            clear hK hkk
            go_wp2
            go_ret
            exact ⟨rfl, hBz⟩
          · have hkt : (N.k == M.k) = false := by simpa using hkk
            have hz0 : N.rom.length = 0 := HC.out.resolve_left hkk
            rw [hz0] at hAR
            clear hK hkk
            go_wp2
            go_ret
            exact ⟨rfl, hBz⟩
  · have hs : decide ((4096 : Int) < (len : Int)) = true := by simp; omega
    go_enter Try.func3, Try.ntmps3
    go_wp2_with (go_at_call 8; refine (big_m _ _ _ _).mono ?_; rintro e w0 ⟨rfl, rfl⟩; rw [hs])
    go_ret
    exact ⟨rfl, Below.refl _ _⟩
end Go.Proofs.Ytogmhpjelmlonaa.Mem
