/-
  What FnMemory wants to be known of machines.
-/
import Derived.Test.YtogmhpjelmlonaaMcDraw5
import Derived.Test.YtogmhpjelmlonaaMcSame
import Derived.Test.YtogmhpjelmlonaaMcWriteJ
import Derived.Test.YtogmhpjelmlonaaMcWrite
import Derived.Test.YtogmhpjelmlonaaMcReadI
import Derived.Test.YtogmhpjelmlonaaMcLaw
import Derived.Test.YtogmhpjelmlonaaPrg
namespace Go.Proofs.Ytogmhpjelmlonaa.Mem
open Go.ChangeShapes Go.WideShapes Go.RowKit Base Draw Slc Num Rw Tmr Srl Rom RomOf Reg
set_option linter.unusedVariables false
set_option linter.unusedSimpArgs false

theorem big_m (a : Option Addr) (len cap : Nat) (w : World) :
    Calls Try.prog 8 #[.slice a len cap] w fun e w' => e = .returned (.bool (decide ((4096 : Int) < (len : Int)))) ∧ w' = w := by
  go_enter Try.func8, Try.ntmps8
  go_wp2
  go_ret
  exact ⟨rfl, rfl⟩
theorem fresh_ok {l : List Int} (h : romOk l = true) : (Mc.fresh l).ok = true := by
  simp only [Mc.ok, Mc.fresh, h]
  rfl
theorem fresh_set_ok {l : List Int} (h : romOk l = true) (j : Nat) {v : Int} (hv : bok v = true) : ({ Mc.fresh l with ram := (Mc.fresh l).ram.set j v } : Mc).ok = true := by
  have hb : ((List.replicate 64 (0 : Int)).set j v).all bok = true := by
    rw [List.all_eq_true]
    intro x hx
    rcases List.mem_or_eq_of_mem_set hx with h | h
    · rw [List.eq_of_mem_replicate h]; decide
    · rw [h]; exact hv
  have hl : ((List.replicate 64 (0 : Int)).set j v).length = 64 := by simp
  simp only [Mc.ok, Mc.fresh, h, hb, hl]
  decide
theorem read_set {l : List Int} (h : romOk l = true) (k : Nat) (hk : k < 64) {v : Int} (hv : bok v = true) (i : Int) (hi : 0 ≤ i ∧ i < 256) :
    ((Mc.fresh l).writtenAt (128 + (k : Int)) v).readAt i = if i = 128 + (k : Int) then v else (Mc.fresh l).readAt i := by
  have hq : bok (128 + (k : Int)) = true := by simp [bok]; omega
  have hbi : bok i = true := by simp [bok]; omega
  have hw : (Mc.fresh l).writtenAt (128 + (k : Int)) v = { Mc.fresh l with ram := (Mc.fresh l).ram.set k v } := by
    have h1 : 128 ≤ 128 + (k : Int) ∧ 128 + (k : Int) < 192 := by omega
    have h2 : (128 + (k : Int) - 128).toNat = k := by omega
    simp only [Mc.writtenAt, fresh_ok h, hq, hv, Bool.and_self, if_true, Mc.write, h1, and_self, h2]
  rw [hw]
  simp only [Mc.readAt, fresh_set_ok h k hv, fresh_ok h, hbi, Bool.and_self, if_true, Mc.read]
  by_cases h1 : i < 128
  · have hne : ¬ i = 128 + (k : Int) := by omega
    simp only [h1, hne, if_true, if_false]
  · by_cases h2 : i < 192
    · simp only [h1, h2, if_true, if_false]
      by_cases he : i = 128 + (k : Int)
      · have hj : (i - 128).toNat = k := by omega
        simp only [he, if_true]
        rw [show (128 + (k : Int) - 128).toNat = k by omega]
        simp [Mc.fresh, List.getD_eq_getElem?_getD, hk]
      · have hj : ¬ k = (i - 128).toNat := by omega
        simp only [he, if_false]
        simp [List.getD_eq_getElem?_getD, hj]
    · have hne : ¬ i = 128 + (k : Int) := by omega
      simp only [h1, h2, hne, if_false]
theorem set_ok {l : List Int} (h : romOk l = true) (k : Nat) (hk : k < 64) {v : Int} (hv : bok v = true) : ((Mc.fresh l).writtenAt (128 + (k : Int)) v).ok = true := by
  have hq : bok (128 + (k : Int)) = true := by simp [bok]; omega
  have hw : (Mc.fresh l).writtenAt (128 + (k : Int)) v = { Mc.fresh l with ram := (Mc.fresh l).ram.set k v } := by
    have h1 : 128 ≤ 128 + (k : Int) ∧ 128 + (k : Int) < 192 := by omega
    have h2 : (128 + (k : Int) - 128).toNat = k := by omega
    simp only [Mc.writtenAt, fresh_ok h, hq, hv, Bool.and_self, if_true, Mc.write, h1, and_self, h2]
  rw [hw]; exact fresh_set_ok h k hv
theorem clock_same (m : Mc) (q n : Int) : (m.writtenAt q n).k = m.k ∨ (m.writtenAt q n).rom.length = 0 := by
  unfold Mc.writtenAt Mc.write
  repeat' split
  all_goals first | exact .inl rfl | (right; rfl)
theorem Sl.rel {w w' : World} {v : Value} {l : List Int} (h : Sl w v l) (hr : Rel (fun _ => False) w w') : Sl w' v l := by
  obtain ⟨a, cap, rfl, h1, h2⟩ := h
  refine ⟨a, cap, rfl, ⟨h1.1, ?_⟩, h2⟩
  rcases h1.2 with h0 | ⟨b, off, rfl, hb, hc⟩
  · exact .inl h0
  · refine .inr ⟨b, off, rfl, Nat.lt_of_lt_of_le hb hr.1, fun i hi => ?_⟩
    rw [World.cell?_of_block (w := w) (a := ⟨b, off + i, none⟩) (hr.2 b (fun h => h) hb)]
    exact hc i hi
def KMs (N : Mc) (v : Value) (w : World) : Prop := MSl w v N
theorem bears_ms (N : Mc) : Bears (fun _ => False) (KMs N) := fun v w w' h hr => by
  obtain ⟨vr, va, e, h1, h2⟩ := h
  exact ⟨vr, va, e, Sl.rel h1 hr, Sl.rel h2 hr⟩
/-- The four machines that are drawn and written. -/
structure Gl (w : World) (gA gB gC gD : Nat) (x y ar aa x2 y2 x3 y3 : Value) (M N M2 M3 : Mc) (W : World) : Prop where
  A : MRow W gA x y M
  B : MRow W gB ar aa N
  C : MRow W gC x2 y2 M2
  D : MRow W gD x3 y3 M3
  a1 : Sl W x M.rom
  a2 : Sl W y M.ram
  b1 : Sl W ar N.rom
  b2 : Sl W aa N.ram
  c1 : Sl W x2 M2.rom
  c2 : Sl W y2 M2.ram
  d1 : Sl W x3 M3.rom
  d2 : Sl W y3 M3.ram
  bel : Below w.heap.size w W
theorem Gl.below {w W W' : World} {gA gB gC gD : Nat} {x y ar aa x2 y2 x3 y3 : Value} {M N M2 M3 : Mc} (h : Gl w gA gB gC gD x y ar aa x2 y2 x3 y3 M N M2 M3 W) (hb : Below W.heap.size W W') : Gl w gA gB gC gD x y ar aa x2 y2 x3 y3 M N M2 M3 W' :=
  ⟨h.A.below hb, h.B.below hb, h.C.below hb, h.D.below hb, h.a1.below hb, h.a2.below hb, h.b1.below hb, h.b2.below hb, h.c1.below hb, h.c2.below hb, h.d1.below hb, h.d2.below hb, below_more h.bel hb⟩
/-- The two that are kept, and the two of the loop. -/
structure Gk (w : World) (gA gB gE gF : Nat) (x y ar aa er ea fr fa : Value) (M N E F : Mc) (W : World) : Prop where
  rA : MRow W gA x y M
  rB : MRow W gB ar aa N
  rE : MRow W gE er ea E
  rF : MRow W gF fr fa F
  b1 : Sl W ar N.rom
  e1 : Sl W er E.rom
  e2 : Sl W ea E.ram
  f1 : Sl W fr F.rom
  f2 : Sl W fa F.ram
  bel : Below w.heap.size w W
theorem Gk.below {w W W' : World} {gA gB gE gF : Nat} {x y ar aa er ea fr fa : Value} {M N E F : Mc} (h : Gk w gA gB gE gF x y ar aa er ea fr fa M N E F W) (hb : Below W.heap.size W W') : Gk w gA gB gE gF x y ar aa er ea fr fa M N E F W' :=
  ⟨h.rA.below hb, h.rB.below hb, h.rE.below hb, h.rF.below hb, h.b1.below hb, h.e1.below hb, h.e2.below hb, h.f1.below hb, h.f2.below hb, below_more h.bel hb⟩
theorem sl_new {w3 w4 w5 : World} {v : Value} {l : List Int} (hs : Sl w3 v l) (hb : Below w3.heap.size w3 w4) (ho : Onto w3.heap.size w4 w5) : Sl w5 v l := by
  by_cases h0 : 0 < l.length
  · exact sl_onto (hs.below hb) ho (fun e => by have := hs.lt h0 _ e; omega)
  · obtain ⟨a, cap, rfl, h1, h2⟩ := hs
    exact ⟨a, cap, rfl, ⟨h1.1, .inl (by omega)⟩, h2⟩
theorem row_new {w3 w4 w5 : World} {g : Nat} {cs : Array Value} {T : TypeId} (r : Row w3 g cs T) (hb : Below w3.heap.size w3 w4) (ho : Onto w3.heap.size w4 w5) : Row w5 g cs T := (r.below hb).onto ho (by have := r.lt; omega)
theorem bel_new {w w3 w4 w5 : World} (h : Below w.heap.size w w3) (hb : Below w3.heap.size w3 w4) (ho : Onto w3.heap.size w4 w5) : Below w.heap.size w w5 := below_onto (h.trans (hb.mono h.size)) ho h.size
end Go.Proofs.Ytogmhpjelmlonaa.Mem
