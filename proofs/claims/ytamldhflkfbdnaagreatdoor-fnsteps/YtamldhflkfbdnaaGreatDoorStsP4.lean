/-
  What FnSteps leans on: part 4.
-/
import Derived.Deep.QuietTactic
import Derived.BigQuiet
import Derived.Test.YtamldhflkfbdnaaGreatDoorStsP1
import Derived.Test.YtamldhflkfbdnaaGreatDoorStsP2
import Derived.Test.YtamldhflkfbdnaaGreatDoorStsP3
set_option linter.unusedVariables false
set_option linter.unusedSimpArgs false
set_option maxRecDepth 20000
namespace Go.Proofs.YtamldhflkfbdnaaGreatDoor.Mem
open Go.ChangeShapes Go.WideShapes Go.RowKit Base Num Slc Rw Tmr Srl Rom RomOf Reg

theorem zDe {g : Nat} {w w' : World} {v : Value} {l : List Int} (h : Sl w v l) (ho : Onto g w w') (hv : v.ownBlock ≠ some g) : Sl w' v l := by
 obtain ⟨a, cap, rfl, h1, h2⟩ := h
 refine ⟨a, cap, rfl, h1.onto ho (fun _ x hx e => hv ?_), h2⟩
 subst hx
 simp [Value.ownBlock, e]
theorem zN2 {P : Program} {o : Oper} {a : Act} {w : World} {K : Act → World → Prop} {Q : Exit → Act → World → Prop} {ty : TypeId} {x y : Operand} (ho : o.op = .store ty x y)
  {g k : Nat} {v : Value} {cs : Array Value} {T : TypeId} (hx : a.eval x = .pointer (some ⟨g, k, none⟩)) (hy : a.eval y = v) (hr : Row w g cs T) (h1 : v.oneCell' = true)
  (hi : (P.info? ty).map (·.size) = some 1) (hk : k < cs.size)
  (h : ∀ w', Row w' g (cs.setIfInBounds k v) T → Onto g w w' → K (a.put o.dst undef) w') : o.wp P a w K Q := by
 unfold Oper.wp execOp
 have hv := cells_one h1
 simp only [ho, hx, hy, Instr.storeAt, Instr.sureAddr, Sem.run_bind, Sem.run_pure, Result.andThen_ok, zA6 w g k ty v [v] hv (hr.there k 1 (by omega)) (by simpa using hi) (by simp [h1])]
 exact h _ (hr.cells [v] k) (zDg [v] k _ _ (Onto.refl _ _))
theorem zDz {o : Oper} {a : Act} {w : World} {K : Act → World → Prop} {Q : Exit → Act → World → Prop} {x : Operand} {ad : Addr} {v : Value} (ho : o.op = .load 24 x) (hx : a.eval x = .pointer (some ad)) (hc : w.cell? ad = some v)
  (h : K (a.put o.dst v) w) : o.wp Tryz.prog a w K Q := by
 unfold Oper.wp execOp
 have e : (loadVar 24 ad).run Tryz.prog w = .ok v w := by simp [loadVar, isAgg, run_underlying Tryz.underlying24, run_load, hc]
 simp only [ho, hx, Instr.loadAt, Instr.sureAddr, Sem.run_bind, Sem.run_pure, Result.andThen_ok, e]
 exact h
structure Gc (w : World) (g g2 : Nat) (m : Mc) (W : World) : Prop where
 row : ∃ x y, MRow W g x y m ∧ Sl W x m.rom ∧ Sl W y m.ram ∧ x.ownBlock ≠ some g ∧ y.ownBlock ≠ some g
 out : ∃ x y m0, MRow W g2 x y m0
 bel : Below w.heap.size w W
 lt : g2 < W.heap.size
def Tc (base g : Nat) (m : Mc) (j : Nat) (f : Nat → Value) (W : World) : Prop :=
 if j = 0 then f 3 = .pointer (some ⟨g, 0, none⟩)
 else if j = 1 then Sl W (f 4) m.rom ∧ (f 4).ownBlock ≠ some g
 else if j = 2 then Own base W (f 5) m.rom
 else if j = 3 then f 6 = .pointer (some ⟨g, 1, none⟩)
 else if j = 4 then Sl W (f 7) m.ram ∧ (f 7).ownBlock ≠ some g
 else if j = 5 then Own base W (f 8) m.ram ∧ Apart (f 5) (f 8)
 else if j = 6 then f 9 = .pointer (some ⟨g, 0, none⟩)
 else if j = 7 then W.cell? ⟨g, 0, none⟩ = some (f 5)
 else if j = 8 then f 10 = .pointer (some ⟨g, 1, none⟩)
 else if j = 9 then W.cell? ⟨g, 1, none⟩ = some (f 8)
 else True
def Rc (g : Nat) (i : Nat) (W W' : World) : Prop :=
 if i = 7 then Onto g W W' ∧ W'.cell? ⟨g, 1, none⟩ = W.cell? ⟨g, 1, none⟩ else if i = 9 then Onto g W W' ∧ W'.cell? ⟨g, 0, none⟩ = W.cell? ⟨g, 0, none⟩ else Below W.heap.size W W'
theorem Rc.cases {g i : Nat} {W W' : World} (h : Rc g i W W') : Onto g W W' ∨ Below W.heap.size W W' := by
 unfold Rc at h
 split at h
 ·exact .inl h.1
 ·split at h
  ·exact .inl h.1
  ·exact .inr h
theorem Rc.own {base g i : Nat} {W W' : World} (h : Rc g i W W') (hg : g < base) {x : Value} {l : List Int} (ho : Own base W x l) : Own base W' x l := by
 rcases h.cases with h | h
 ·exact ho.onto h (fun e => by have := (ho.lt _ e).1; omega)
 ·exact ho.below h
theorem Rc.sl {g i : Nat} {W W' : World} (h : Rc g i W W') {x : Value} {l : List Int} (ho : Sl W x l) (hx : x.ownBlock ≠ some g) : Sl W' x l := by
 rcases h.cases with h | h
 ·exact zDe ho h hx
 ·exact ho.below h
theorem zVl {ops : Array Oper} {base g : Nat} {m : Mc} (hg : g < base) (hS : zQm ops [[3], [4], [5], [6], [7], [8, 5], [9], [5], [10], [8]] = true) : Mono ops (Tc base g m) (Rc g) := by
 refine zLv hS (fun j f f' W hf hT => ?_) (fun i j f W W' hij hT hR => ?_)
 ·rcases j with _ | _ | _ | _ | _ | _ | _ | _ | _ | _ | j
  ·exact (hf 3 (by simp)).trans hT
  ·show Sl W (f' 4) m.rom ∧ (f' 4).ownBlock ≠ some g
   rw [hf 4 (by simp)]; exact hT
  ·show Own base W (f' 5) m.rom
   rw [hf 5 (by simp)]; exact hT
  ·exact (hf 6 (by simp)).trans hT
  ·show Sl W (f' 7) m.ram ∧ (f' 7).ownBlock ≠ some g
   rw [hf 7 (by simp)]; exact hT
  ·show Own base W (f' 8) m.ram ∧ Apart (f' 5) (f' 8)
   rw [hf 8 (by simp), hf 5 (by simp)]; exact hT
  ·exact (hf 9 (by simp)).trans hT
  ·show W.cell? ⟨g, 0, none⟩ = some (f' 5)
   rw [hf 5 (by simp)]; exact hT
  ·exact (hf 10 (by simp)).trans hT
  ·show W.cell? ⟨g, 1, none⟩ = some (f' 8)
   rw [hf 8 (by simp)]; exact hT
  ·simp [Tc]
 ·rcases j with _ | _ | _ | _ | _ | _ | _ | _ | _ | _ | j
  ·exact hT
  ·have hT' : Sl W (f 4) m.rom ∧ (f 4).ownBlock ≠ some g := hT
   exact ⟨hR.sl hT'.1 hT'.2, hT'.2⟩
  ·exact hR.own hg (show Own base W (f 5) m.rom from hT)
  ·exact hT
  ·have hT' : Sl W (f 7) m.ram ∧ (f 7).ownBlock ≠ some g := hT
   exact ⟨hR.sl hT'.1 hT'.2, hT'.2⟩
  ·have hT' : Own base W (f 8) m.ram ∧ Apart (f 5) (f 8) := hT
   exact ⟨hR.own hg hT'.1, hT'.2⟩
  ·exact hT
  ·have hT' : W.cell? ⟨g, 0, none⟩ = some (f 5) := hT
   show W'.cell? ⟨g, 0, none⟩ = some (f 5)
   unfold Rc at hR
   rw [if_neg hij] at hR
   split at hR
   ·rw [hR.2]; exact hT'
   ·rw [hR.cell (p := ⟨g, 0, none⟩) (zAs hT')]; exact hT'
  ·exact hT
  ·have hT' : W.cell? ⟨g, 1, none⟩ = some (f 8) := hT
   show W'.cell? ⟨g, 1, none⟩ = some (f 8)
   by_cases h7 : i = 7
   ·subst h7
    exact (show Onto g W W' ∧ W'.cell? ⟨g, 1, none⟩ = W.cell? ⟨g, 1, none⟩ from hR).2.trans hT'
   ·have h9 : i ≠ 9 := hij
    simp only [Rc, h7, h9, if_false] at hR
    rw [hR.cell (p := ⟨g, 1, none⟩) (zAs hT')]; exact hT'
  ·simp [Tc]
theorem Rc.below {g i : Nat} {W W' : World} (h : Below W.heap.size W W') (h7 : i ≠ 7) (h9 : i ≠ 9) : Rc g i W W' := by
 unfold Rc; rw [if_neg h7, if_neg h9]; exact h
theorem Gc.below {w W W' : World} {g g2 : Nat} {m : Mc} (h : Gc w g g2 m W) (hb : Below W.heap.size W W') : Gc w g g2 m W' := by
 obtain ⟨⟨x, y, r, h1, h2, h3, h4⟩, ⟨x0, y0, m0, r0⟩, h5, h6⟩ := h
 exact ⟨⟨x, y, r.below hb, h1.below hb, h2.below hb, h3, h4⟩, ⟨x0, y0, m0, r0.below hb⟩, zD h5 hb, by have := hb.size; omega⟩
theorem Gc.drew {w W : World} {g g2 : Nat} {m : Mc} (h : Gc w g g2 m W) : Gc w g g2 m W.drew := h.below (xC (n := 1) rfl)
set_option maxRecDepth 20000 in
set_option maxHeartbeats 1000000 in
theorem xP (v : Value) (m : Mc) (w : World) (hm : MSl w v m) (h1 : m.rom.length ≤ 4000000) (h2 : m.ram.length ≤ 4000000) (h3 : 0 < m.rom.length) (h4 : 0 < m.ram.length) :
  Calls Tryz.prog 92 #[v] w fun e w' => ∃ v', e = .returned v' ∧ MOwn w.heap.size w' v' m ∧ Below w.heap.size w w' := by
 obtain ⟨vr, va, rfl, hr, ha⟩ := hm
 obtain ⟨vv, hvv⟩ : ∃ vv, m.val vr va = vv := ⟨_, rfl⟩
 rw [hvv]
 go_enter Tryz.func92, Tryz.ntmps92
 go_wp2_with (first
  | (refine zP rfl rfl hvv.symm ?_; intro w0 r0 hB0; have l0 := r0.lt)
  | (refine zR rfl rfl ?_; intro w1 z1 hB1))
 have hgz := z1.lt
 have r1 := r0.below hB1
 have hB := hB0.trans (hB1.mono hB0.size)
 have hG : Gc w w.heap.size w0.heap.size m w1 := ⟨⟨vr, va, r1, hr.below hB, ha.below hB, fun e => by have := hr.lt h3 _ e; omega, fun e => by have := ha.lt h4 _ e; omega⟩, ⟨_, _, _, z1⟩, hB, hgz⟩
 clear r0 hB0 z1 hB1 r1 hB hr ha hgz
 refine zHv (by kernel_rfl) (by kernel_rfl) (fun W => Gc w w.heap.size w0.heap.size m W) (Tc (w0.heap.size + 1) w.heap.size m) (Rc w.heap.size) (zVl (by omega) (by kernel_rfl)) hG.drew ?step ?done
 case step =>
  intro L ix o A W hi hI hL hd
  have hin : ix < 10 := qB hi
  have hsz : A.tmps.size = 12 := hI.size
  have hg := hI.g
  obtain ⟨x, y, hrow, hx, hy, hxg, hyg⟩ := hg.row
  have hlt := hg.lt
  have e1 : A.eval (.tmp 1) = .pointer (some ⟨w.heap.size, 0, none⟩) := hI.old 1 (by kernel_rfl)
  rcases ix with _ | _ | _ | _ | _ | _ | _ | _ | _ | _ | ix
  ·cases hi; refine zC rfl rfl (qX (v := .pointer (some ⟨w.heap.size, 0, none⟩)) ?_ ⟨_, rfl, zG _ _ _ (by omega), hg, Rc.below (Below.refl _ _) (by omega) (by omega)⟩)
   unfold execOp
   simp only [List.getElem_toArray, List.getElem_cons_zero, List.getElem_cons_succ, e1]
   simp [go_sem]
  ·cases hi; have e : A.eval (.tmp 3) = .pointer (some ⟨w.heap.size, 0, none⟩) := hI.get hd 0 rfl (by kernel_rfl)
   refine zC rfl rfl (zDz rfl e (cw hrow).vr ⟨_, rfl, ?_, hg, Rc.below (Below.refl _ _) (by omega) (by omega)⟩)
   have e' : at_ (A.put (some 4) x) 4 = x := zG _ _ _ (by omega)
   show Sl W (at_ (A.put (some 4) x) 4) _ ∧ (at_ (A.put (some 4) x) 4).ownBlock ≠ _
   rw [e']
   exact ⟨hx, hxg⟩
  ·cases hi; have t : Sl W (at_ A 4) m.rom ∧ _ := hI.get hd 1 rfl (by kernel_rfl)
   refine zC rfl rfl (zS rfl Tryz.func170 (by kernel_rfl) (by kernel_rfl) ?_)
   simp only [List.map_cons, List.map_nil]
   refine (zJ5 (at_ A 4) m.rom W t.1 (by omega)).mono ?_
   rintro e w5 ⟨v5, rfl, ho5, hb5⟩
   have e' : at_ (A.put (some 5) v5) 5 = v5 := zG _ _ _ (by omega)
   refine ⟨_, rfl, _, rfl, ?_, hg.below hb5, Rc.below hb5 (by omega) (by omega)⟩
   show Own _ _ (at_ (A.put (some 5) v5) 5) _
   rw [e']
   exact ho5.mono (by omega)
  ·cases hi; refine zC rfl rfl (qX (v := .pointer (some ⟨w.heap.size, 1, none⟩)) ?_ ⟨_, rfl, zG _ _ _ (by omega), hg, Rc.below (Below.refl _ _) (by omega) (by omega)⟩)
   unfold execOp
   simp only [List.getElem_toArray, List.getElem_cons_zero, List.getElem_cons_succ, e1]
   simp [go_sem]
  ·cases hi; have e : A.eval (.tmp 6) = .pointer (some ⟨w.heap.size, 1, none⟩) := hI.get hd 3 rfl (by kernel_rfl)
   refine zC rfl rfl (zDz rfl e (cw hrow).va ⟨_, rfl, ?_, hg, Rc.below (Below.refl _ _) (by omega) (by omega)⟩)
   have e' : at_ (A.put (some 7) y) 7 = y := zG _ _ _ (by omega)
   show Sl W (at_ (A.put (some 7) y) 7) _ ∧ (at_ (A.put (some 7) y) 7).ownBlock ≠ _
   rw [e']
   exact ⟨hy, hyg⟩
  ·cases hi; have t : Sl W (at_ A 7) m.ram ∧ _ := hI.get hd 4 rfl (by kernel_rfl)
   refine zC rfl rfl (zS rfl Tryz.func170 (by kernel_rfl) (by kernel_rfl) ?_)
   simp only [List.map_cons, List.map_nil]
   refine (zJ5 (at_ A 7) m.ram W t.1 (by omega)).mono ?_
   rintro e w5 ⟨v5, rfl, ho5, hb5⟩
   have e' : at_ (A.put (some 8) v5) 8 = v5 := zG _ _ _ (by omega)
   have t2 : Own _ W (at_ A 5) m.rom := hI.get hd 2 rfl (by kernel_rfl)
   have e5 : at_ (A.put (some 8) v5) 5 = at_ A 5 := jA _ _ _ _ (by simp)
   refine ⟨_, rfl, _, rfl, ?_, hg.below hb5, Rc.below hb5 (by omega) (by omega)⟩
   show Own _ _ (at_ (A.put (some 8) v5) 8) _ ∧ Apart (at_ (A.put (some 8) v5) 5) (at_ (A.put (some 8) v5) 8)
   rw [e', e5]
   exact ⟨ho5.mono (by omega), fun k hk hk' => by have := (t2.lt k hk).2; have := (ho5.lt k hk').1; omega⟩
  ·cases hi; refine zC rfl rfl (qX (v := .pointer (some ⟨w.heap.size, 0, none⟩)) ?_ ⟨_, rfl, zG _ _ _ (by omega), hg, Rc.below (Below.refl _ _) (by omega) (by omega)⟩)
   unfold execOp
   simp only [List.getElem_toArray, List.getElem_cons_zero, List.getElem_cons_succ, e1]
   simp [go_sem]
  ·cases hi; have ep : A.eval (.tmp 9) = .pointer (some ⟨w.heap.size, 0, none⟩) := hI.get hd 6 rfl (by kernel_rfl)
   have t : Own _ W (at_ A 5) m.rom := hI.get hd 2 rfl (by kernel_rfl)
   refine zC rfl rfl (zN2 rfl ep (show A.eval (.tmp 5) = at_ A 5 from rfl) hrow (zB t) zKw (by rw [Mc.size]; omega) ?_)
   intro W' r0' ho'
   have r' : MRow W' w.heap.size (at_ A 5) y m := r0'
   obtain ⟨x0, y0, m0, z0⟩ := hg.out
   refine ⟨_, rfl, ?_, ⟨⟨at_ A 5, y, r', (t.onto ho' (fun e => by have := (t.lt _ e).1; omega)).sl, zDe hy ho' hyg, fun e => by have := (t.lt _ e).1; omega, hyg⟩, ⟨x0, y0, m0, z0.onto ho' (by omega)⟩, zA hg.bel ho' (Nat.le_refl _), by have := ho'.size; omega⟩, ?_⟩
   ·exact (cw r').vr
   ·unfold Rc
    simp only [if_true]
    exact ⟨ho', (cw r').va.trans (cw hrow).va.symm⟩
  ·cases hi; refine zC rfl rfl (qX (v := .pointer (some ⟨w.heap.size, 1, none⟩)) ?_ ⟨_, rfl, zG _ _ _ (by omega), hg, Rc.below (Below.refl _ _) (by omega) (by omega)⟩)
   unfold execOp
   simp only [List.getElem_toArray, List.getElem_cons_zero, List.getElem_cons_succ, e1]
   simp [go_sem]
  ·cases hi; have ep : A.eval (.tmp 10) = .pointer (some ⟨w.heap.size, 1, none⟩) := hI.get hd 8 rfl (by kernel_rfl)
   have t : Own _ W (at_ A 8) m.ram := (show Own _ W (at_ A 8) m.ram ∧ _ from hI.get hd 5 rfl (by kernel_rfl)).1
   refine zC rfl rfl (zN2 rfl ep (show A.eval (.tmp 8) = at_ A 8 from rfl) hrow (zB t) zKw (by rw [Mc.size]; omega) ?_)
   intro W' r0' ho'
   have r' : MRow W' w.heap.size x (at_ A 8) m := r0'
   obtain ⟨x0, y0, m0, z0⟩ := hg.out
   refine ⟨_, rfl, ?_, ⟨⟨x, at_ A 8, r', zDe hx ho' hxg, (t.onto ho' (fun e => by have := (t.lt _ e).1; omega)).sl, hxg, fun e => by have := (t.lt _ e).1; omega⟩, ⟨x0, y0, m0, z0.onto ho' (by omega)⟩, zA hg.bel ho' (Nat.le_refl _), by have := ho'.size; omega⟩, ?_⟩
   ·exact (cw r').va
   ·unfold Rc
    simp only [if_pos, if_neg, reduceCtorEq, if_true, if_false, Nat.reduceEqDiff]
    exact ⟨ho', (cw r').vr.trans (cw hrow).vr.symm⟩
  omega
 case done =>
  intro A W hI
  have hg := hI.g
  obtain ⟨x, y, hrow, hx, hy, hxg, hyg⟩ := hg.row
  obtain ⟨x0, y0, m0, z0⟩ := hg.out
  have hlt := hg.lt
  have t2 : Own _ W (at_ A 5) m.rom := hI.told 2 _ rfl rfl
  have t5 : Own _ W (at_ A 8) m.ram ∧ Apart (at_ A 5) (at_ A 8) := hI.told 5 _ rfl rfl
  have t7 : W.cell? ⟨w.heap.size, 0, none⟩ = some (at_ A 5) := hI.told 7 _ rfl rfl
  have t9 : W.cell? ⟨w.heap.size, 1, none⟩ = some (at_ A 8) := hI.told 9 _ rfl rfl
  obtain rfl : x = at_ A 5 := Option.some.inj ((cw hrow).vr.symm.trans t7)
  obtain rfl : y = at_ A 8 := Option.some.inj ((cw hrow).va.symm.trans t9)
  have e1 : A.tmps.getD 1 undef = .pointer (some ⟨w.heap.size, 0, none⟩) := hI.old 1 (by kernel_rfl)
  have e2 : A.tmps.getD 2 undef = .pointer (some ⟨w0.heap.size, 0, none⟩) := hI.old 2 (by kernel_rfl)
  clear t7 t9 hx hy hxg hyg
  generalize at_ A 5 = x at *
  generalize at_ A 8 = y at *
  have hB := hg.bel
  have hA := jC A 12 hI.size
  have hde : A.defers = [] := hI.defers
  rw [hde, show List.range 12 = [0, 1, 2, 3, 4, 5, 6, 7, 8, 9, 10, 11] from rfl] at hA
  simp only [List.map_cons, List.map_nil, e1, e2] at hA
  rw [hA]
  clear hA e1 e2 hI hde hg
  go_wp2_with (first
   | (refine zI rfl rfl rfl hrow ?_)
   | (refine zL rfl rfl rfl rfl z0 (zB t2) (zB t5.1) ?_; intro w6 r6 o6 s6))
  refine qW rfl rfl r6 rfl ?_
  refine ⟨_, rfl, ⟨x, y, rfl, ?_, ?_, t5.2⟩, zA hB o6 (by omega)⟩
  ·exact (t2.onto o6 (fun e => by have := (t2.lt _ e).1; omega)).mono (by omega)
  ·exact (t5.1.onto o6 (fun e => by have := (t5.1.lt _ e).1; omega)).mono (by omega)
end Go.Proofs.YtamldhflkfbdnaaGreatDoor.Mem
namespace Go.Proofs.YtamldhflkfbdnaaGreatDoor.Mem
open Go.ChangeShapes Go.WideShapes Go.RowKit Base Num Slc Rw Tmr Srl Rom RomOf Mp

def Sr.ordered (s : Sr) (n now : Int) : Sr := if 127 < n then s.start (n % 2 == 1) now else ⟨s.d, false, false, 0, 0, false⟩
theorem zFq (s : Sr) (n now : Int) (w : World) (hn : 0 ≤ n ∧ n ≤ 255) :
  Calls Tryz.prog 319 #[s.val, .int .i64 n, .int .i64 now] w fun e w' => e = .returned (Sr.ordered s n now).val ∧ Below w.heap.size w w' := by
 have h2 := vH (a := n) (r := 2) hn.1
 by_cases hb : 127 < n
 ·have e : Sr.ordered s n now = s.start (n % 2 == 1) now := by simp [Sr.ordered, hb]
  have hb' : ¬ n < 128 := by omega
  rw [e, Sr.eta s]
  go_enter Tryz.func319, Tryz.ntmps319
  go_wp2_with (first
   | (go_at_call 320; refine (zFy s _ _ _).mono ?_; rw [Sr.eta]; rintro e w1 ⟨rfl, hb1⟩; obtain ⟨r1, r2, hB⟩ := box2 hb1)
   | (refine qY rfl rfl rfl rfl r2 rfl ?_; intro w2 r3 ho2 hs2))
  refine qQ rfl rfl r3 qF rfl zU rfl ?_
  exact ⟨rfl, zA hB ho2 (by omega)⟩
 ·have e : Sr.ordered s n now = ⟨s.d, false, false, 0, 0, false⟩ := by simp [Sr.ordered, hb]
  have hb' : n < 128 := by omega
  rw [e, Sr.eta s]
  go_enter Tryz.func319, Tryz.ntmps319
  go_wp2
  refine qQ rfl rfl (Row.new1 (w := w.alloc _) (n := w.heap.size + 1) (by simp) #[.int .i64 s.d, .bool false, .bool false, .int .i64 0, .int .i64 0, .bool false] 28) qF rfl zU rfl ?_
  exact ⟨rfl, ((Below.refl _ _).alloc (Nat.le_refl _) _).alloc (by simp) _⟩
def Mc.withPorts (m : Mc) (f : Int → Option Int) : Mc :=
 { m with p := (match f 241 with | some n => Sr.ordered { m.p with d := (f 240).getD 0 } n m.k | none => { m.p with d := (f 240).getD 0 }), t := ⟨m.t.c, (f 243).getD 0, (f 244).getD 0, (f 245).getD 0 % 8⟩, fl := (f 246).getD 0 % 8, ms := (f 247).getD 0 % 8 }
set_option maxHeartbeats 2000000 in
theorem zHg (v : Value) (m : Mc) (b : Nat) (f : Int → Option Int) (w : World) (base : Nat) (hm : MOwn base w v m) (hM : jT w b f) (hf : ∀ x, 0 ≤ (f x).getD 0 ∧ (f x).getD 0 ≤ 255) (hbase : base ≤ w.heap.size) :
  Calls Tryz.prog 318 #[v, .map (some b)] w fun e w' => ∃ v', e = .returned v' ∧ MOwn base w' v' (m.withPorts f) ∧ Below w.heap.size w w' := by
 obtain ⟨vr, va, hv, hr, ha, hap⟩ := hm
 have o1' := zB hr
 have o2' := zB ha
 have h5 := vH (a := (f 245).getD 0) (r := 8) (hf 245).1
 have h6 := vH (a := (f 246).getD 0) (r := 8) (hf 246).1
 have h7 := vH (a := (f 247).getD 0) (r := 8) (hf 247).1
 have b5 := hf 245
 have b6 := hf 246
 have b7 := hf 247
 have bl := hM.lt
 cases h1 : f 241 with
 | none =>
  have e : m.withPorts f = { m with p := { m.p with d := (f 240).getD 0 }, t := ⟨m.t.c, (f 243).getD 0, (f 244).getD 0, (f 245).getD 0 % 8⟩, fl := (f 246).getD 0 % 8, ms := (f 247).getD 0 % 8 } := by simp [Mc.withPorts, h1]
  rw [e]
  clear e
  go_enter Tryz.func318, Tryz.ntmps318
  go_wp2_with (first
   | (refine zP rfl rfl hv ?_; intro w0 r0 hB0)
   | (refine zR rfl rfl ?_; intro w1 z1 hB1; have r1 := r0.below hB1; have hB2 := hB0.trans (hB1.mono hB0.size); have hP1 := hM.below hB2; have l0 := r0.lt; have l1 := r1.lt; have lz := z1.lt)
   | (refine zUv rfl rfl rfl rfl (by assumption) ?_)
   | (refine qV (m' := { m with p := { m.p with d := (f 240).getD 0 } }) (k := 18) rfl rfl rfl rfl r1 rfl rfl ?_; intro w2 r2 o2 s2; have hP2 := hP1.onto o2 (by omega))
   | (refine qV (m' := { m with p := { m.p with d := (f 240).getD 0 }, t := { m.t with v := (f 243).getD 0 } }) (k := 15) rfl rfl rfl rfl r2 rfl rfl ?_; intro w3 r3 o3 s3; have hP3 := hP2.onto o3 (by omega))
   | (refine qV (m' := { m with p := { m.p with d := (f 240).getD 0 }, t := { m.t with v := (f 243).getD 0, s := (f 244).getD 0 } }) (k := 16) rfl rfl rfl rfl r3 rfl rfl ?_; intro w4 r4 o4 s4; have hP4 := hP3.onto o4 (by omega))
   | (refine qV (m' := { m with p := { m.p with d := (f 240).getD 0 }, t := ⟨m.t.c, (f 243).getD 0, (f 244).getD 0, (f 245).getD 0 % 8⟩ }) (k := 17) rfl rfl rfl rfl r4 rfl rfl ?_; intro w5 r5 o5 s5; have hP5 := hP4.onto o5 (by omega))
   | (refine qV (m' := { m with p := { m.p with d := (f 240).getD 0 }, t := ⟨m.t.c, (f 243).getD 0, (f 244).getD 0, (f 245).getD 0 % 8⟩, fl := (f 246).getD 0 % 8 }) (k := 11) rfl rfl rfl rfl r5 rfl rfl ?_; intro w6 r6 o6 s6; have hP6 := hP5.onto o6 (by omega))
   | (refine qV (m' := { m with p := { m.p with d := (f 240).getD 0 }, t := ⟨m.t.c, (f 243).getD 0, (f 244).getD 0, (f 245).getD 0 % 8⟩, fl := (f 246).getD 0 % 8, ms := (f 247).getD 0 % 8 }) (k := 12) rfl rfl rfl rfl r6 rfl rfl ?_; intro w7 r7 o7 s7; have hP7 := hP6.onto o7 (by omega))
   | (refine zOf rfl rfl rfl rfl hP7 ?_; rw [h1])
   | (refine zI rfl rfl rfl r7 ?_)
   | (refine zL rfl rfl rfl rfl (((((((z1.onto o2 (by omega)).onto o3 (by omega)).onto o4 (by omega)).onto o5 (by omega)).onto o6 (by omega)).onto o7 (by omega))) o1' o2' ?_; intro wz rz oz sz))
  refine qW rfl rfl rz rfl ?_
  have hBa := zA (zA (zA (zA (zA (zA hB2 o2 (Nat.le_refl _)) o3 (Nat.le_refl _)) o4 (Nat.le_refl _)) o5 (Nat.le_refl _)) o6 (Nat.le_refl _)) o7 (Nat.le_refl _)
  have hBb := hBa
  have hBz := zA hBb oz (by omega)
  exact ⟨_, rfl, ⟨vr, va, rfl, hr.below hBz, ha.below hBz, hap⟩, hBz⟩
 | some n =>
  have e : m.withPorts f = { m with p := Sr.ordered { m.p with d := (f 240).getD 0 } n m.k, t := ⟨m.t.c, (f 243).getD 0, (f 244).getD 0, (f 245).getD 0 % 8⟩, fl := (f 246).getD 0 % 8, ms := (f 247).getD 0 % 8 } := by simp [Mc.withPorts, h1]
  rw [e]
  clear e
  have hn : 0 ≤ n ∧ n ≤ 255 := by have := hf 241; rw [h1] at this; exact this
  go_enter Tryz.func318, Tryz.ntmps318
  go_wp2_with (first
   | (refine zP rfl rfl hv ?_; intro w0 r0 hB0)
   | (refine zR rfl rfl ?_; intro w1 z1 hB1; have r1 := r0.below hB1; have hB2 := hB0.trans (hB1.mono hB0.size); have hP1 := hM.below hB2; have l0 := r0.lt; have l1 := r1.lt; have lz := z1.lt)
   | (refine zUv rfl rfl rfl rfl (by assumption) ?_)
   | (refine qV (m' := { m with p := { m.p with d := (f 240).getD 0 } }) (k := 18) rfl rfl rfl rfl r1 rfl rfl ?_; intro w2 r2 o2 s2; have hP2 := hP1.onto o2 (by omega))
   | (refine qV (m' := { m with p := { m.p with d := (f 240).getD 0 }, t := { m.t with v := (f 243).getD 0 } }) (k := 15) rfl rfl rfl rfl r2 rfl rfl ?_; intro w3 r3 o3 s3; have hP3 := hP2.onto o3 (by omega))
   | (refine qV (m' := { m with p := { m.p with d := (f 240).getD 0 }, t := { m.t with v := (f 243).getD 0, s := (f 244).getD 0 } }) (k := 16) rfl rfl rfl rfl r3 rfl rfl ?_; intro w4 r4 o4 s4; have hP4 := hP3.onto o4 (by omega))
   | (refine qV (m' := { m with p := { m.p with d := (f 240).getD 0 }, t := ⟨m.t.c, (f 243).getD 0, (f 244).getD 0, (f 245).getD 0 % 8⟩ }) (k := 17) rfl rfl rfl rfl r4 rfl rfl ?_; intro w5 r5 o5 s5; have hP5 := hP4.onto o5 (by omega))
   | (refine qV (m' := { m with p := { m.p with d := (f 240).getD 0 }, t := ⟨m.t.c, (f 243).getD 0, (f 244).getD 0, (f 245).getD 0 % 8⟩, fl := (f 246).getD 0 % 8 }) (k := 11) rfl rfl rfl rfl r5 rfl rfl ?_; intro w6 r6 o6 s6; have hP6 := hP5.onto o6 (by omega))
   | (refine qV (m' := { m with p := { m.p with d := (f 240).getD 0 }, t := ⟨m.t.c, (f 243).getD 0, (f 244).getD 0, (f 245).getD 0 % 8⟩, fl := (f 246).getD 0 % 8, ms := (f 247).getD 0 % 8 }) (k := 12) rfl rfl rfl rfl r6 rfl rfl ?_; intro w7 r7 o7 s7; have hP7 := hP6.onto o7 (by omega))
   | (refine zOf rfl rfl rfl rfl hP7 ?_; rw [h1]; have kk := (cw r7).k)
   | (refine zRn rfl rfl rfl r7 ?_)
   | (go_at_call 319; refine (zFq _ n _ _ hn).mono ?_; rintro e w8 ⟨rfl, hb8⟩; have r8 := r7.below hb8)
   | (refine zFb rfl rfl rfl rfl r8 ?_; intro w9 r9 o9 s9)
   | (refine zI rfl rfl rfl r9 ?_)
   | (refine zL rfl rfl rfl rfl ((((((((z1.onto o2 (by omega)).onto o3 (by omega)).onto o4 (by omega)).onto o5 (by omega)).onto o6 (by omega)).onto o7 (by omega)).below hb8).onto o9 (by omega)) o1' o2' ?_; intro wz rz oz sz))
  refine qW rfl rfl rz rfl ?_
  have hBa := zA (zA (zA (zA (zA (zA hB2 o2 (Nat.le_refl _)) o3 (Nat.le_refl _)) o4 (Nat.le_refl _)) o5 (Nat.le_refl _)) o6 (Nat.le_refl _)) o7 (Nat.le_refl _)
  have hBb := zA (hBa.trans (hb8.mono hBa.size)) o9 (Nat.le_refl _)
  have hBz := zA hBb oz (by omega)
  exact ⟨_, rfl, ⟨vr, va, rfl, hr.below hBz, ha.below hBz, hap⟩, hBz⟩
def Mc.laid (m : Mc) (q n : Int) (k : Int) : Option Int := if k = q then some n else if k = 241 then none else m.port k
theorem Mc.ok_more {m : Mc} (h : m.ok = true) : (0 ≤ m.fl ∧ m.fl ≤ 7) ∧ (0 ≤ m.ms ∧ m.ms ≤ 7) ∧ (0 ≤ m.ky ∧ m.ky ≤ 255) ∧ (0 ≤ m.t.v ∧ m.t.v ≤ 255) ∧ (0 ≤ m.t.s ∧ m.t.s ≤ 255) ∧ (0 ≤ m.t.m ∧ m.t.m ≤ 7) ∧ (0 ≤ m.p.d ∧ m.p.d ≤ 255) := by
 obtain ⟨h1, h2⟩ := Mc.ok_parts h
 obtain ⟨_, _, h3, h4, _⟩ := Mc.ok_rom h
 obtain ⟨_, h5, h6, h7⟩ := Tm.ok_true h3
 simp only [Mc.ok, Bool.and_eq_true, decide_eq_true_eq, beq_iff_eq] at h
 obtain ⟨⟨⟨⟨⟨⟨⟨⟨⟨⟨⟨⟨_, _⟩, _⟩, _⟩, _⟩, _⟩, _⟩, _⟩, _⟩, hk⟩, _⟩, _⟩, _⟩ := h
 exact ⟨h1, h2, xG hk, h5, h6, h7, (Sr.ok_true h4).1⟩
theorem zTz {m : Mc} (hok : m.ok = true) {q n : Int} (hn : 0 ≤ n ∧ n ≤ 255) (x : Int) : 0 ≤ (m.laid q n x).getD 0 ∧ (m.laid q n x).getD 0 ≤ 255 := by
 obtain ⟨h1, h2, h3, h4, h5, h6, h7⟩ := Mc.ok_more hok
 have hR := (Mc.right hok).tim
 unfold Mc.laid
 by_cases hx : x = q
 ·simp [hx]; omega
 by_cases e1 : x = 241
 ·simp [hx, e1]
  split <;> simp <;> omega
 simp only [hx, e1, if_false, Mc.port]
 by_cases e0 : x = 240
 ·simp [e0]; omega
 by_cases e2 : x = 242
 ·simp [e2]; omega
 by_cases e3 : x = 243
 ·simp [e3]; omega
 by_cases e4 : x = 244
 ·simp [e4]; omega
 by_cases e5 : x = 245
 ·simp [e5]; omega
 by_cases e6 : x = 246
 ·simp [e6]; omega
 by_cases e7 : x = 247
 ·simp [e7]; omega
 by_cases e8 : x = 248
 ·simp [e8]; omega
 simp [e0, e2, e3, e4, e5, e6, e7, e8]
theorem zNn {m : Mc} (hok : m.ok = true) {q n : Int} (hin : ¬ (128 ≤ q ∧ q < 192)) (hn : 0 ≤ n ∧ n ≤ 255) : m.withPorts (m.laid q n) = m.write q n := by
 obtain ⟨h1, h2, h3, h4, h5, h6, h7⟩ := Mc.ok_more hok
 have e1 : m.fl % 8 = m.fl := by omega
 have e2 : m.ms % 8 = m.ms := by omega
 have e3 : m.t.m % 8 = m.t.m := by omega
 simp only [Mc.write, hin, if_false]
 by_cases c0 : q = 240
 ·subst c0; simp [Mc.withPorts, Mc.laid, Mc.port, e1, e2, e3]
 by_cases c1 : q = 241
 ·subst c1; simp [Mc.withPorts, Mc.laid, Mc.port, e1, e2, e3, Sr.ordered]
 by_cases c3 : q = 243
 ·subst c3; simp [Mc.withPorts, Mc.laid, Mc.port, e1, e2, e3]
 by_cases c4 : q = 244
 ·subst c4; simp [Mc.withPorts, Mc.laid, Mc.port, e1, e2, e3]
 by_cases c5 : q = 245
 ·subst c5; simp [Mc.withPorts, Mc.laid, Mc.port, e1, e2, e3]
 by_cases c6 : q = 246
 ·subst c6; simp [Mc.withPorts, Mc.laid, Mc.port, e1, e2, e3]
 by_cases c7 : q = 247
 ·subst c7; simp [Mc.withPorts, Mc.laid, Mc.port, e1, e2, e3]
 have d0 : ¬ 240 = q := fun e => c0 e.symm
 have d1 : ¬ 241 = q := fun e => c1 e.symm
 have d3 : ¬ 243 = q := fun e => c3 e.symm
 have d4 : ¬ 244 = q := fun e => c4 e.symm
 have d5 : ¬ 245 = q := fun e => c5 e.symm
 have d6 : ¬ 246 = q := fun e => c6 e.symm
 have d7 : ¬ 247 = q := fun e => c7 e.symm
 simp [Mc.withPorts, Mc.laid, Mc.port, e1, e2, e3, c0, c1, c3, c4, c5, c6, c7, d0, d1, d3, d4, d5, d6, d7]
theorem zLw : ∀ (L : List (Int × Int)) (q : Int), List.Sublist (mdel L q) L
 | [], q => List.Sublist.refl _
 | (k, v) :: r, q => by
  by_cases h : q = k
  ·simp [mdel, h]
  ·simp only [mdel, h, if_false]
   exact List.Sublist.cons_cons _ (zLw r q)
theorem zRg (L : List (Int × Int)) (q : Int) (h : (L.map Prod.fst).Nodup) : ((mdel L q).map Prod.fst).Nodup := h.sublist ((zLw L q).map _)
section
variable {ops : Array Oper} {rest : List Oper} {o : Oper} {a : Act} {w : World} {Q : Exit → Act → World → Prop} {x y z : Operand} {b : Nat} {q n : Int} {f : Int → Option Int}
theorem zVy (hgd : o.guard = none) (ho : o.op = .call { callee := .builtin .delete, args := #[x, y], argTypes := #[251, 2] }) (hx : a.eval x = .map (some b)) (hy : a.eval y = .int .i64 q) (hM : jT w b f)
  (h : ∀ v w', jT w' b (fun k => if k = q then none else f k) → Onto b w w' → wpList Tryz.prog ops Q rest (a.put o.dst v) w') : wpList Tryz.prog ops Q (o :: rest) a w :=
 wpList_plain hgd fun _ hK => by
  obtain ⟨L, h1, h2, h3⟩ := hM
  obtain ⟨w', hr, m1, m2, m3⟩ := zTs (P := Tryz.prog) (ty := o.type) zAb Tryz.underlying2 h1 q
  have hnd : (mdel L q).map Prod.fst |>.Nodup := zRg L q h2
  unfold Oper.wp execOp
  simp [ho, resolve, invoke, builtin, hx, hy, hr, Result.andThen]
  exact hK _ _ (h _ _ ⟨_, m1, hnd, fun k => by rw [Reg.zJz L q k h2, h3]⟩ m2)
end
set_option maxHeartbeats 1000000 in
theorem zDp (v : Value) (m : Mc) (q n : Int) (w : World) (hm : MSl w v m) :
  Calls Tryz.prog 305 #[v, .int .i64 q, .int .i64 n] w fun e w' => ∃ v', e = .returned v' ∧ MOwn w.heap.size w' v' (m.writtenAt q n) ∧ Below w.heap.size w w' := by
 obtain ⟨vr, va, hv, hr, ha⟩ := hm
 cases hok : m.ok
 ·have e : m.writtenAt q n = Mc.nul := by simp [Mc.writtenAt, hok]
  rw [e]
  go_enter Tryz.func305, Tryz.ntmps305
  go_wp2_with (first
   | (refine zP rfl rfl hv ?_; intro w0 r0 hB0)
   | (refine zR rfl rfl ?_; intro w1 z1 hB1; have r1 := r0.below hB1; have hB2 := hB0.trans (hB1.mono hB0.size); have l0 := r0.lt; have lz := z1.lt)
   | (refine zI rfl rfl rfl r1 ?_)
   | (go_at_call 23; refine (zX _ m _ ⟨vr, va, rfl, hr.below hB2, ha.below hB2⟩).mono ?_; rintro e w2 ⟨rfl, hb2⟩; rw [hok]; have hB3 := hB2.trans (hb2.mono hB2.size); have z2 := z1.below hb2; replace r1 := r1.below hb2)
   | (refine zGh rfl rfl ?_)
   | (refine zL rfl rfl rfl rfl z2 rfl rfl ?_; intro w6 r6 o6 s6))
  refine qW rfl rfl r6 rfl ?_
  exact ⟨_, rfl, zFi _ _, zA hB3 o6 (by omega)⟩
 cases hq : bok q
 ·have e : m.writtenAt q n = Mc.nul := by simp [Mc.writtenAt, hq]
  rw [e]
  go_enter Tryz.func305, Tryz.ntmps305
  go_wp2_with (first
   | (refine zP rfl rfl hv ?_; intro w0 r0 hB0)
   | (refine zR rfl rfl ?_; intro w1 z1 hB1; have r1 := r0.below hB1; have hB2 := hB0.trans (hB1.mono hB0.size); have l0 := r0.lt; have lz := z1.lt)
   | (refine zI rfl rfl rfl r1 ?_)
   | (go_at_call 23; refine (zX _ m _ ⟨vr, va, rfl, hr.below hB2, ha.below hB2⟩).mono ?_; rintro e w2 ⟨rfl, hb2⟩; rw [hok]; have hB3 := hB2.trans (hb2.mono hB2.size); have z2 := z1.below hb2; replace r1 := r1.below hb2)
   | (go_at_call 84; refine (qL _ _).mono ?_; rintro e w3 ⟨rfl, rfl⟩; rw [hq])
   | (refine zGh rfl rfl ?_)
   | (refine zL rfl rfl rfl rfl z2 rfl rfl ?_; intro w6 r6 o6 s6))
  refine qW rfl rfl r6 rfl ?_
  exact ⟨_, rfl, zFi _ _, zA hB3 o6 (by omega)⟩
 cases hn : bok n
 ·have e : m.writtenAt q n = Mc.nul := by simp [Mc.writtenAt, hn]
  rw [e]
  go_enter Tryz.func305, Tryz.ntmps305
  go_wp2_with (first
   | (refine zP rfl rfl hv ?_; intro w0 r0 hB0)
   | (refine zR rfl rfl ?_; intro w1 z1 hB1; have r1 := r0.below hB1; have hB2 := hB0.trans (hB1.mono hB0.size); have l0 := r0.lt; have lz := z1.lt)
   | (refine zI rfl rfl rfl r1 ?_)
   | (go_at_call 23; refine (zX _ m _ ⟨vr, va, rfl, hr.below hB2, ha.below hB2⟩).mono ?_; rintro e w2 ⟨rfl, hb2⟩; rw [hok]; have hB3 := hB2.trans (hb2.mono hB2.size); have z2 := z1.below hb2; replace r1 := r1.below hb2)
   | (go_at_call 84; refine (qL _ _).mono ?_; rintro e w3 ⟨rfl, rfl⟩; first | rw [hq] | rw [hn])
   | (refine zGh rfl rfl ?_)
   | (refine zL rfl rfl rfl rfl z2 rfl rfl ?_; intro w6 r6 o6 s6))
  refine qW rfl rfl r6 rfl ?_
  exact ⟨_, rfl, zFi _ _, zA hB3 o6 (by omega)⟩
 have e : m.writtenAt q n = m.write q n := by simp [Mc.writtenAt, hok, hq, hn]
 rw [e]
 clear e
 have hR := Mc.right hok
 have hq' := xG hq
 have hn' := xG hn
 have hR1 := hR.rom
 have hR3 := hR.tim
 have hR2 : Hid (m.ram.length = 64) := hR.ram
 by_cases hin : 128 ≤ q ∧ q < 192
 ·have e : m.write q n = { m with ram := m.ram.set (q - 128).toNat n } := by simp [Mc.write, hin]
  rw [e]
  obtain ⟨k, rfl⟩ : ∃ k : Nat, q = 128 + (k : Int) := ⟨(q - 128).toNat, by omega⟩
  have h2 : (128 + (k : Int) - 128).toNat = k := by omega
  rw [h2]
  have hs : 128 + (k : Int) - 128 = (k : Int) := by omega
  have hi : (decide (128 ≤ 128 + (k : Int)) && decide (128 + (k : Int) < 192)) = true := by simp; omega
  have hkl : k < m.ram.length := by have := hR2.out; omega
  have hkl' : (k : Int) < (m.ram.length : Int) := by omega
  clear e h2
  go_enter Tryz.func305, Tryz.ntmps305
  go_wp2_with (first
   | (refine zP rfl rfl hv ?_; intro w0 r0 hB0)
   | (refine zR rfl rfl ?_; intro w1 z1 hB1; have r1 := r0.below hB1; have hB2 := hB0.trans (hB1.mono hB0.size); have l0 := r0.lt; have lz := z1.lt)
   | (refine zI rfl rfl rfl r1 ?_)
   | (go_at_call 23; refine (zX _ m _ ⟨vr, va, rfl, hr.below hB2, ha.below hB2⟩).mono ?_; rintro e w2 ⟨rfl, hb2⟩; rw [hok]; have hB3 := hB2.trans (hb2.mono hB2.size); have z2 := z1.below hb2; replace r1 := r1.below hb2)
   | (go_at_call 84; refine (qL _ _).mono ?_; rintro e w3 ⟨rfl, rfl⟩; first | rw [hq] | rw [hn]))
  go_at_call 92
  refine (xP _ m _ ⟨vr, va, rfl, hr.below hB3, ha.below hB3⟩ (by omega) (by have := hR2.out; omega) (by omega) (by have := hR2.out; omega)).mono ?_
  rintro e w4 ⟨v4, rfl, ⟨x4, y4, rfl, ho4, hp4, ha4⟩, hb4⟩
  have hB4 := hB3.trans (hb4.mono hB3.size)
  have z4 := z2.below hb4
  have s34 := z2.lt
  have r4 := r1.below hb4
  have lr4 := r4.lt
  have lz4 := z4.lt
  have sB3 := hB3.size
  have sb4 := hb4.size
  have hxl := ho4.lt
  have hyl := hp4.lt
  clear z1 z2 r1
  obtain ⟨g, cap, rfl, hg1, hg2, hg3, hg4⟩ := hp4.block (by omega)
  unfold maxLen at hg4
  go_wp2_with (first
   | (refine zR rfl rfl ?_; intro w5 z5 hB5; have lz5 := z5.lt; have r5 := r4.below hB5; have z5' := z4.below hB5; have hp5 := hp4.below hB5; have ho5 := ho4.below hB5)
   | (refine zL rfl rfl rfl rfl z5 (zB ho4) (zB hp4) ?_; intro w6 r6 o6 s6; have k6 := (cw r6).va; have hp6 := hp5.onto o6 (fun e => by have := hyl _ e; omega); have ho6 := ho5.onto o6 (fun e => by have := hxl _ e; omega); have hc6 := hp6.cellAt (j := k) hkl; have hf6 := hp6.free k; have z6 := z5'.onto o6 (by omega))
   | (go_at_call 243; refine (zCg _ _).mono ?_; rintro e w3 ⟨rfl, rfl⟩; rw [hi])
   | (refine zI rfl rfl rfl (r6.setOther ⟨g, k, none⟩ (.int .i64 n) (show w4.heap.size ≠ g by omega)) ?_)
   | (refine zL rfl rfl rfl rfl (z6.setOther ⟨g, k, none⟩ (.int .i64 n) (show w0.heap.size ≠ g by omega)) (zB ho4) rfl ?_; intro w7 r7 o7 s7))
  refine qW rfl rfl r7 rfl ?_
  have hst := hp6.store k n
  have ho7 := ho6.grown hst.2 (fun j hj e => by cases hj; exact ha4 g e rfl)
  have hB5' := hB4.trans (hB5.mono hB4.size)
  have hB6 := zA hB5' o6 (by have := hB4.size; omega)
  have hB7 := hB6.setCell (p := ⟨g, k, none⟩) (by have := hyl g rfl; show w.heap.size ≤ g; omega) (.int .i64 n)
  refine ⟨_, rfl, ⟨x4, _, rfl, ?_, ?_, ha4⟩, zA hB7 o7 (by omega)⟩
  ·exact (ho7.onto o7 (fun e => by have := hxl _ e; omega)).mono (by omega)
  ·exact (hst.1.onto o7 (fun e => by simp [Value.ownBlock] at e; omega)).mono (by omega)
 ·have hi : (decide (128 ≤ q) && decide (q < 192)) = false := by simp; omega
  rw [← zNn hok hin hn']
  go_enter Tryz.func305, Tryz.ntmps305
  go_wp2_with (first
   | (refine zP rfl rfl hv ?_; intro w0 r0 hB0)
   | (refine zR rfl rfl ?_; intro w1 z1 hB1; have r1 := r0.below hB1; have hB2 := hB0.trans (hB1.mono hB0.size); have l0 := r0.lt; have lz := z1.lt)
   | (refine zI rfl rfl rfl r1 ?_)
   | (go_at_call 23; refine (zX _ m _ ⟨vr, va, rfl, hr.below hB2, ha.below hB2⟩).mono ?_; rintro e w2 ⟨rfl, hb2⟩; rw [hok]; have hB3 := hB2.trans (hb2.mono hB2.size); have z2 := z1.below hb2; replace r1 := r1.below hb2)
   | (go_at_call 84; refine (qL _ _).mono ?_; rintro e w3 ⟨rfl, rfl⟩; first | rw [hq] | rw [hn]))
  go_at_call 92
  refine (xP _ m _ ⟨vr, va, rfl, hr.below hB3, ha.below hB3⟩ (by omega) (by have := hR2.out; omega) (by omega) (by have := hR2.out; omega)).mono ?_
  rintro e w4 ⟨v4, rfl, ⟨x4, y4, rfl, ho4, hp4, ha4⟩, hb4⟩
  have hB4 := hB3.trans (hb4.mono hB3.size)
  have z4 := z2.below hb4
  have s34 := z2.lt
  have r4 := r1.below hb4
  have lr4 := r4.lt
  have lz4 := z4.lt
  have sB3 := hB3.size
  have sb4 := hb4.size
  have hxl := ho4.lt
  have hyl := hp4.lt
  clear z1 z2 r1
  go_wp2_with (first
   | (refine zR rfl rfl ?_; intro w5 z5 hB5; have lz5 := z5.lt; have r5 := r4.below hB5; have z5' := z4.below hB5; have hp5 := hp4.below hB5; have ho5 := ho4.below hB5; have hB5' := hB4.trans (hB5.mono hB4.size))
   | (refine zL rfl rfl rfl rfl z5 (zB ho4) (zB hp4) ?_; intro w6 r6 o6 s6; have hp6 := hp5.onto o6 (fun e => by have := hyl _ e; omega); have ho6 := ho5.onto o6 (fun e => by have := hxl _ e; omega); have z6 := z5'.onto o6 (by omega); have q6 := r5.onto o6 (by omega); have hB6 := zA hB5' o6 (by omega))
   | (go_at_call 243; refine (zCg _ _).mono ?_; rintro e w3 ⟨rfl, rfl⟩; rw [hi])
   | (refine zI rfl rfl rfl q6 ?_)
   | (go_at_call 244; refine (zDf _ m _ ⟨_, _, rfl, hr.below hB6, ha.below hB6⟩ hR3.1 hR3.2).mono ?_; rintro e w8 ⟨b8, rfl, hb8, hM8, hbe8⟩; have hB8 := hB6.trans (hbe8.mono hB6.size); have r8 := r6.below hbe8; have z8 := z6.below hbe8; have hp8 := hp6.below hbe8; have ho8 := ho6.below hbe8; have l8 := hM8.lt; have hxl6 := ho6.lt; have hyl6 := hp6.lt; have lr6 := r6.lt; have lz6 := z6.lt)
   | (refine zVy rfl rfl rfl rfl hM8 ?_; intro vd w9 hM9 o9; have r9 := r8.onto o9 (by omega); have z9 := z8.onto o9 (by omega); have hp9 := hp8.onto o9 (fun e => by have := hyl6 _ e; omega); have ho9 := ho8.onto o9 (fun e => by have := hxl6 _ e; omega); have hB9 := zA hB8 o9 (by have := hB6.size; omega))
   | (refine zVg rfl rfl rfl rfl rfl hM9 ?_; intro w10 hM10 o10; have r10 := r9.onto o10 (by omega); have z10 := z9.onto o10 (by omega); have hp10 := hp9.onto o10 (fun e => by have := hyl6 _ e; omega); have ho10 := ho9.onto o10 (fun e => by have := hxl6 _ e; omega); have hB10 := zA hB9 o10 (by have := hB6.size; omega))
   | (refine zI rfl rfl rfl r10 ?_)
   | (go_at_call 318; refine (zHg _ m b8 (m.laid q n) _ _ ⟨x4, y4, rfl, ho10, hp10, ha4⟩ hM10 (zTz hok hn') (by have := hB8.size; have := o9.size; have := o10.size; have := hbe8.size; omega)).mono ?_; rintro e w11 ⟨v11, rfl, ⟨x11, y11, rfl, ho11, hp11, ha11⟩, hb11⟩; have hB11 := hB10.trans (hb11.mono hB10.size); have z11 := z10.below hb11)
   | (refine zL rfl rfl rfl rfl z11 (zB ho11) (zB hp11) ?_; intro w7 r7 o7 s7))
  refine qW rfl rfl r7 rfl ?_
  refine ⟨_, rfl, ⟨x11, y11, rfl, ?_, ?_, ha11⟩, zA hB11 o7 (by omega)⟩
  ·exact (ho11.onto o7 (fun e => by have := (ho11.lt _ e).1; omega)).mono (by omega)
  ·exact (hp11.onto o7 (fun e => by have := (hp11.lt _ e).1; omega)).mono (by omega)
end Go.Proofs.YtamldhflkfbdnaaGreatDoor.Mem
namespace Go.Proofs.YtamldhflkfbdnaaGreatDoor.Opl
open Go.ChangeShapes Go.WideShapes Go.RowKit Base

def ops : List (List UInt8 × Int × Int) := [([110, 111, 112], 1, 1), ([108, 100, 97], 2, 2), ([108, 100, 98], 2, 2), ([109, 97, 98], 1, 1), ([109, 98, 97], 1, 1), ([103, 101, 116], 2, 3), ([112, 117, 116], 2, 3), ([103, 105, 98], 1, 2), ([112, 105, 98], 1, 2), ([97, 100, 100], 2, 2), ([97, 100, 98], 1, 1), ([115, 117, 98], 2, 2), ([99, 109, 112], 2, 2), ([97, 110, 100], 2, 2), ([120, 111, 114], 2, 2), ([114, 111, 108], 1, 1), ([114, 111, 114], 1, 1), ([105, 110, 98], 1, 1), ([100, 101, 98], 1, 1), ([106, 109, 112], 2, 3), ([106, 112, 122], 2, 3), ([106, 110, 122], 2, 3), ([106, 112, 99], 2, 3), ([99, 97, 108], 2, 4), ([114, 101, 116], 1, 4), ([112, 115, 104], 1, 3), ([112, 111, 112], 1, 3), ([101, 110, 105], 1, 1), ([100, 105, 115], 1, 1), ([114, 116, 105], 1, 4), ([104, 108, 116], 1, 1)]
def cells3 (x : List UInt8 × Int × Int) : List Value := [.string ⟨x.1.toArray⟩, .int .i64 x.2.1, .int .i64 x.2.2]
def rows (l : List (List UInt8 × Int × Int)) : List Value := l.flatMap cells3
def line (k : Int) : List UInt8 × Int × Int := if 0 ≤ k ∧ k < 31 then ops.getD k.toNat ([], 0, 0) else ([], 0, 0)
def agg3 (x : List UInt8 × Int × Int) : Value := .agg (cells3 x).toArray

def jK (w : World) : Prop := ∃ t fz, w.heap[0]? = some (.cells (rows ops).toArray t fz)

theorem zEe : ∀ (l : List (List UInt8 × Int × Int)) (i j : Nat), i < l.length → j < 3 → (rows l)[i * 3 + j]? = (cells3 (l.getD i ([], 0, 0)))[j]?
 | [], i, j, hi, _ => by simp at hi
 | x :: l, 0, j, _, hj => by
  rcases j with _ | _ | _ | j
  ·rfl
  ·rfl
  ·rfl
  ·omega
 | x :: l, i + 1, j, hi, hj => by
  have ih := zEe l i j (by simpa using hi) hj
  have e : (i + 1) * 3 + j = (cells3 x).length + (i * 3 + j) := by simp [cells3]; omega
  rw [e, rows, List.flatMap_cons, List.getElem?_append_right (by omega)]
  simpa [rows] using ih
theorem zHd (k : Nat) (hk : k < 31) : line (k : Int) = ops.getD k ([], 0, 0) := by
 unfold line
 rw [if_pos (by omega)]
 simp
theorem zU9 {w : World} {b : Nat} {t : TypeId} {fz : Nat × Nat} (h : w.heap[b]? = some (.cells (rows ops).toArray t fz)) (k : Nat) (hk : k < 31) :
  w.cell? ⟨b, k * 3, none⟩ = some (.string ⟨(line k).1.toArray⟩) ∧ w.cell? ⟨b, k * 3 + 1, none⟩ = some (.int .i64 (line k).2.1) ∧ w.cell? ⟨b, k * 3 + 2, none⟩ = some (.int .i64 (line k).2.2) := by
 have c : ∀ j, j < 3 → w.cell? ⟨b, k * 3 + j, none⟩ = (cells3 (line k))[j]? := fun j hj => by
  rw [cell_of_row w b (k * 3 + j) _ t fz h, zHd k hk, ← zEe ops k j hk hj]
  simp
 exact ⟨c 0 (by omega), c 1 (by omega), c 2 (by omega)⟩

theorem zOh (k : Int) (hk : ¬ (0 ≤ k ∧ k < 31)) : agg3 (line k) = .agg #[.string ⟨#[]⟩, .int .i64 0, .int .i64 0] := by
 unfold line
 rw [if_neg hk]
 rfl
theorem jK.below {w w' : World} (h : jK w) (hb : Below w.heap.size w w') : jK w' := by
 obtain ⟨t, fz, h⟩ := h
 exact ⟨t, fz, by rw [hb.block 0 (by
  by_cases h0 : 0 < w.heap.size
  ·exact h0
  ·simp at h0; simp [h0] at h)]; exact h⟩
theorem jK.lt {w : World} (h : jK w) : 0 < w.heap.size := by
 obtain ⟨t, fz, h⟩ := h
 by_cases h0 : 0 < w.heap.size
 ·exact h0
 ·simp at h0; simp [h0] at h
theorem zE9 : Tryz.prog.underlying 254 = some (.struct #[{ name := "name", type := 9, offset := 0, embedded := false, tag := "", pkgPath := "loop.example/g00741/impl", byteOffset := 0 }, { name := "size", type := 2, offset := 1, embedded := false, tag := "", pkgPath := "loop.example/g00741/impl", byteOffset := 16 }, { name := "cost", type := 2, offset := 2, embedded := false, tag := "", pkgPath := "loop.example/g00741/impl", byteOffset := 24 }]) := by kernel_rfl

theorem zO8 (k : Int) (w : World) (hk : ¬ (0 ≤ k ∧ k < 31)) :
  Calls Tryz.prog 245 #[.int .i64 k] w fun e w' => e = .returned (agg3 (line k)) ∧ Below w.heap.size w w' := by
 rw [zOh k hk]
 by_cases h0 : k < 0
 ·go_enter Tryz.func245, Tryz.ntmps245
  go_wp2
  (try simp only [Exit.inBlock, Exit.then]); refine bodyPost_ret (results_cell_row rfl _ _ w.heap.size _ _ _ _ rfl (heap_alloc_new _ _) zE9 rfl (by kernel_rfl)) rfl ?_
  exact ⟨rfl, (Below.refl _ _).alloc (Nat.le_refl _) _⟩
 ·have h1 : 31 ≤ k := by omega
  go_enter Tryz.func245, Tryz.ntmps245
  go_wp2
  (try simp only [Exit.inBlock, Exit.then]); refine bodyPost_ret (results_cell_row rfl _ _ w.heap.size _ _ _ _ rfl (heap_alloc_new _ _) zE9 rfl (by kernel_rfl)) rfl ?_
  exact ⟨rfl, (Below.refl _ _).alloc (Nat.le_refl _) _⟩
theorem zNl (k : Nat) (w : World) (hk : k < 31) (ho : jK w) :
  Calls Tryz.prog 245 #[.int .i64 k] w fun e w' => e = .returned (agg3 (line k)) ∧ Below w.heap.size w w' := by
 have h0 : ¬ (k : Int) < 0 := by omega
 have h1 : ¬ 31 ≤ (k : Int) := by omega
 have hl := ho.lt
 obtain ⟨t, fz, hh⟩ := ho
 obtain ⟨c0, c1, c2⟩ := zU9 hh k hk
 clear hh
 have ha : agg3 (line k) = .agg #[.string ⟨(line k).1.toArray⟩, .int .i64 (line k).2.1, .int .i64 (line k).2.2] := rfl
 rw [ha]
 generalize line k = L at *
 go_enter Tryz.func245, Tryz.ntmps245
 go_wp2
 (try simp only [Exit.inBlock, Exit.then]); refine bodyPost_ret (results_cell_row rfl _ _ w.heap.size _ _ _ _ rfl (heap_alloc_new _ _) zE9 rfl (by kernel_rfl)) rfl ?_
 exact ⟨rfl, (Below.refl _ _).alloc (Nat.le_refl _) _⟩
set_option maxHeartbeats 4000000 in
set_option maxRecDepth 100000 in
theorem zGu (w : World) :
  Calls Tryz.prog 311 #[] w fun e w' => e = .returned (.slice (some ⟨w.heap.size, 0, none⟩) 31 31) ∧ w' = w.alloc (.cells (rows ops).toArray 265) := by
 go_enter Tryz.func311, Tryz.ntmps311
 go_wp2
 go_ret
 exact ⟨rfl, rfl⟩
theorem zQj : Tryz.prog.underlying 265 = some (.struct #[{ name := "name", type := 9, offset := 0, embedded := false, tag := "", pkgPath := "loop.example/g00741/spec", byteOffset := 0 }, { name := "size", type := 2, offset := 1, embedded := false, tag := "", pkgPath := "loop.example/g00741/spec", byteOffset := 16 }, { name := "cost", type := 2, offset := 2, embedded := false, tag := "", pkgPath := "loop.example/g00741/spec", byteOffset := 24 }]) := by kernel_rfl

theorem in_any (n lo hi : Int) (w : World) :
  Calls Tryz.prog 147 #[.int .i64 n, .int .i64 lo, .int .i64 hi] w fun e w' => e = .returned (.bool (decide (lo ≤ n) && decide (n ≤ hi))) ∧ w' = w := by
 by_cases h0 : lo ≤ n
 ·go_enter Tryz.func147, Tryz.ntmps147
  go_wp2
  go_ret
  exact ⟨zT (by simp [h0]), rfl⟩
 ·go_enter Tryz.func147, Tryz.ntmps147
  go_wp2
  go_ret
  exact ⟨zT (by simp; omega), rfl⟩

theorem zWd (k : Nat) (hk : k < 31) : (rows ops)[k * 3]? = some (.string ⟨(line k).1.toArray⟩) ∧ (rows ops)[k * 3 + 1]? = some (.int .i64 (line k).2.1) ∧ (rows ops)[k * 3 + 2]? = some (.int .i64 (line k).2.2) := by
 rw [zHd k hk]
 exact ⟨zEe ops k 0 hk (by omega), zEe ops k 1 hk (by omega), zEe ops k 2 hk (by omega)⟩
theorem zMg (k : Int) (w : World) :
  Calls Tryz.prog 293 #[.int .i64 k] w fun e w' => e = .returned (agg3 (line k)) ∧ Below w.heap.size w w' := by
 by_cases hk : 0 ≤ k ∧ k < 31
 ·obtain ⟨k, rfl⟩ := Int.eq_ofNat_of_zero_le hk.1
  have hk : k < 31 := by omega
  have h0 : (decide ((0 : Int) ≤ (k : Int)) && decide ((k : Int) ≤ 30)) = true := by simp; omega
  have ha : agg3 (line k) = .agg #[.string ⟨(line k).1.toArray⟩, .int .i64 (line k).2.1, .int .i64 (line k).2.2] := rfl
  rw [ha]
  obtain ⟨c0, c1, c2⟩ := zWd k hk
  go_enter Tryz.func293, Tryz.ntmps293
  go_wp2_with (first
   | (go_at_call 311; refine (zGu _).mono ?_; rintro e w1 ⟨rfl, rfl⟩)
   | (go_at_call 147; refine (in_any _ _ _ _).mono ?_; rw [h0]; rintro e w2 ⟨rfl, rfl⟩))
  (try simp only [Exit.inBlock, Exit.then]); refine bodyPost_ret (results_cell_row rfl _ _ w.heap.size _ _ _ _ rfl (heap_alloc2_old _ _ _) zQj rfl (by kernel_rfl)) rfl ?_
  exact ⟨rfl, ((Below.refl _ _).alloc (Nat.le_refl _) _).alloc (by simp) _⟩
 ·rw [zOh k hk]
  have h0 : (decide ((0 : Int) ≤ k) && decide (k ≤ 30)) = false := by simp; omega
  go_enter Tryz.func293, Tryz.ntmps293
  go_wp2_with (first
   | (go_at_call 311; refine (zGu _).mono ?_; rintro e w1 ⟨rfl, rfl⟩)
   | (go_at_call 147; refine (in_any _ _ _ _).mono ?_; rw [h0]; rintro e w2 ⟨rfl, rfl⟩))
  (try simp only [Exit.inBlock, Exit.then]); refine bodyPost_ret (results_cell_row rfl _ _ w.heap.size _ _ _ _ rfl (heap_alloc2_old _ _ _) zQj rfl (by kernel_rfl)) rfl ?_
  exact ⟨rfl, ((Below.refl _ _).alloc (Nat.le_refl _) _).alloc (by simp) _⟩
theorem zSm (a b c : Value) (w : World) : (Instr.field 254 (.agg #[a, b, c]) 1).run Tryz.prog w = .ok b w := by kernel_rfl
theorem zSl (a b c : Value) (w : World) : (Instr.field 254 (.agg #[a, b, c]) 2).run Tryz.prog w = .ok c w := by kernel_rfl
theorem zSk (a b c : Value) (w : World) : (Instr.field 265 (.agg #[a, b, c]) 1).run Tryz.prog w = .ok b w := by kernel_rfl
theorem zSj (a b c : Value) (w : World) : (Instr.field 265 (.agg #[a, b, c]) 2).run Tryz.prog w = .ok c w := by kernel_rfl
theorem zH6 (k : Int) (w : World) (ho : jK w) :
  Calls Tryz.prog 245 #[.int .i64 k] w fun e w' => e = .returned (agg3 (line k)) ∧ Below w.heap.size w w' := by
 by_cases hk : 0 ≤ k ∧ k < 31
 ·obtain ⟨k, rfl⟩ := Int.eq_ofNat_of_zero_le hk.1
  exact zNl k w (by omega) ho
 ·exact zO8 k w hk
theorem zDr (k : Int) (w : World) (ho : jK w) :
  Calls Tryz.prog 204 #[.int .i64 k] w fun e w' => e = .returned (.int .i64 (line k).2.1) ∧ Below w.heap.size w w' := by
 have hf := zSm
 go_enter Tryz.func204, Tryz.ntmps204
 go_wp2_with (go_at_call 245; refine (zH6 _ _ ho).mono ?_; rintro e w1 ⟨he, hb⟩; simp only [agg3, cells3] at he; subst he)
 go_ret
 exact ⟨rfl, hb⟩
theorem zGy (k : Int) (w : World) (ho : jK w) :
  Calls Tryz.prog 207 #[.int .i64 k] w fun e w' => e = .returned (.int .i64 (line k).2.2) ∧ Below w.heap.size w w' := by
 have hf := zSl
 go_enter Tryz.func207, Tryz.ntmps207
 go_wp2_with (go_at_call 245; refine (zH6 _ _ ho).mono ?_; rintro e w1 ⟨he, hb⟩; simp only [agg3, cells3] at he; subst he)
 go_ret
 exact ⟨rfl, hb⟩
theorem sizeOf_spec (k : Int) (w : World) :
  Calls Tryz.prog 221 #[.int .i64 k] w fun e w' => e = .returned (.int .i64 (line k).2.1) ∧ Below w.heap.size w w' := by
 have hf := zSk
 go_enter Tryz.func221, Tryz.ntmps221
 go_wp2_with (go_at_call 293; refine (zMg _ _).mono ?_; rintro e w1 ⟨he, hb⟩; simp only [agg3, cells3] at he; subst he)
 go_ret
 exact ⟨rfl, hb⟩
theorem zMx (k : Int) (w : World) :
  Calls Tryz.prog 223 #[.int .i64 k] w fun e w' => e = .returned (.int .i64 (line k).2.2) ∧ Below w.heap.size w w' := by
 have hf := zSj
 go_enter Tryz.func223, Tryz.ntmps223
 go_wp2_with (go_at_call 293; refine (zMg _ _).mono ?_; rintro e w1 ⟨he, hb⟩; simp only [agg3, cells3] at he; subst he)
 go_ret
 exact ⟨rfl, hb⟩
def nm (i : Nat) : List UInt8 := (line i).1
end Go.Proofs.YtamldhflkfbdnaaGreatDoor.Opl
namespace Go.Proofs.YtamldhflkfbdnaaGreatDoor.Mem
open Go.ChangeShapes Go.WideShapes Go.RowKit Base Num Slc Rw Tmr Srl Rom RomOf Opl

def outs (q n : Int) : Int := if q = 249 then n else -1
def Mc.psh (m : Mc) (n : Int) : Mc := ({ m with sp := (m.sp + 255) % 256 } : Mc).write ((m.sp + 255) % 256) n
def Mc.pshOut (m : Mc) (n : Int) : Int := outs ((m.sp + 255) % 256) n
def Mc.popd (m : Mc) : Mc := { m with sp := (m.sp + 1) % 256 }
def Mc.top (m : Mc) : Int := m.read m.sp
def Mc.alu (m : Mc) (x : Int) (c : Bool) : Mc := { m with a := x, z := x == 0, c := c }
def Mc.cmp (m : Mc) (x : Int) (c : Bool) : Mc := { m with z := x == 0, c := c }
def Mc.cntB (m : Mc) (x : Int) : Mc := { m with b := x, z := x == 0, c := false }
def Mc.jmp (m : Mc) (n : Int) (is : Bool) : Mc := if is then { m with pc := n } else m
def Mc.does (m : Mc) (n : Int) : Nat → Mc × Int
 | 1 => ({ m with a := n }, -1)
 | 2 => ({ m with b := n }, -1)
 | 3 => ({ m with a := m.b }, -1)
 | 4 => ({ m with b := m.a }, -1)
 | 5 => ({ m with a := m.read n }, -1)
 | 6 => (m.write n m.a, outs n m.a)
 | 7 => ({ m with a := m.read m.b }, -1)
 | 8 => (m.write m.b m.a, outs m.b m.a)
 | 9 => (m.alu (addB m.a n) (addC m.a n), -1)
 | 10 => (m.alu (addB m.a m.b) (addC m.a m.b), -1)
 | 11 => (m.alu (subB m.a n) (subC m.a n), -1)
 | 12 => (m.cmp (subB m.a n) (subC m.a n), -1)
 | 13 => (m.alu (bits .and .i64 m.a n) false, -1)
 | 14 => (m.alu (bits .xor .i64 m.a n) false, -1)
 | 15 => (m.alu (zA4 m.a) (zAn m.a), -1)
 | 16 => (m.alu (zA3 m.a) (zBz m.a), -1)
 | 17 => (m.cntB (addB m.b 1), -1)
 | 18 => (m.cntB (subB m.b 1), -1)
 | 19 => (m.jmp n true, -1)
 | 20 => (m.jmp n m.z, -1)
 | 21 => (m.jmp n (!m.z), -1)
 | 22 => (m.jmp n m.c, -1)
 | 23 => ({ m.psh m.pc with pc := n }, m.pshOut m.pc)
 | 24 => ({ m.popd with pc := m.top }, -1)
 | 25 => (m.psh m.a, m.pshOut m.a)
 | 26 => ({ m.popd with a := m.top }, -1)
 | 27 => ({ m with e := true }, -1)
 | 28 => ({ m with e := false }, -1)
 | 29 => ({ m.popd with pc := m.top, e := true }, -1)
 | 30 => ({ m with h := true }, -1)
 | _ => (m, -1)
def Mc.code (m : Mc) : Int := m.read m.pc
def Mc.size' (m : Mc) : Int := (line m.code).2.1
def Mc.opnd (m : Mc) : Int := m.read ((m.pc + 1) % 256)
def Mc.onw (m : Mc) : Mc := { m with pc := (m.pc + m.size') % 256 }
def Mc.exec (m : Mc) : Mc × Int × Int :=
 if m.h || m.s then (m, 1, -1) else if m.size' = 0 then ({ m with s := true }, 1, -1)
 else ((m.onw.does m.opnd m.code.toNat).1, (line m.code).2.2, (m.onw.does m.opnd m.code.toNat).2)
def Mc.execd (m : Mc) : Mc × Int × Int := if m.ok then m.exec else (Mc.nul, 0, -1)

/-! What is right stays right. -/
structure Okm (m : Mc) : Prop where
 rom : xR m.rom = true
 len : m.ram.length = 64
 ram : m.ram.all bok = true
 a : bok m.a = true
 b : bok m.b = true
 pc : bok m.pc = true
 sp : bok m.sp = true
 fl : inn m.fl 0 7 = true
 ms : inn m.ms 0 7 = true
 ky : bok m.ky = true
 t : m.t.ok = true
 p : m.p.ok = true
 k : m.k = m.t.c
theorem okm {m : Mc} : m.ok = true ↔ Okm m := by
 constructor
 ·intro h
  simp only [Mc.ok, Bool.and_eq_true, decide_eq_true_eq, beq_iff_eq] at h
  obtain ⟨⟨⟨⟨⟨⟨⟨⟨⟨⟨⟨⟨h1, h2⟩, h3⟩, h4⟩, h5⟩, h6⟩, h7⟩, h8⟩, h9⟩, h10⟩, h11⟩, h12⟩, h13⟩ := h
  exact ⟨h1, h2, h3, h4, h5, h6, h7, h8, h9, h10, h11, h12, h13⟩
 ·rintro ⟨h1, h2, h3, h4, h5, h6, h7, h8, h9, h10, h11, h12, h13⟩
  simp only [Mc.ok, Bool.and_eq_true, decide_eq_true_eq, beq_iff_eq]
  exact ⟨⟨⟨⟨⟨⟨⟨⟨⟨⟨⟨⟨h1, h2⟩, h3⟩, h4⟩, h5⟩, h6⟩, h7⟩, h8⟩, h9⟩, h10⟩, h11⟩, h12⟩, h13⟩
theorem xI {n : Int} : bok n = true ↔ 0 ≤ n ∧ n ≤ 255 := by simp [bok]
theorem zCz (n : Int) : bok (n % 256) = true := xI.2 (by omega)
theorem zMk {l : List Int} (h : l.all bok = true) {i : Nat} (hi : i < l.length) : bok (l.getD i 0) = true := by
 rw [List.getD_eq_getElem?_getD, List.getElem?_eq_getElem hi]
 exact List.all_eq_true.1 h _ (List.getElem_mem hi)
theorem zHc {m : Mc} (h : m.ok = true) (q : Int) (hq : 0 ≤ q) : bok (m.read q) = true := by
 have h0 := h
 obtain ⟨h1, h2, h3, h4, h5, h6, h7⟩ := Mc.ok_more h0
 have hk := okm.1 h
 have hrom : m.rom.all bok = true := by
  have := hk.rom
  simp only [xR, Bool.and_eq_true] at this
  exact this.1.2
 unfold Mc.read
 by_cases e1 : q < 128
 ·rw [if_pos e1]
  by_cases e2 : q < m.rom.length
  ·rw [if_pos e2]; exact zMk hrom (by omega)
  ·rw [if_neg e2]; rfl
 rw [if_neg e1]
 by_cases e2 : q < 192
 ·rw [if_pos e2]; exact zMk hk.ram (by have := hk.len; omega)
 rw [if_neg e2]
 refine xI.2 ?_
 have hf : ∀ b : Bool, 0 ≤ flag b ∧ flag b ≤ 1 := fun b => by cases b <;> simp [flag]
 have f1 := hf m.p.b
 have f2 := hf m.p.l
 repeat' split
 all_goals omega
theorem zQo {s : Sr} (h : s.ok = true) (lead : Bool) (now : Int) : (s.start lead now).ok = true := by
 unfold Sr.start
 by_cases hs : s.starts lead now = true
 ·rw [if_pos hs]
  have hd : bok s.d = true := by simp only [Sr.ok, Bool.and_eq_true] at h; exact h.1.1.1.1
  simp only [Sr.starts, Bool.and_eq_true] at hs
  cases lead
  ·simp [Sr.ok, hd, clk, inn]
  ·have := qU hs.2
   simp at this
   simp [Sr.ok, hd, clk, inn]
   omega
 ·rw [if_neg hs]; rfl
theorem zHf {m : Mc} (h : m.ok = true) (q n : Int) (hn : bok n = true) : (m.write q n).ok = true := by
 have hk := okm.1 h
 have hn' := xI.1 hn
 have h8 : inn (n % 8) 0 7 = true := by simp [inn]; omega
 unfold Mc.write
 by_cases c : 128 ≤ q ∧ q < 192
 ·rw [if_pos c]
  refine okm.2 { hk with len := by simpa using hk.len, ram := ?_ }
  rw [List.all_eq_true]
  intro x hx
  rcases List.mem_or_eq_of_mem_set hx with h | h
  ·exact List.all_eq_true.1 hk.ram x h
  ·rw [h]; exact hn
 rw [if_neg c]
 have hp := hk.p
 by_cases c0 : q = 240
 ·rw [if_pos c0]
  refine okm.2 { hk with p := ?_ }
  simp only [Sr.ok, Bool.and_eq_true] at hp ⊢
  exact ⟨⟨⟨⟨hn, hp.1.1.1.2⟩, hp.1.1.2⟩, hp.1.2⟩, hp.2⟩
 rw [if_neg c0]
 by_cases c1 : q = 241
 ·rw [if_pos c1]
  refine okm.2 { hk with p := ?_ }
  show (if 127 < n then m.p.start (n % 2 == 1) m.k else ⟨m.p.d, false, false, 0, 0, false⟩ : Sr).ok = true
  by_cases c2 : 127 < n
  ·rw [if_pos c2]; exact zQo hp _ _
  ·rw [if_neg c2]
   have hd : bok m.p.d = true := by simp only [Sr.ok, Bool.and_eq_true] at hp; exact hp.1.1.1.1
   simp [Sr.ok, hd, clk, inn]
 rw [if_neg c1]
 have ht := hk.t
 simp only [Tm.ok, Bool.and_eq_true] at ht
 by_cases c3 : q = 243
 ·rw [if_pos c3]
  refine okm.2 { hk with t := ?_ }
  simp only [Tm.ok, Bool.and_eq_true]
  exact ⟨⟨⟨ht.1.1.1, hn⟩, ht.1.2⟩, ht.2⟩
 rw [if_neg c3]
 by_cases c4 : q = 244
 ·rw [if_pos c4]
  refine okm.2 { hk with t := ?_ }
  simp only [Tm.ok, Bool.and_eq_true]
  exact ⟨⟨⟨ht.1.1.1, ht.1.1.2⟩, hn⟩, ht.2⟩
 rw [if_neg c4]
 by_cases c5 : q = 245
 ·rw [if_pos c5]
  refine okm.2 { hk with t := ?_ }
  simp only [Tm.ok, Bool.and_eq_true]
  exact ⟨⟨⟨ht.1.1.1, ht.1.1.2⟩, ht.1.2⟩, h8⟩
 rw [if_neg c5]
 by_cases c6 : q = 246
 ·rw [if_pos c6]; exact okm.2 { hk with fl := h8 }
 rw [if_neg c6]
 by_cases c7 : q = 247
 ·rw [if_pos c7]; exact okm.2 { hk with ms := h8 }
 rw [if_neg c7]
 exact h
theorem zOp (m : Mc) (n : Int) : m.write 249 n = m := by simp [Mc.write]
theorem zCb (m : Mc) (q n : Int) : (m.write q n).k = m.k ∧ (m.write q n).t.c = m.t.c := by
 unfold Mc.write
 repeat' split
 all_goals exact ⟨rfl, rfl⟩
theorem zLt {m : Mc} (h : m.ok = true) (n : Int) : ({ m with sp := n % 256 } : Mc).ok = true := okm.2 { okm.1 h with sp := zCz n }
theorem zGo {m : Mc} (h : m.ok = true) {n : Int} (hn : bok n = true) : ({ m with pc := n } : Mc).ok = true := okm.2 { okm.1 h with pc := hn }
theorem ok_a {m : Mc} (h : m.ok = true) {n : Int} (hn : bok n = true) : ({ m with a := n } : Mc).ok = true := okm.2 { okm.1 h with a := hn }
theorem zNg {m : Mc} (h : m.ok = true) {n : Int} (hn : bok n = true) : (m.psh n).ok = true := zHf (zLt h _) _ _ hn
theorem zKe {m : Mc} (h : m.ok = true) : m.popd.ok = true := zLt h _
theorem zU8 {m : Mc} (h : m.ok = true) : bok m.top = true := zHc h _ (xI.1 (okm.1 h).sp).1
theorem zE5 {m : Mc} (h : m.ok = true) {n : Int} (hn : bok n = true) (c : Bool) : (m.alu n c).ok = true := okm.2 { okm.1 h with a := hn }
theorem zVz {m : Mc} (h : m.ok = true) (n : Int) (c : Bool) : (m.cmp n c).ok = true := okm.2 { okm.1 h with }
theorem zOn {m : Mc} (h : m.ok = true) {n : Int} (hn : bok n = true) : (m.cntB n).ok = true := okm.2 { okm.1 h with b := hn }
theorem zKv {m : Mc} (h : m.ok = true) {n : Int} (hn : bok n = true) (c : Bool) : (m.jmp n c).ok = true := by
 cases c
 ·exact h
 ·exact zGo h hn
theorem zIc (m : Mc) (n : Int) (c : Bool) : (m.jmp n c).k = m.k ∧ (m.jmp n c).t.c = m.t.c := by cases c <;> exact ⟨rfl, rfl⟩
theorem zEp (a b : Int) : bok (addB a b) = true := by
 unfold addB; split
 ·exact zCz _
 ·rfl
theorem zN4 (a b : Int) : bok (subB a b) = true := by
 unfold subB; split
 ·exact zCz _
 ·rfl
theorem zOr (a : Int) : bok (zA4 a) = true := by
 unfold zA4; split
 ·rename_i h; have := xI.1 h; exact xI.2 (by omega)
 ·rfl
theorem zOq (a : Int) : bok (zA3 a) = true := by
 unfold zA3; split
 ·rename_i h; have := xI.1 h; exact xI.2 (by omega)
 ·rfl
theorem zV2 {a n : Int} (hn : bok n = true) : bok (bits .and .i64 a n) = true := by
 have hn' := xI.1 hn
 have := zCl a n hn'.1 (by omega)
 exact xI.2 (by omega)
theorem zU4 {a n : Int} (ha : bok a = true) (hn : bok n = true) : bok (bits .xor .i64 a n) = true := by
 have ha' := xI.1 ha
 have hn' := xI.1 hn
 have h1 : (BitVec.ofInt 64 a).toNat = a.toNat := by rw [BitVec.toNat_ofInt]; omega
 have h2 : (BitVec.ofInt 64 n).toNat = n.toNat := by rw [BitVec.toNat_ofInt]; omega
 have hle : (BitVec.ofInt 64 a ^^^ BitVec.ofInt 64 n).toNat < 256 := by
  rw [BitVec.toNat_xor, h1, h2]
  exact Nat.xor_lt_two_pow (n := 8) (by omega) (by omega)
 show bok (IntKind.i64.wrap ((BitVec.ofInt 64 a ^^^ BitVec.ofInt 64 n).toNat : Int)) = true
 generalize (BitVec.ofInt 64 a ^^^ BitVec.ofInt 64 n).toNat = r at hle
 have e : IntKind.i64.wrap (r : Int) = (r : Int) := by
  simp [IntKind.wrap, IntKind.bits, IntKind.signed]
  omega
 rw [e]
 exact xI.2 (by omega)
def Like (m x : Mc) : Prop := x.ok = true ∧ x.k = m.k ∧ x.t.c = m.t.c
theorem zPs {m : Mc} (h : m.ok = true) {n : Int} (hn : bok n = true) (k : Nat) : Like m (m.does n k).1 := by
 have hk := okm.1 h
 have hb := zHc h m.b (xI.1 hk.b).1
 have hr := zHc h n (xI.1 hn).1
 have ht := zU8 h
 match k with
 | 0 => exact ⟨h, rfl, rfl⟩
 | 1 => exact ⟨ok_a h hn, rfl, rfl⟩
 | 2 => exact ⟨okm.2 { hk with b := hn }, rfl, rfl⟩
 | 3 => exact ⟨ok_a h hk.b, rfl, rfl⟩
 | 4 => exact ⟨okm.2 { hk with b := hk.a }, rfl, rfl⟩
 | 5 => exact ⟨ok_a h hr, rfl, rfl⟩
 | 6 => exact ⟨zHf h _ _ hk.a, zCb _ _ _⟩
 | 7 => exact ⟨ok_a h hb, rfl, rfl⟩
 | 8 => exact ⟨zHf h _ _ hk.a, zCb _ _ _⟩
 | 9 => exact ⟨zE5 h (zEp _ _) _, rfl, rfl⟩
 | 10 => exact ⟨zE5 h (zEp _ _) _, rfl, rfl⟩
 | 11 => exact ⟨zE5 h (zN4 _ _) _, rfl, rfl⟩
 | 12 => exact ⟨zVz h _ _, rfl, rfl⟩
 | 13 => exact ⟨zE5 h (zV2 hn) _, rfl, rfl⟩
 | 14 => exact ⟨zE5 h (zU4 hk.a hn) _, rfl, rfl⟩
 | 15 => exact ⟨zE5 h (zOr _) _, rfl, rfl⟩
 | 16 => exact ⟨zE5 h (zOq _) _, rfl, rfl⟩
 | 17 => exact ⟨zOn h (zEp _ _), rfl, rfl⟩
 | 18 => exact ⟨zOn h (zN4 _ _), rfl, rfl⟩
 | 19 => exact ⟨zKv h hn _, rfl, rfl⟩
 | 20 => exact ⟨zKv h hn _, zIc _ _ _⟩
 | 21 => exact ⟨zKv h hn _, zIc _ _ _⟩
 | 22 => exact ⟨zKv h hn _, zIc _ _ _⟩
 | 23 => exact ⟨zGo (zNg h hk.pc) hn, zCb _ _ _⟩
 | 24 => exact ⟨zGo (zKe h) ht, rfl, rfl⟩
 | 25 => exact ⟨zNg h hk.a, zCb _ _ _⟩
 | 26 => exact ⟨ok_a (zKe h) ht, rfl, rfl⟩
 | 27 => exact ⟨okm.2 { hk with }, rfl, rfl⟩
 | 28 => exact ⟨okm.2 { hk with }, rfl, rfl⟩
 | 29 => exact ⟨okm.2 { okm.1 (zKe h) with pc := ht }, rfl, rfl⟩
 | 30 => exact ⟨okm.2 { hk with }, rfl, rfl⟩
 | k + 31 => exact ⟨h, rfl, rfl⟩
theorem zKh {m : Mc} (h : m.ok = true) : bok m.opnd = true := zHc h _ (by omega)
theorem zQ9 {m : Mc} (h : m.ok = true) : m.onw.ok = true := zGo h (zCz _)
theorem zPp {m : Mc} (h : m.ok = true) : Like m m.exec.1 := by
 unfold Mc.exec
 split
 ·exact ⟨h, rfl, rfl⟩
 split
 ·exact ⟨okm.2 { okm.1 h with }, rfl, rfl⟩
 ·exact zPs (zQ9 h) (zKh h) _
theorem zN7 (k : Nat) (hk : k < 31) : (line (k : Int)).2.1 = 1 ∨ (line (k : Int)).2.1 = 2 := by
 rw [zHd k hk]
 have : ∀ i : Fin 31, (ops.getD i.val ([], 0, 0)).2.1 = 1 ∨ (ops.getD i.val ([], 0, 0)).2.1 = 2 := by decide +kernel
 exact this ⟨k, hk⟩
theorem zN6 (k : Int) (hk : ¬ (0 ≤ k ∧ k < 31)) : line k = ([], 0, 0) := by unfold line; rw [if_neg hk]
theorem zSq (m : Mc) (n n' : Int) (k : Nat) (hk : k < 31) (h : (line (k : Int)).2.1 ≠ 2) : m.does n k = m.does n' k := by
 rw [zHd k hk] at h
 have : ∀ i : Fin 31, (ops.getD i.val ([], 0, 0)).2.1 = 2 ∨ i.val ∈ [0, 3, 4, 7, 8, 10, 15, 16, 17, 18, 24, 25, 26, 27, 28, 29, 30] := by decide +kernel
 have h' := (this ⟨k, hk⟩).resolve_left h
 simp only [List.mem_cons, List.not_mem_nil, or_false] at h'
 rcases h' with rfl | rfl | rfl | rfl | rfl | rfl | rfl | rfl | rfl | rfl | rfl | rfl | rfl | rfl | rfl | rfl | rfl <;> simp only [Mc.does]
theorem zN3 {n : Int} (h : bok n = true) : subB n 1 = (n + 255) % 256 := by
 have := xI.1 h
 have h1 : bok 1 = true := rfl
 simp only [subB, h, h1, Bool.and_self, if_true]
 omega
theorem zK4 {n : Int} (h : bok n = true) : addB n 1 = (n + 1) % 256 := by
 have h1 : bok 1 = true := rfl
 simp only [addB, h, h1, Bool.and_self, if_true]
theorem zBh {m : Mc} (h : m.ok = true) {q : Int} (hq : bok q = true) : m.readAt q = m.read q := by simp [Mc.readAt, h, hq]
theorem zB1 {m : Mc} (h : m.ok = true) {q n : Int} (hq : bok q = true) (hn : bok n = true) : m.writtenAt q n = m.write q n := by simp [Mc.writtenAt, h, hq, hn]
end Go.Proofs.YtamldhflkfbdnaaGreatDoor.Mem
namespace Go.Proofs.YtamldhflkfbdnaaGreatDoor.Mem
open Go.ChangeShapes Go.WideShapes Go.RowKit Base Num Slc Rw Tmr Srl Rom RomOf

set_option maxHeartbeats 1000000 in
theorem zGt (v : Value) (m : Mc) (w : World) (hm : MSl w v m) (h1 : m.rom.length ≤ 4000000) (h2 : m.ram.length ≤ 4000000) :
  Calls Tryz.prog 66 #[v] w fun e w' => ∃ v', e = .returned v' ∧ MOwn w.heap.size w' v' m ∧ Below w.heap.size w w' := by
 obtain ⟨vr, va, rfl, hr, ha⟩ := hm
 obtain ⟨vv, hvv⟩ : ∃ vv, m.val vr va = vv := ⟨_, rfl⟩
 rw [hvv]
 go_enter Tryz.func66, Tryz.ntmps66
 go_wp2_with (first
  | (refine zP rfl rfl hvv.symm ?_; intro w0 r0 hB0; have k0 := (cw r0).vr; have l0 := r0.lt)
  | (refine zR rfl rfl ?_; intro w1 z1 hB1; have r1 := r0.below hB1; have k1 := (cw r1).vr; have l1 := r1.lt; have hB2 := hB0.trans (hB1.mono hB0.size)))
 go_at_call 88
 refine (zC8 vr m.rom _ (hr.below hB2) (by omega)).mono ?_
 rintro e w2 ⟨v1, rfl, ho1, hb1⟩
 have hB3 := hB2.trans (hb1.mono hB2.size)
 have r2 := r1.below hb1
 have z2 := z1.below hb1
 have hzl := z2.lt
 have hwl := r2.lt
 have hgz : w.heap.size < w0.heap.size := l0
 have s01 := hB1.size
 have hz1 := z1.lt
 clear k0 k1 l0 l1 r0 r1 z1
 go_wp2_with (first
  | (refine zVa rfl rfl rfl rfl r2 (zB ho1) m.rom ?_; intro w3 r3 o3 s3; have k3 := (cw r3).va))
 go_at_call 88
 have hB4 := zA hB3 o3 (Nat.le_refl _)
 refine (zC8 va m.ram _ (ha.below hB4) (by omega)).mono ?_
 rintro e w4 ⟨v2, rfl, ho2, hb2⟩
 have hB5 := hB4.trans (hb2.mono hB4.size)
 have r4 := r3.below hb2
 have z4 := (z2.onto o3 (by omega)).below hb2
 have ho1' := (ho1.onto o3 (fun e => by have := (ho1.lt _ e).1; have := hB2.size; omega)).below hb2
 have ho2b := ho2.lt
 have ho1b := ho1.lt
 have hs3 := s3
 clear k3 r2 r3 z2
 go_wp2_with (first
  | (refine zQr rfl rfl rfl rfl r4 (zB ho2) m.ram ?_; intro w5 r5 o5 s5)
  | (refine zI rfl rfl rfl r5 ?_)
  | (refine zL rfl rfl rfl rfl (z4.onto o5 (by omega)) (zB ho1) (zB ho2) ?_; intro w6 r6 o6 s6))
 refine qW rfl rfl r6 rfl ?_
 have hB6 := zA (zA hB5 o5 (Nat.le_refl _)) o6 (by omega)
 refine ⟨_, rfl, ⟨v1, v2, rfl, ?_, ?_, ?_⟩, hB6⟩
 ·exact ((ho1'.onto o5 (fun e => by have := (ho1b _ e).1; have := hB2.size; omega)).onto o6 (fun e => by have := (ho1b _ e).1; omega)).mono (by have := hB2.size; omega)
 ·exact ((ho2.onto o5 (fun e => by have := (ho2b _ e).1; omega)).onto o6 (fun e => by have := (ho2b _ e).1; omega)).mono (by have := hB4.size; omega)
 ·intro k hk hk'
  have := (ho1b k hk).2
  have := (ho2b k hk').1
  omega
theorem MOwn.onto {base g : Nat} {w w' : World} {vr va : Value} {m : Mc} (h1 : Own base w vr m.rom) (h2 : Own base w va m.ram) (ho : Onto g w w') (hg : w.heap.size ≤ g ∨ g < base) : Own base w' vr m.rom ∧ Own base w' va m.ram :=
 ⟨h1.onto ho (fun e => by have := h1.lt _ e; omega), h2.onto ho (fun e => by have := h2.lt _ e; omega)⟩
theorem vI {g : Nat} {w w' : World} (h : Below w.heap.size w w') : Onto g w w' := ⟨h.os, h.tape, h.output, h.size, fun k _ hk => h.block k hk⟩
theorem zLs {g p : Nat} {a w w' : World} (h : Onto g a w) (ho : Onto p w w') (hp : a.heap.size ≤ p) : Onto g a w' :=
 ⟨ho.os.trans h.os, ho.tape.trans h.tape, ho.output.trans h.output, Nat.le_trans h.size ho.size, fun k hk hl => by rw [ho.block k (by omega) (Nat.lt_of_lt_of_le hl h.size)]; exact h.block k hk hl⟩
def But (y : Value) (w w' : World) : Prop := ∀ g, y.ownBlock = some g → Onto g w w'
set_option maxHeartbeats 2000000 in
theorem zNr (v vr va : Value) (m : Mc) (q n : Int) (w : World) (base : Nat) (hv : v = m.val vr va) (hr : Own base w vr m.rom) (ha : Own base w va m.ram) (hap : ∀ k, vr.ownBlock = some k → va.ownBlock ≠ some k) (hR : Right m) (hq : 0 ≤ q ∧ q ≤ 255) (hn : 0 ≤ n ∧ n ≤ 255) (hbase : base ≤ w.heap.size) :
  Calls Tryz.prog 310 #[v, .int .i64 q, .int .i64 n] w fun e w' => ∃ v', e = .returned v' ∧ (v' = (m.write q n).val vr va ∧ Own base w' vr (m.write q n).rom ∧ Own base w' va (m.write q n).ram) ∧ But va w w' := by
 have hR1 := hR.rom
 have hR2 := hR.ram
 have o1 := zB hr
 have o2 := zB ha
 have hrl := hr.lt
 have hal := ha.lt
 by_cases hin : 128 ≤ q ∧ q < 192
 ·have e : m.write q n = { m with ram := m.ram.set (q - 128).toNat n } := by simp [Mc.write, hin]
  rw [e]
  obtain ⟨k, rfl⟩ : ∃ k : Nat, q = 128 + (k : Int) := ⟨(q - 128).toNat, by omega⟩
  have h2 : (128 + (k : Int) - 128).toNat = k := by omega
  rw [h2]
  have hs : 128 + (k : Int) - 128 = (k : Int) := by omega
  obtain ⟨g, cap, rfl, hg1, hg2, hg3, hg4⟩ := ha.block (by omega)
  unfold maxLen at hg4
  have hkl : k < m.ram.length := by omega
  have hkl' : (k : Int) < (m.ram.length : Int) := by omega
  have hr2 : Hid (m.ram.length = 64) := hR2
  clear hR2 e h2
  go_enter Tryz.func310, Tryz.ntmps310
  go_wp2_with (first
   | (refine zP rfl rfl hv ?_; intro w0 r0 hB0)
   | (refine zR rfl rfl ?_; intro w1 z1 hB1; have r1 := r0.below hB1; have k1 := (cw r1).va; have hB2 := hB0.trans (hB1.mono hB0.size); have ha1 := ha.below hB2; have hr1 := hr.below hB2; have hc1 := ha1.cellAt (j := k) hkl; have hf1 := ha1.free k; have l0 := r0.lt; have l1 := r1.lt; have lz := z1.lt)
   | (refine zI rfl rfl rfl (r1.setOther ⟨g, k, none⟩ (.int .i64 n) (show w.heap.size ≠ g by omega)) ?_)
   | (refine zL rfl rfl rfl rfl (z1.setOther ⟨g, k, none⟩ (.int .i64 n) (show w0.heap.size ≠ g by omega)) o1 rfl ?_; intro w6 r6 o6 s6))
  refine qW rfl rfl r6 rfl ?_
  have hst := ha1.store k n
  have hr2 := hr1.grown hst.2 (fun j hj e => by cases hj; exact hap g e rfl)
  refine ⟨_, rfl, ⟨rfl, ?_, ?_⟩, ?_⟩
  ·exact hr2.onto o6 (fun e => by have := hrl _ e; omega)
  ·exact hst.1.onto o6 (fun e => by simp [Value.ownBlock] at e; omega)
  ·intro g' hg'
   obtain rfl : g = g' := by simpa [Value.ownBlock] using hg'
   exact zLs ((vI (g := g) hB2).setCell (q := ⟨g, k, none⟩) rfl _) o6 (by omega)
 ·have hni : ¬ (128 ≤ q ∧ q < 192) := hin
  have h8 := vH (a := n) (r := 8) hn.1
  have h2 := vH (a := n) (r := 2) hn.1
  by_cases c240 : q = 240
  ·subst c240
   have e : m.write 240 n = { m with p := { m.p with d := n } } := by simp [Mc.write]
   rw [e]
   clear e
   go_enter Tryz.func310, Tryz.ntmps310
   go_wp2_with (first
    | (refine zP rfl rfl hv ?_; intro w0 r0 hB0)
    | (refine zR rfl rfl ?_; intro w1 z1 hB1; have r1 := r0.below hB1; have hB2 := hB0.trans (hB1.mono hB0.size); have l0 := r0.lt; have l1 := r1.lt; have lz := z1.lt)
    | (refine qV (m' := { m with p := { m.p with d := n } }) rfl rfl rfl rfl r1 rfl rfl ?_; intro w3 r3 o3 s3)
    | (refine zI rfl rfl rfl r3 ?_)
    | (refine zL rfl rfl rfl rfl ((z1).onto o3 (by omega)) o1 o2 ?_; intro w6 r6 o6 s6))
   refine qW rfl rfl r6 rfl ?_
   have hB3 := hB2
   have hB6 := zA (zA hB3 o3 (Nat.le_refl _)) o6 (by omega)
   exact ⟨_, rfl, ⟨rfl, hr.below hB6, ha.below hB6⟩, fun _ _ => vI hB6⟩
  by_cases c241 : q = 241
  ·subst c241
   by_cases hbig : 127 < n
   ·have hlead : (n % 2 == 1) = decide (n % 2 = 1) := rfl
    have e : m.write 241 n = { m with p := m.p.start (n % 2 == 1) m.k } := by simp [Mc.write, hbig]
    rw [e]
    clear e
    go_enter Tryz.func310, Tryz.ntmps310
    go_wp2_with (first
    | (refine zP rfl rfl hv ?_; intro w0 r0 hB0)
    | (refine zR rfl rfl ?_; intro w1 z1 hB1; have r1 := r0.below hB1; have hB2 := hB0.trans (hB1.mono hB0.size); have l0 := r0.lt; have l1 := r1.lt; have lz := z1.lt; have kk := (cw r1).k)
    | (refine zRn rfl rfl rfl r1 ?_)
    | (go_at_call 240; refine (zAf m.p _ _ _).mono ?_; rintro e w5 ⟨rfl, hb5⟩)
    | (refine zFb rfl rfl rfl rfl (r1.below hb5) ?_; intro w3 r3 o3 s3)
    | (refine zI rfl rfl rfl r3 ?_)
    | (refine zL rfl rfl rfl rfl ((z1.below hb5).onto o3 (by omega)) o1 o2 ?_; intro w6 r6 o6 s6))
    refine qW rfl rfl r6 rfl ?_
    have hB3 := hB2.trans (hb5.mono hB2.size)
    have hB6 := zA (zA hB3 o3 (Nat.le_refl _)) o6 (by omega)
    exact ⟨_, rfl, ⟨rfl, hr.below hB6, ha.below hB6⟩, fun _ _ => vI hB6⟩
   ·skip
    have e : m.write 241 n = { m with p := ⟨m.p.d, false, false, 0, 0, false⟩ } := by simp [Mc.write, hbig]
    rw [e]
    clear e
    go_enter Tryz.func310, Tryz.ntmps310
    go_wp2_with (first
    | (refine zP rfl rfl hv ?_; intro w0 r0 hB0)
    | (refine zR rfl rfl ?_; intro w1 z1 hB1; have r1 := r0.below hB1; have hB2 := hB0.trans (hB1.mono hB0.size); have l0 := r0.lt; have l1 := r1.lt; have lz := z1.lt; have kk := (cw r1).pd)
    | (refine zFb (s := ⟨m.p.d, false, false, 0, 0, false⟩) rfl rfl rfl rfl r1 ?_; intro w3 r3 o3 s3)
    | (refine zI rfl rfl rfl r3 ?_)
    | (refine zL rfl rfl rfl rfl ((z1).onto o3 (by omega)) o1 o2 ?_; intro w6 r6 o6 s6))
    refine qW rfl rfl r6 rfl ?_
    have hB3 := hB2
    have hB6 := zA (zA hB3 o3 (Nat.le_refl _)) o6 (by omega)
    exact ⟨_, rfl, ⟨rfl, hr.below hB6, ha.below hB6⟩, fun _ _ => vI hB6⟩
  by_cases c243 : q = 243
  ·subst c243
   have e : m.write 243 n = { m with t := { m.t with v := n } } := by simp [Mc.write]
   rw [e]
   clear e
   go_enter Tryz.func310, Tryz.ntmps310
   go_wp2_with (first
    | (refine zP rfl rfl hv ?_; intro w0 r0 hB0)
    | (refine zR rfl rfl ?_; intro w1 z1 hB1; have r1 := r0.below hB1; have hB2 := hB0.trans (hB1.mono hB0.size); have l0 := r0.lt; have l1 := r1.lt; have lz := z1.lt)
    | (refine qV (m' := { m with t := { m.t with v := n } }) rfl rfl rfl rfl r1 rfl rfl ?_; intro w3 r3 o3 s3)
    | (refine zI rfl rfl rfl r3 ?_)
    | (refine zL rfl rfl rfl rfl ((z1).onto o3 (by omega)) o1 o2 ?_; intro w6 r6 o6 s6))
   refine qW rfl rfl r6 rfl ?_
   have hB3 := hB2
   have hB6 := zA (zA hB3 o3 (Nat.le_refl _)) o6 (by omega)
   exact ⟨_, rfl, ⟨rfl, hr.below hB6, ha.below hB6⟩, fun _ _ => vI hB6⟩
  by_cases c244 : q = 244
  ·subst c244
   have e : m.write 244 n = { m with t := { m.t with s := n } } := by simp [Mc.write]
   rw [e]
   clear e
   go_enter Tryz.func310, Tryz.ntmps310
   go_wp2_with (first
    | (refine zP rfl rfl hv ?_; intro w0 r0 hB0)
    | (refine zR rfl rfl ?_; intro w1 z1 hB1; have r1 := r0.below hB1; have hB2 := hB0.trans (hB1.mono hB0.size); have l0 := r0.lt; have l1 := r1.lt; have lz := z1.lt)
    | (refine qV (m' := { m with t := { m.t with s := n } }) rfl rfl rfl rfl r1 rfl rfl ?_; intro w3 r3 o3 s3)
    | (refine zI rfl rfl rfl r3 ?_)
    | (refine zL rfl rfl rfl rfl ((z1).onto o3 (by omega)) o1 o2 ?_; intro w6 r6 o6 s6))
   refine qW rfl rfl r6 rfl ?_
   have hB3 := hB2
   have hB6 := zA (zA hB3 o3 (Nat.le_refl _)) o6 (by omega)
   exact ⟨_, rfl, ⟨rfl, hr.below hB6, ha.below hB6⟩, fun _ _ => vI hB6⟩
  by_cases c245 : q = 245
  ·subst c245
   have e : m.write 245 n = { m with t := { m.t with m := n % 8 } } := by simp [Mc.write]
   rw [e]
   clear e
   go_enter Tryz.func310, Tryz.ntmps310
   go_wp2_with (first
    | (refine zP rfl rfl hv ?_; intro w0 r0 hB0)
    | (refine zR rfl rfl ?_; intro w1 z1 hB1; have r1 := r0.below hB1; have hB2 := hB0.trans (hB1.mono hB0.size); have l0 := r0.lt; have l1 := r1.lt; have lz := z1.lt)
    | (refine qV (m' := { m with t := { m.t with m := n % 8 } }) rfl rfl rfl rfl r1 rfl rfl ?_; intro w3 r3 o3 s3)
    | (refine zI rfl rfl rfl r3 ?_)
    | (refine zL rfl rfl rfl rfl ((z1).onto o3 (by omega)) o1 o2 ?_; intro w6 r6 o6 s6))
   refine qW rfl rfl r6 rfl ?_
   have hB3 := hB2
   have hB6 := zA (zA hB3 o3 (Nat.le_refl _)) o6 (by omega)
   exact ⟨_, rfl, ⟨rfl, hr.below hB6, ha.below hB6⟩, fun _ _ => vI hB6⟩
  by_cases c246 : q = 246
  ·subst c246
   have e : m.write 246 n = { m with fl := n % 8 } := by simp [Mc.write]
   rw [e]
   clear e
   go_enter Tryz.func310, Tryz.ntmps310
   go_wp2_with (first
    | (refine zP rfl rfl hv ?_; intro w0 r0 hB0)
    | (refine zR rfl rfl ?_; intro w1 z1 hB1; have r1 := r0.below hB1; have hB2 := hB0.trans (hB1.mono hB0.size); have l0 := r0.lt; have l1 := r1.lt; have lz := z1.lt)
    | (refine qV (m' := { m with fl := n % 8 }) rfl rfl rfl rfl r1 rfl rfl ?_; intro w3 r3 o3 s3)
    | (refine zI rfl rfl rfl r3 ?_)
    | (refine zL rfl rfl rfl rfl ((z1).onto o3 (by omega)) o1 o2 ?_; intro w6 r6 o6 s6))
   refine qW rfl rfl r6 rfl ?_
   have hB3 := hB2
   have hB6 := zA (zA hB3 o3 (Nat.le_refl _)) o6 (by omega)
   exact ⟨_, rfl, ⟨rfl, hr.below hB6, ha.below hB6⟩, fun _ _ => vI hB6⟩
  by_cases c247 : q = 247
  ·subst c247
   have e : m.write 247 n = { m with ms := n % 8 } := by simp [Mc.write]
   rw [e]
   clear e
   go_enter Tryz.func310, Tryz.ntmps310
   go_wp2_with (first
    | (refine zP rfl rfl hv ?_; intro w0 r0 hB0)
    | (refine zR rfl rfl ?_; intro w1 z1 hB1; have r1 := r0.below hB1; have hB2 := hB0.trans (hB1.mono hB0.size); have l0 := r0.lt; have l1 := r1.lt; have lz := z1.lt)
    | (refine qV (m' := { m with ms := n % 8 }) rfl rfl rfl rfl r1 rfl rfl ?_; intro w3 r3 o3 s3)
    | (refine zI rfl rfl rfl r3 ?_)
    | (refine zL rfl rfl rfl rfl ((z1).onto o3 (by omega)) o1 o2 ?_; intro w6 r6 o6 s6))
   refine qW rfl rfl r6 rfl ?_
   have hB3 := hB2
   have hB6 := zA (zA hB3 o3 (Nat.le_refl _)) o6 (by omega)
   exact ⟨_, rfl, ⟨rfl, hr.below hB6, ha.below hB6⟩, fun _ _ => vI hB6⟩
  have e : m.write q n = m := by simp [Mc.write, hni, c240, c241, c243, c244, c245, c246, c247]
  rw [e]
  clear e
  by_cases hlo : 128 ≤ q
  ·have hhi : ¬ q < 192 := by omega
   go_enter Tryz.func310, Tryz.ntmps310
   go_wp2_with (first
    | (refine zP rfl rfl hv ?_; intro w0 r0 hB0)
    | (refine zR rfl rfl ?_; intro w1 z1 hB1; have r1 := r0.below hB1; have hB2 := hB0.trans (hB1.mono hB0.size); have l0 := r0.lt)
    | (refine zI rfl rfl rfl r1 ?_)
    | (refine zL rfl rfl rfl rfl z1 o1 o2 ?_; intro w6 r6 o6 s6))
   refine qW rfl rfl r6 rfl ?_
   have hB6 := zA hB2 o6 (by omega)
   exact ⟨_, rfl, ⟨rfl, hr.below hB6, ha.below hB6⟩, fun _ _ => vI hB6⟩
  ·go_enter Tryz.func310, Tryz.ntmps310
   go_wp2_with (first
    | (refine zP rfl rfl hv ?_; intro w0 r0 hB0)
    | (refine zR rfl rfl ?_; intro w1 z1 hB1; have r1 := r0.below hB1; have hB2 := hB0.trans (hB1.mono hB0.size); have l0 := r0.lt)
    | (refine zI rfl rfl rfl r1 ?_)
    | (refine zL rfl rfl rfl rfl z1 o1 o2 ?_; intro w6 r6 o6 s6))
   refine qW rfl rfl r6 rfl ?_
   have hB6 := zA hB2 o6 (by omega)
   exact ⟨_, rfl, ⟨rfl, hr.below hB6, ha.below hB6⟩, fun _ _ => vI hB6⟩
open Opl Reg
structure Ow (base : Nat) (w : World) (x y : Value) (m : Mc) : Prop where
 hx : Own base w x m.rom
 hy : Own base w y m.ram
 ap : ∀ k, x.ownBlock = some k → y.ownBlock ≠ some k
 le : base ≤ w.heap.size
theorem Ow.below {base : Nat} {w w' : World} {x y : Value} {m : Mc} (h : Ow base w x y m) (hb : Below w.heap.size w w') : Ow base w' x y m :=
 ⟨h.hx.below hb, h.hy.below hb, h.ap, Nat.le_trans h.le hb.size⟩
theorem Ow.as {base : Nat} {w : World} {x y : Value} {m m' : Mc} (h : Ow base w x y m) (h1 : m'.rom = m.rom) (h2 : m'.ram = m.ram) : Ow base w x y m' := ⟨h1 ▸ h.hx, h2 ▸ h.hy, h.ap, h.le⟩
theorem Ow.sl {base : Nat} {w : World} {x y : Value} {m : Mc} (h : Ow base w x y m) : MSl w (m.val x y) m := ⟨x, y, rfl, h.hx.sl, h.hy.sl⟩
theorem Ow.onto {base p : Nat} {w w' : World} {x y : Value} {m : Mc} (h : Ow base w x y m) (ho : Onto p w w') (hp : w.heap.size ≤ p) : Ow base w' x y m :=
 ⟨h.hx.onto ho (fun e => by have := (h.hx.lt _ e).2; omega), h.hy.onto ho (fun e => by have := (h.hy.lt _ e).2; omega), h.ap, Nat.le_trans h.le ho.size⟩
theorem Ow.at {base p : Nat} {w w' : World} {x y : Value} {m : Mc} (h : Ow base w x y m) (ho : Onto p w w') (h1 : x.ownBlock ≠ some p) (h2 : y.ownBlock ≠ some p) : Ow base w' x y m :=
 ⟨h.hx.onto ho h1, h.hy.onto ho h2, h.ap, Nat.le_trans h.le ho.size⟩
theorem But.refl (y : Value) (w : World) : But y w w := fun _ _ => Onto.refl _ _
theorem But.of {y : Value} {w w' : World} (h : Below w.heap.size w w') : But y w w' := fun _ _ => vI h
theorem But.trans {y : Value} {a b c : World} (h : But y a b) (k : But y b c) : But y a c := fun g hg => (h g hg).trans (k g hg)
theorem But.new {y : Value} {p : Nat} {a w w' : World} (h : But y a w) (ho : Onto p w w') (hp : a.heap.size ≤ p) : But y a w' := fun g hg => zLs (h g hg) ho hp
theorem But.row {y : Value} {w w' : World} {b : Nat} {cs : Array Value} {T : TypeId} (h : But y w w') {g : Nat} (hg : y.ownBlock = some g) (hr : Row w b cs T) (hb : g ≠ b) : Row w' b cs T := hr.onto (h g hg) (fun e => hb e.symm)
section
variable {base : Nat} {w : World} {x y v : Value} {m : Mc}
theorem qZ (h : Own base w y m.ram) (hok : m.ok = true) : ∃ g, y.ownBlock = some g ∧ g < w.heap.size := by
 obtain ⟨g, cap, rfl, h1, h2, h3⟩ := h.block (by have := (okm.1 hok).len; omega)
 exact ⟨g, rfl, h2⟩
theorem zE1 (hv : v = m.val x y) (h : Ow base w x y m) (hok : m.ok = true) (q n : Int) (hq : bok q = true) (hn : bok n = true) :
  Calls Tryz.prog 291 #[v, .int .i64 q, .int .i64 n] w fun e w' => e = .returned (.tuple #[(m.write q n).val x y, .int .i64 (outs q n)]) ∧ Ow base w' x y (m.write q n) ∧ But y w w' := by
 obtain ⟨g, hg, hgl⟩ := qZ h.hy hok
 by_cases e9 : q = 249
 ·subst e9
  have hE : Hid (outs 249 n = n ∧ m.write 249 n = m) := show _ ∧ _ from ⟨rfl, zOp m n⟩
  go_enter Tryz.func291, Tryz.ntmps291
  go_wp2_with (first
   | (refine zP rfl rfl hv ?_; intro w0 r0 hB0)
   | (refine zR rfl rfl ?_; intro w1 z1 hB1; have r1 := r0.below hB1; have hB2 := hB0.trans (hB1.mono hB0.size); have l0 := r0.lt; have lz := z1.lt)
   | (refine zI rfl rfl rfl r1 ?_)
   | (refine zL rfl rfl rfl rfl z1 (zB h.hx) (zB h.hy) ?_; intro w6 r6 o6 s6))
  refine qA rfl rfl r6 rfl rfl ?_
  have hB6 := zA hB2 o6 (by omega)
  rw [hE.out.1, hE.out.2]
  exact ⟨rfl, h.below hB6, .of hB6⟩
 ·have e9' : (q == 249) = false := by simpa using e9
  have hE : Hid (outs q n = -1) := show _ = _ by simp [outs, e9]
  clear e9
  go_enter Tryz.func291, Tryz.ntmps291
  go_wp2_with (first
   | (refine zP rfl rfl hv ?_; intro w0 r0 hB0)
   | (refine zR rfl rfl ?_; intro w1 z1 hB1; have r1 := r0.below hB1; have hB2 := hB0.trans (hB1.mono hB0.size); have l0 := r0.lt; have lz := z1.lt; have h2 := h.below hB2)
   | (refine zI rfl rfl rfl r1 ?_)
   | (go_at_call 310; refine (zNr _ x y m _ _ _ base rfl h2.hx h2.hy h2.ap (Mc.right hok) (xI.1 hq) (xI.1 hn) h2.le).mono ?_; rintro e w3 ⟨v3, rfl, ⟨rfl, hx3, hy3⟩, hb3⟩; have z3 := hb3.row hg z1 (by omega))
   | (refine zL rfl rfl rfl rfl z3 (zB h.hx) (zB h.hy) ?_; intro w6 r6 o6 s6))
  refine qA rfl rfl r6 rfl rfl ?_
  rw [hE.out]
  have h3 : Ow base w3 x y (m.write q n) := ⟨hx3, hy3, h.ap, Nat.le_trans h2.le (hb3 g hg).size⟩
  exact ⟨rfl, h3.at o6 (fun e => by have := (h.hx.lt _ e).2; omega) (fun e => by have := (h.hy.lt _ e).2; omega), ((But.of hB2).trans hb3).new o6 (by omega)⟩
end
section
variable {base : Nat} {w : World} {x y v : Value} {m : Mc}

theorem zBu (hv : v = m.val x y) (h : Ow base w x y m) (hok : m.ok = true) (n : Int) (hn : bok n = true) :
  Calls Tryz.prog 219 #[v, .int .i64 n] w fun e w' => e = .returned (.tuple #[(m.psh n).val x y, .int .i64 (m.pshOut n)]) ∧ Ow base w' x y (m.psh n) ∧ But y w w' := by
 obtain ⟨g, hg, hgl⟩ := qZ h.hy hok
 have hsp := xI.1 (okm.1 hok).sp
 have hrem := vH (a := m.sp + 255) (r := 256) (by omega)
 have hS : ({ m with sp := (m.sp + 255) % 256 } : Mc).ok = true := zLt hok _
 go_enter Tryz.func219, Tryz.ntmps219
 go_wp2_with (first
  | (refine zP rfl rfl hv ?_; intro w0 r0 hB0)
  | (refine zR rfl rfl ?_; intro w1 z1 hB1; have r1 := r0.below hB1; have hB2 := hB0.trans (hB1.mono hB0.size); have l0 := r0.lt; have lz := z1.lt; have h1 := h.below hB2; have ks := (cw r1).sp)
  | (refine qV (m' := { m with sp := (m.sp + 255) % 256 }) rfl rfl rfl rfl r1 rfl rfl ?_; intro w2 r2 o2 s2; have z2 := z1.onto o2 (by omega); have h2 := (h1.at o2 (fun e => by have := (h.hx.lt _ e).2; omega) (fun e => by have := (h.hy.lt _ e).2; omega)).as (m' := { m with sp := (m.sp + 255) % 256 }) rfl rfl; have ks2 := (cw r2).sp; have hB3 := zA hB2 o2 (by omega))
  | (refine zI rfl rfl rfl r2 ?_)
  | (go_at_call 291; refine (zE1 rfl h2 hS _ _ (zCz _) hn).mono ?_; rintro e w3 ⟨rfl, h3, hb3⟩; have z3 := hb3.row hg z2 (by omega))
  | (refine zL rfl rfl rfl rfl z3 (zB h.hx) (zB h.hy) ?_; intro w6 r6 o6 s6))
 refine qA rfl rfl r6 rfl rfl ?_
 exact ⟨rfl, h3.at o6 (fun e => by have := (h.hx.lt _ e).2; omega) (fun e => by have := (h.hy.lt _ e).2; omega), ((But.of hB3).trans hb3).new o6 (by omega)⟩
theorem zCe (hv : v = m.val x y) (h : Ow base w x y m) (hok : m.ok = true) :
  Calls Tryz.prog 297 #[v] w fun e w' => e = .returned (.tuple #[m.popd.val x y, .int .i64 m.top]) ∧ Ow base w' x y m.popd ∧ Below w.heap.size w w' := by
 have hsp := xI.1 (okm.1 hok).sp
 have hrem := vH (a := m.sp + 1) (r := 256) (by omega)
 go_enter Tryz.func297, Tryz.ntmps297
 go_wp2_with (first
  | (refine zP rfl rfl hv ?_; intro w0 r0 hB0)
  | (refine zR rfl rfl ?_; intro w1 z1 hB1; have r1 := r0.below hB1; have hB2 := hB0.trans (hB1.mono hB0.size); have l0 := r0.lt; have lz := z1.lt; have h1 := h.below hB2; have ks := (cw r1).sp)
  | (refine zI rfl rfl rfl r1 ?_)
  | (go_at_call 220; refine (zAz _ m _ _ h1.sl (Mc.right hok) hsp).mono ?_; rintro e w2 ⟨rfl, hb2⟩; have hB3 := hB2.trans (hb2.mono hB2.size); have z2 := z1.below hb2; have r2 := r1.below hb2; have ks2 := (cw r2).sp; clear ks)
  | (refine qV (m' := m.popd) rfl rfl rfl rfl r2 rfl rfl ?_; intro w3 r3 o3 s3; have z3 := z2.onto o3 (by omega); have hB4 := zA hB3 o3 (by omega))
  | (refine zI rfl rfl rfl r3 ?_)
  | (refine zL rfl rfl rfl rfl z3 (zB h.hx) (zB h.hy) ?_; intro w6 r6 o6 s6))
 refine qA rfl rfl r6 rfl rfl ?_
 have hB6 := zA hB4 o6 (by omega)
 exact ⟨rfl, (h.below hB6).as rfl rfl, hB6⟩
theorem vW (hv : v = m.val x y) (h : Ow base w x y m) (n : Int) (c : Bool) :
  Calls Tryz.prog 316 #[v, .int .i64 n, .bool c] w fun e w' => e = .returned ((m.alu n c).val x y) ∧ Below w.heap.size w w' := by
 go_enter Tryz.func316, Tryz.ntmps316
 go_wp2_with (first
  | (refine zP rfl rfl hv ?_; intro w0 r0 hB0)
  | (refine zR rfl rfl ?_; intro w1 z1 hB1; have r1 := r0.below hB1; have hB2 := hB0.trans (hB1.mono hB0.size); have l0 := r0.lt; have lz := z1.lt; have h1 := h.below hB2)
  | (refine qV (m' := { m with a := n }) rfl rfl rfl rfl r1 rfl rfl ?_; intro w2 r2 o2 s2; have z2 := z1.onto o2 (by omega); have hB3 := zA hB2 o2 (by omega))
  | (refine xY (m' := { m with a := n, z := n == 0 }) rfl rfl rfl rfl r2 rfl rfl ?_; intro w3 r3 o3 s3; have z3 := z2.onto o3 (by omega); have hB4 := zA hB3 o3 (by omega))
  | (refine xY (m' := m.alu n c) rfl rfl rfl rfl r3 rfl rfl ?_; intro w4 r4 o4 s4; have z4 := z3.onto o4 (by omega); have hB5 := zA hB4 o4 (by omega))
  | (refine zI rfl rfl rfl r4 ?_)
  | (refine zL rfl rfl rfl rfl z4 (zB h.hx) (zB h.hy) ?_; intro w6 r6 o6 s6))
 refine qW rfl rfl r6 rfl ?_
 exact ⟨rfl, zA hB5 o6 (by omega)⟩
theorem zMe (hv : v = m.val x y) (h : Ow base w x y m) :
  Calls Tryz.prog 295 #[v, .int .i64 17] w fun e w' => e = .returned ((m.cntB (addB m.b 1)).val x y) ∧ Below w.heap.size w w' := by
 obtain ⟨B, HB⟩ : ∃ B, Hid (B = addB m.b 1) := ⟨_, show _ = _ from rfl⟩
 rw [← HB.out]
 go_enter Tryz.func295, Tryz.ntmps295
 go_wp2_with (first
  | (refine zP rfl rfl hv ?_; intro w0 r0 hB0)
  | (refine zR rfl rfl ?_; intro w1 z1 hB1; have r1 := r0.below hB1; have hB2 := hB0.trans (hB1.mono hB0.size); have l0 := r0.lt; have lz := z1.lt; have h1 := h.below hB2; have kb := (cw r1).b)
  | (go_at_call 312; refine (zDk _ _ _).mono ?_; rintro e w9 ⟨rfl, rfl⟩; rw [← HB.out])
  | (refine qV (m' := { m with b := B }) rfl rfl rfl rfl r1 rfl rfl ?_; intro w2 r2 o2 s2; have z2 := z1.onto o2 (by omega); have hB3 := zA hB2 o2 (by omega); have kb2 := (cw r2).b)
  | (refine xY (m' := { m with b := B, z := B == 0 }) rfl rfl rfl rfl r2 rfl rfl ?_; intro w3 r3 o3 s3; have z3 := z2.onto o3 (by omega); have hB4 := zA hB3 o3 (by omega))
  | (refine xY (m' := m.cntB B) rfl rfl rfl rfl r3 rfl rfl ?_; intro w4 r4 o4 s4; have z4 := z3.onto o4 (by omega); have hB5 := zA hB4 o4 (by omega))
  | (refine zI rfl rfl rfl r4 ?_)
  | (refine zL rfl rfl rfl rfl z4 (zB h.hx) (zB h.hy) ?_; intro w6 r6 o6 s6))
 refine qW rfl rfl r6 rfl ?_
 exact ⟨rfl, zA hB5 o6 (by omega)⟩
theorem zMd (hv : v = m.val x y) (h : Ow base w x y m) :
  Calls Tryz.prog 295 #[v, .int .i64 18] w fun e w' => e = .returned ((m.cntB (subB m.b 1)).val x y) ∧ Below w.heap.size w w' := by
 obtain ⟨B, HB⟩ : ∃ B, Hid (B = subB m.b 1) := ⟨_, show _ = _ from rfl⟩
 rw [← HB.out]
 go_enter Tryz.func295, Tryz.ntmps295
 go_wp2_with (first
  | (refine zP rfl rfl hv ?_; intro w0 r0 hB0)
  | (refine zR rfl rfl ?_; intro w1 z1 hB1; have r1 := r0.below hB1; have hB2 := hB0.trans (hB1.mono hB0.size); have l0 := r0.lt; have lz := z1.lt; have h1 := h.below hB2; have kb := (cw r1).b)
  | (go_at_call 313; refine (zDc _ _ _).mono ?_; rintro e w9 ⟨rfl, rfl⟩; rw [← HB.out])
  | (refine qV (m' := { m with b := B }) rfl rfl rfl rfl r1 rfl rfl ?_; intro w2 r2 o2 s2; have z2 := z1.onto o2 (by omega); have hB3 := zA hB2 o2 (by omega); have kb2 := (cw r2).b)
  | (refine xY (m' := { m with b := B, z := B == 0 }) rfl rfl rfl rfl r2 rfl rfl ?_; intro w3 r3 o3 s3; have z3 := z2.onto o3 (by omega); have hB4 := zA hB3 o3 (by omega))
  | (refine xY (m' := m.cntB B) rfl rfl rfl rfl r3 rfl rfl ?_; intro w4 r4 o4 s4; have z4 := z3.onto o4 (by omega); have hB5 := zA hB4 o4 (by omega))
  | (refine zI rfl rfl rfl r4 ?_)
  | (refine zL rfl rfl rfl rfl z4 (zB h.hx) (zB h.hy) ?_; intro w6 r6 o6 s6))
 refine qW rfl rfl r6 rfl ?_
 exact ⟨rfl, zA hB5 o6 (by omega)⟩
theorem zUg (hv : v = m.val x y) (h : Ow base w x y m) (n : Int) :
  Calls Tryz.prog 294 #[v, .int .i64 9, .int .i64 n] w fun e w' => e = .returned ((m.does n 9).1.val x y) ∧ Below w.heap.size w w' := by
 go_enter Tryz.func294, Tryz.ntmps294
 go_wp2_with (first
  | (refine zP rfl rfl hv ?_; intro w0 r0 hB0)
  | (refine zR rfl rfl ?_; intro w1 z1 hB1; have r1 := r0.below hB1; have hB2 := hB0.trans (hB1.mono hB0.size); have l0 := r0.lt; have lz := z1.lt; have h1 := h.below hB2; have ka := (cw r1).a)
  | (go_at_call 312; refine (zDk _ _ _).mono ?_; rintro e w9 ⟨rfl, rfl⟩)
  | (refine zI rfl rfl rfl r1 ?_)
  | (go_at_call 316; refine (vW rfl h1 (addB m.a n) (addC m.a n)).mono ?_; rintro e w2 ⟨rfl, hb2⟩; have hB3 := hB2.trans (hb2.mono hB2.size); have z2 := z1.below hb2; have r2 := r1.below hb2)
  | (refine zL rfl rfl rfl rfl r2 (zB h.hx) (zB h.hy) ?_; intro w3 r3 o3 s3; have z3 := z2.onto o3 (by omega); have hB4 := zA hB3 o3 (by omega))
  | (refine zI rfl rfl rfl r3 ?_)
  | (refine zL rfl rfl rfl rfl z3 (zB h.hx) (zB h.hy) ?_; intro w6 r6 o6 s6))
 refine qW rfl rfl r6 rfl ?_
 exact ⟨rfl, zA hB4 o6 (by omega)⟩
theorem zRy (hv : v = m.val x y) (h : Ow base w x y m) (n : Int) :
  Calls Tryz.prog 294 #[v, .int .i64 10, .int .i64 n] w fun e w' => e = .returned ((m.does n 10).1.val x y) ∧ Below w.heap.size w w' := by
 go_enter Tryz.func294, Tryz.ntmps294
 go_wp2_with (first
  | (refine zP rfl rfl hv ?_; intro w0 r0 hB0)
  | (refine zR rfl rfl ?_; intro w1 z1 hB1; have r1 := r0.below hB1; have hB2 := hB0.trans (hB1.mono hB0.size); have l0 := r0.lt; have lz := z1.lt; have h1 := h.below hB2; have ka := (cw r1).a; have kb := (cw r1).b)
  | (go_at_call 312; refine (zDk _ _ _).mono ?_; rintro e w9 ⟨rfl, rfl⟩)
  | (refine zI rfl rfl rfl r1 ?_)
  | (go_at_call 316; refine (vW rfl h1 (addB m.a m.b) (addC m.a m.b)).mono ?_; rintro e w2 ⟨rfl, hb2⟩; have hB3 := hB2.trans (hb2.mono hB2.size); have z2 := z1.below hb2; have r2 := r1.below hb2)
  | (refine zL rfl rfl rfl rfl r2 (zB h.hx) (zB h.hy) ?_; intro w3 r3 o3 s3; have z3 := z2.onto o3 (by omega); have hB4 := zA hB3 o3 (by omega))
  | (refine zI rfl rfl rfl r3 ?_)
  | (refine zL rfl rfl rfl rfl z3 (zB h.hx) (zB h.hy) ?_; intro w6 r6 o6 s6))
 refine qW rfl rfl r6 rfl ?_
 exact ⟨rfl, zA hB4 o6 (by omega)⟩
theorem zRx (hv : v = m.val x y) (h : Ow base w x y m) (n : Int) :
  Calls Tryz.prog 294 #[v, .int .i64 11, .int .i64 n] w fun e w' => e = .returned ((m.does n 11).1.val x y) ∧ Below w.heap.size w w' := by
 go_enter Tryz.func294, Tryz.ntmps294
 go_wp2_with (first
  | (refine zP rfl rfl hv ?_; intro w0 r0 hB0)
  | (refine zR rfl rfl ?_; intro w1 z1 hB1; have r1 := r0.below hB1; have hB2 := hB0.trans (hB1.mono hB0.size); have l0 := r0.lt; have lz := z1.lt; have h1 := h.below hB2; have ka := (cw r1).a)
  | (go_at_call 313; refine (zDc _ _ _).mono ?_; rintro e w9 ⟨rfl, rfl⟩)
  | (refine zI rfl rfl rfl r1 ?_)
  | (go_at_call 316; refine (vW rfl h1 (subB m.a n) (subC m.a n)).mono ?_; rintro e w2 ⟨rfl, hb2⟩; have hB3 := hB2.trans (hb2.mono hB2.size); have z2 := z1.below hb2; have r2 := r1.below hb2)
  | (refine zL rfl rfl rfl rfl r2 (zB h.hx) (zB h.hy) ?_; intro w3 r3 o3 s3; have z3 := z2.onto o3 (by omega); have hB4 := zA hB3 o3 (by omega))
  | (refine zI rfl rfl rfl r3 ?_)
  | (refine zL rfl rfl rfl rfl z3 (zB h.hx) (zB h.hy) ?_; intro w6 r6 o6 s6))
 refine qW rfl rfl r6 rfl ?_
 exact ⟨rfl, zA hB4 o6 (by omega)⟩
theorem zRw (hv : v = m.val x y) (h : Ow base w x y m) (n : Int) :
  Calls Tryz.prog 294 #[v, .int .i64 12, .int .i64 n] w fun e w' => e = .returned ((m.does n 12).1.val x y) ∧ Below w.heap.size w w' := by
 go_enter Tryz.func294, Tryz.ntmps294
 go_wp2_with (first
  | (refine zP rfl rfl hv ?_; intro w0 r0 hB0)
  | (refine zR rfl rfl ?_; intro w1 z1 hB1; have r1 := r0.below hB1; have hB2 := hB0.trans (hB1.mono hB0.size); have l0 := r0.lt; have lz := z1.lt; have h1 := h.below hB2; have ka := (cw r1).a)
  | (go_at_call 313; refine (zDc _ _ _).mono ?_; rintro e w9 ⟨rfl, rfl⟩)
  | (refine zI rfl rfl rfl r1 ?_)
  | (go_at_call 316; refine (vW rfl h1 (subB m.a n) (subC m.a n)).mono ?_; rintro e w2 ⟨rfl, hb2⟩; have hB3 := hB2.trans (hb2.mono hB2.size); have z2 := z1.below hb2; have r2 := r1.below hb2)
  | (refine zL rfl rfl rfl rfl r2 (zB h.hx) (zB h.hy) ?_; intro w3 r3 o3 s3; have z3 := z2.onto o3 (by omega); have hB4 := zA hB3 o3 (by omega))
  | (refine qV (m' := m.cmp (subB m.a n) (subC m.a n)) rfl rfl rfl rfl r3 rfl rfl ?_; intro w4 r4 o4 s4; have z4 := z3.onto o4 (by omega); have hB5 := zA hB4 o4 (by omega))
  | (refine zI rfl rfl rfl r4 ?_)
  | (refine zL rfl rfl rfl rfl z4 (zB h.hx) (zB h.hy) ?_; intro w6 r6 o6 s6))
 refine qW rfl rfl r6 rfl ?_
 exact ⟨rfl, zA hB5 o6 (by omega)⟩
theorem zRv (hv : v = m.val x y) (h : Ow base w x y m) (n : Int) :
  Calls Tryz.prog 294 #[v, .int .i64 13, .int .i64 n] w fun e w' => e = .returned ((m.does n 13).1.val x y) ∧ Below w.heap.size w w' := by
 go_enter Tryz.func294, Tryz.ntmps294
 go_wp2_with (first
  | (refine zP rfl rfl hv ?_; intro w0 r0 hB0)
  | (refine zR rfl rfl ?_; intro w1 z1 hB1; have r1 := r0.below hB1; have hB2 := hB0.trans (hB1.mono hB0.size); have l0 := r0.lt; have lz := z1.lt; have h1 := h.below hB2; have ka := (cw r1).a)
  | (refine zI rfl rfl rfl r1 ?_)
  | (go_at_call 316; refine (vW rfl h1 (bits .and .i64 m.a n) (false)).mono ?_; rintro e w2 ⟨rfl, hb2⟩; have hB3 := hB2.trans (hb2.mono hB2.size); have z2 := z1.below hb2; have r2 := r1.below hb2)
  | (refine zL rfl rfl rfl rfl r2 (zB h.hx) (zB h.hy) ?_; intro w3 r3 o3 s3; have z3 := z2.onto o3 (by omega); have hB4 := zA hB3 o3 (by omega))
  | (refine zI rfl rfl rfl r3 ?_)
  | (refine zL rfl rfl rfl rfl z3 (zB h.hx) (zB h.hy) ?_; intro w6 r6 o6 s6))
 refine qW rfl rfl r6 rfl ?_
 exact ⟨rfl, zA hB4 o6 (by omega)⟩
theorem zRu (hv : v = m.val x y) (h : Ow base w x y m) (n : Int) :
  Calls Tryz.prog 294 #[v, .int .i64 14, .int .i64 n] w fun e w' => e = .returned ((m.does n 14).1.val x y) ∧ Below w.heap.size w w' := by
 go_enter Tryz.func294, Tryz.ntmps294
 go_wp2_with (first
  | (refine zP rfl rfl hv ?_; intro w0 r0 hB0)
  | (refine zR rfl rfl ?_; intro w1 z1 hB1; have r1 := r0.below hB1; have hB2 := hB0.trans (hB1.mono hB0.size); have l0 := r0.lt; have lz := z1.lt; have h1 := h.below hB2; have ka := (cw r1).a)
  | (refine zI rfl rfl rfl r1 ?_)
  | (go_at_call 316; refine (vW rfl h1 (bits .xor .i64 m.a n) (false)).mono ?_; rintro e w2 ⟨rfl, hb2⟩; have hB3 := hB2.trans (hb2.mono hB2.size); have z2 := z1.below hb2; have r2 := r1.below hb2)
  | (refine zL rfl rfl rfl rfl r2 (zB h.hx) (zB h.hy) ?_; intro w3 r3 o3 s3; have z3 := z2.onto o3 (by omega); have hB4 := zA hB3 o3 (by omega))
  | (refine zI rfl rfl rfl r3 ?_)
  | (refine zL rfl rfl rfl rfl z3 (zB h.hx) (zB h.hy) ?_; intro w6 r6 o6 s6))
 refine qW rfl rfl r6 rfl ?_
 exact ⟨rfl, zA hB4 o6 (by omega)⟩
theorem zRt (hv : v = m.val x y) (h : Ow base w x y m) (n : Int) :
  Calls Tryz.prog 294 #[v, .int .i64 15, .int .i64 n] w fun e w' => e = .returned ((m.does n 15).1.val x y) ∧ Below w.heap.size w w' := by
 go_enter Tryz.func294, Tryz.ntmps294
 go_wp2_with (first
  | (refine zP rfl rfl hv ?_; intro w0 r0 hB0)
  | (refine zR rfl rfl ?_; intro w1 z1 hB1; have r1 := r0.below hB1; have hB2 := hB0.trans (hB1.mono hB0.size); have l0 := r0.lt; have lz := z1.lt; have h1 := h.below hB2; have ka := (cw r1).a)
  | (go_at_call 314; refine (zG0 _ _).mono ?_; rintro e w9 ⟨rfl, rfl⟩)
  | (refine zI rfl rfl rfl r1 ?_)
  | (go_at_call 316; refine (vW rfl h1 (zA4 m.a) (zAn m.a)).mono ?_; rintro e w2 ⟨rfl, hb2⟩; have hB3 := hB2.trans (hb2.mono hB2.size); have z2 := z1.below hb2; have r2 := r1.below hb2)
  | (refine zL rfl rfl rfl rfl r2 (zB h.hx) (zB h.hy) ?_; intro w3 r3 o3 s3; have z3 := z2.onto o3 (by omega); have hB4 := zA hB3 o3 (by omega))
  | (refine zI rfl rfl rfl r3 ?_)
  | (refine zL rfl rfl rfl rfl z3 (zB h.hx) (zB h.hy) ?_; intro w6 r6 o6 s6))
 refine qW rfl rfl r6 rfl ?_
 exact ⟨rfl, zA hB4 o6 (by omega)⟩
theorem zRs (hv : v = m.val x y) (h : Ow base w x y m) (n : Int) :
  Calls Tryz.prog 294 #[v, .int .i64 16, .int .i64 n] w fun e w' => e = .returned ((m.does n 16).1.val x y) ∧ Below w.heap.size w w' := by
 go_enter Tryz.func294, Tryz.ntmps294
 go_wp2_with (first
  | (refine zP rfl rfl hv ?_; intro w0 r0 hB0)
  | (refine zR rfl rfl ?_; intro w1 z1 hB1; have r1 := r0.below hB1; have hB2 := hB0.trans (hB1.mono hB0.size); have l0 := r0.lt; have lz := z1.lt; have h1 := h.below hB2; have ka := (cw r1).a)
  | (go_at_call 315; refine (zFu _ _).mono ?_; rintro e w9 ⟨rfl, rfl⟩)
  | (refine zI rfl rfl rfl r1 ?_)
  | (go_at_call 316; refine (vW rfl h1 (zA3 m.a) (zBz m.a)).mono ?_; rintro e w2 ⟨rfl, hb2⟩; have hB3 := hB2.trans (hb2.mono hB2.size); have z2 := z1.below hb2; have r2 := r1.below hb2)
  | (refine zL rfl rfl rfl rfl r2 (zB h.hx) (zB h.hy) ?_; intro w3 r3 o3 s3; have z3 := z2.onto o3 (by omega); have hB4 := zA hB3 o3 (by omega))
  | (refine zI rfl rfl rfl r3 ?_)
  | (refine zL rfl rfl rfl rfl z3 (zB h.hx) (zB h.hy) ?_; intro w6 r6 o6 s6))
 refine qW rfl rfl r6 rfl ?_
 exact ⟨rfl, zA hB4 o6 (by omega)⟩
theorem zPb (hv : v = m.val x y) (h : Ow base w x y m) (hok : m.ok = true) (n : Int) :
  Calls Tryz.prog 296 #[v, .int .i64 19, .int .i64 n] w fun e w' => e = .returned (.tuple #[(m.does n 19).1.val x y, .int .i64 (m.does n 19).2]) ∧ Ow base w' x y (m.does n 19).1 ∧ But y w w' := by
 have hE : Hid ((m.does n 19).1 = { m with pc := n }) := show _ = _ by simp [Mc.does, Mc.jmp]
 have hE2 : Hid ((m.does n 19).2 = -1) := show _ = _ from rfl
 rw [hE.out, hE2.out]
 go_enter Tryz.func296, Tryz.ntmps296
 go_wp2_with (first
  | (refine zP rfl rfl hv ?_; intro w0 r0 hB0)
  | (refine zR rfl rfl ?_; intro w1 z1 hB1; have r1 := r0.below hB1; have hB2 := hB0.trans (hB1.mono hB0.size); have l0 := r0.lt; have lz := z1.lt; have h1 := h.below hB2)
  | (refine qV (m' := { m with pc := n }) rfl rfl rfl rfl r1 rfl rfl ?_; intro w2 r2 o2 s2; have z2 := z1.onto o2 (by omega); have hB4 := zA hB2 o2 (by omega))
  | (refine zI rfl rfl rfl r2 ?_)
  | (refine zL rfl rfl rfl rfl z2 (zB h.hx) (zB h.hy) ?_; intro w6 r6 o6 s6))
 refine qA rfl rfl r6 rfl rfl ?_
 have hB6 := zA hB4 o6 (by omega)
 exact ⟨rfl, (h.below hB6).as rfl rfl, .of hB6⟩
theorem zMb (hv : v = m.val x y) (h : Ow base w x y m) (hok : m.ok = true) (n : Int) (hc : m.z = true) :
  Calls Tryz.prog 296 #[v, .int .i64 20, .int .i64 n] w fun e w' => e = .returned (.tuple #[(m.does n 20).1.val x y, .int .i64 (m.does n 20).2]) ∧ Ow base w' x y (m.does n 20).1 ∧ But y w w' := by
 have hE : Hid ((m.does n 20).1 = { m with pc := n }) := show _ = _ by simp [Mc.does, Mc.jmp, hc]
 have hE2 : Hid ((m.does n 20).2 = -1) := show _ = _ from rfl
 rw [hE.out, hE2.out]
 go_enter Tryz.func296, Tryz.ntmps296
 go_wp2_with (first
  | (refine zP rfl rfl hv ?_; intro w0 r0 hB0)
  | (refine zR rfl rfl ?_; intro w1 z1 hB1; have r1 := r0.below hB1; have hB2 := hB0.trans (hB1.mono hB0.size); have l0 := r0.lt; have lz := z1.lt; have h1 := h.below hB2; have kz := (cw r1).z; rw [hc] at kz)
  | (refine qV (m' := { m with pc := n }) rfl rfl rfl rfl r1 rfl rfl ?_; intro w2 r2 o2 s2; have z2 := z1.onto o2 (by omega); have hB4 := zA hB2 o2 (by omega))
  | (refine zI rfl rfl rfl r2 ?_)
  | (refine zL rfl rfl rfl rfl z2 (zB h.hx) (zB h.hy) ?_; intro w6 r6 o6 s6))
 refine qA rfl rfl r6 rfl rfl ?_
 have hB6 := zA hB4 o6 (by omega)
 exact ⟨by rw [hc]; rfl, (h.below hB6).as rfl rfl, .of hB6⟩
theorem zMc (hv : v = m.val x y) (h : Ow base w x y m) (hok : m.ok = true) (n : Int) (hc : m.z = false) :
  Calls Tryz.prog 296 #[v, .int .i64 20, .int .i64 n] w fun e w' => e = .returned (.tuple #[(m.does n 20).1.val x y, .int .i64 (m.does n 20).2]) ∧ Ow base w' x y (m.does n 20).1 ∧ But y w w' := by
 have hE : Hid ((m.does n 20).1 = m) := show _ = _ by simp [Mc.does, Mc.jmp, hc]
 have hE2 : Hid ((m.does n 20).2 = -1) := show _ = _ from rfl
 rw [hE.out, hE2.out]
 go_enter Tryz.func296, Tryz.ntmps296
 go_wp2_with (first
  | (refine zP rfl rfl hv ?_; intro w0 r0 hB0)
  | (refine zR rfl rfl ?_; intro w1 z1 hB1; have r1 := r0.below hB1; have hB2 := hB0.trans (hB1.mono hB0.size); have l0 := r0.lt; have lz := z1.lt; have h1 := h.below hB2; have kz := (cw r1).z; rw [hc] at kz; have hB4 := hB2)
  | (refine zI rfl rfl rfl r1 ?_)
  | (refine zL rfl rfl rfl rfl z1 (zB h.hx) (zB h.hy) ?_; intro w6 r6 o6 s6))
 refine qA rfl rfl r6 rfl rfl ?_
 have hB6 := zA hB4 o6 (by omega)
 exact ⟨rfl, (h.below hB6).as rfl rfl, .of hB6⟩
theorem zL9 (hv : v = m.val x y) (h : Ow base w x y m) (hok : m.ok = true) (n : Int) (hc : m.z = true) :
  Calls Tryz.prog 296 #[v, .int .i64 21, .int .i64 n] w fun e w' => e = .returned (.tuple #[(m.does n 21).1.val x y, .int .i64 (m.does n 21).2]) ∧ Ow base w' x y (m.does n 21).1 ∧ But y w w' := by
 have hE : Hid ((m.does n 21).1 = m) := show _ = _ by simp [Mc.does, Mc.jmp, hc]
 have hE2 : Hid ((m.does n 21).2 = -1) := show _ = _ from rfl
 rw [hE.out, hE2.out]
 go_enter Tryz.func296, Tryz.ntmps296
 go_wp2_with (first
  | (refine zP rfl rfl hv ?_; intro w0 r0 hB0)
  | (refine zR rfl rfl ?_; intro w1 z1 hB1; have r1 := r0.below hB1; have hB2 := hB0.trans (hB1.mono hB0.size); have l0 := r0.lt; have lz := z1.lt; have h1 := h.below hB2; have kz := (cw r1).z; rw [hc] at kz; have hB4 := hB2)
  | (refine zI rfl rfl rfl r1 ?_)
  | (refine zL rfl rfl rfl rfl z1 (zB h.hx) (zB h.hy) ?_; intro w6 r6 o6 s6))
 refine qA rfl rfl r6 rfl rfl ?_
 have hB6 := zA hB4 o6 (by omega)
 exact ⟨rfl, (h.below hB6).as rfl rfl, .of hB6⟩
theorem zMa (hv : v = m.val x y) (h : Ow base w x y m) (hok : m.ok = true) (n : Int) (hc : m.z = false) :
  Calls Tryz.prog 296 #[v, .int .i64 21, .int .i64 n] w fun e w' => e = .returned (.tuple #[(m.does n 21).1.val x y, .int .i64 (m.does n 21).2]) ∧ Ow base w' x y (m.does n 21).1 ∧ But y w w' := by
 have hE : Hid ((m.does n 21).1 = { m with pc := n }) := show _ = _ by simp [Mc.does, Mc.jmp, hc]
 have hE2 : Hid ((m.does n 21).2 = -1) := show _ = _ from rfl
 rw [hE.out, hE2.out]
 go_enter Tryz.func296, Tryz.ntmps296
 go_wp2_with (first
  | (refine zP rfl rfl hv ?_; intro w0 r0 hB0)
  | (refine zR rfl rfl ?_; intro w1 z1 hB1; have r1 := r0.below hB1; have hB2 := hB0.trans (hB1.mono hB0.size); have l0 := r0.lt; have lz := z1.lt; have h1 := h.below hB2; have kz := (cw r1).z; rw [hc] at kz)
  | (refine qV (m' := { m with pc := n }) rfl rfl rfl rfl r1 rfl rfl ?_; intro w2 r2 o2 s2; have z2 := z1.onto o2 (by omega); have hB4 := zA hB2 o2 (by omega))
  | (refine zI rfl rfl rfl r2 ?_)
  | (refine zL rfl rfl rfl rfl z2 (zB h.hx) (zB h.hy) ?_; intro w6 r6 o6 s6))
 refine qA rfl rfl r6 rfl rfl ?_
 have hB6 := zA hB4 o6 (by omega)
 exact ⟨by rw [hc]; rfl, (h.below hB6).as rfl rfl, .of hB6⟩
theorem zL7 (hv : v = m.val x y) (h : Ow base w x y m) (hok : m.ok = true) (n : Int) (hc : m.c = true) :
  Calls Tryz.prog 296 #[v, .int .i64 22, .int .i64 n] w fun e w' => e = .returned (.tuple #[(m.does n 22).1.val x y, .int .i64 (m.does n 22).2]) ∧ Ow base w' x y (m.does n 22).1 ∧ But y w w' := by
 have hE : Hid ((m.does n 22).1 = { m with pc := n }) := show _ = _ by simp [Mc.does, Mc.jmp, hc]
 have hE2 : Hid ((m.does n 22).2 = -1) := show _ = _ from rfl
 rw [hE.out, hE2.out]
 go_enter Tryz.func296, Tryz.ntmps296
 go_wp2_with (first
  | (refine zP rfl rfl hv ?_; intro w0 r0 hB0)
  | (refine zR rfl rfl ?_; intro w1 z1 hB1; have r1 := r0.below hB1; have hB2 := hB0.trans (hB1.mono hB0.size); have l0 := r0.lt; have lz := z1.lt; have h1 := h.below hB2; have kz := (cw r1).c; rw [hc] at kz)
  | (refine qV (m' := { m with pc := n }) rfl rfl rfl rfl r1 rfl rfl ?_; intro w2 r2 o2 s2; have z2 := z1.onto o2 (by omega); have hB4 := zA hB2 o2 (by omega))
  | (refine zI rfl rfl rfl r2 ?_)
  | (refine zL rfl rfl rfl rfl z2 (zB h.hx) (zB h.hy) ?_; intro w6 r6 o6 s6))
 refine qA rfl rfl r6 rfl rfl ?_
 have hB6 := zA hB4 o6 (by omega)
 exact ⟨by rw [hc]; rfl, (h.below hB6).as rfl rfl, .of hB6⟩
theorem zL8 (hv : v = m.val x y) (h : Ow base w x y m) (hok : m.ok = true) (n : Int) (hc : m.c = false) :
  Calls Tryz.prog 296 #[v, .int .i64 22, .int .i64 n] w fun e w' => e = .returned (.tuple #[(m.does n 22).1.val x y, .int .i64 (m.does n 22).2]) ∧ Ow base w' x y (m.does n 22).1 ∧ But y w w' := by
 have hE : Hid ((m.does n 22).1 = m) := show _ = _ by simp [Mc.does, Mc.jmp, hc]
 have hE2 : Hid ((m.does n 22).2 = -1) := show _ = _ from rfl
 rw [hE.out, hE2.out]
 go_enter Tryz.func296, Tryz.ntmps296
 go_wp2_with (first
  | (refine zP rfl rfl hv ?_; intro w0 r0 hB0)
  | (refine zR rfl rfl ?_; intro w1 z1 hB1; have r1 := r0.below hB1; have hB2 := hB0.trans (hB1.mono hB0.size); have l0 := r0.lt; have lz := z1.lt; have h1 := h.below hB2; have kz := (cw r1).c; rw [hc] at kz; have hB4 := hB2)
  | (refine zI rfl rfl rfl r1 ?_)
  | (refine zL rfl rfl rfl rfl z1 (zB h.hx) (zB h.hy) ?_; intro w6 r6 o6 s6))
 refine qA rfl rfl r6 rfl rfl ?_
 have hB6 := zA hB4 o6 (by omega)
 exact ⟨rfl, (h.below hB6).as rfl rfl, .of hB6⟩
theorem zPa (hv : v = m.val x y) (h : Ow base w x y m) (hok : m.ok = true) (n : Int) :
  Calls Tryz.prog 296 #[v, .int .i64 23, .int .i64 n] w fun e w' => e = .returned (.tuple #[(m.does n 23).1.val x y, .int .i64 (m.does n 23).2]) ∧ Ow base w' x y (m.does n 23).1 ∧ But y w w' := by
 obtain ⟨g, hg, hgl⟩ := qZ h.hy hok
 go_enter Tryz.func296, Tryz.ntmps296
 go_wp2_with (first
  | (refine zP rfl rfl hv ?_; intro w0 r0 hB0)
  | (refine zR rfl rfl ?_; intro w1 z1 hB1; have r1 := r0.below hB1; have hB2 := hB0.trans (hB1.mono hB0.size); have l0 := r0.lt; have lz := z1.lt; have h1 := h.below hB2; have kp := (cw r1).pc)
  | (refine zI rfl rfl rfl r1 ?_)
  | (go_at_call 219; refine (zBu rfl h1 hok _ (okm.1 hok).pc).mono ?_; rintro e w3 ⟨rfl, h3, hb3⟩; have z3 := hb3.row hg z1 (by omega); have r3 := hb3.row hg r1 (by omega))
  | (refine zL rfl rfl rfl rfl r3 (zB h.hx) (zB h.hy) ?_; intro w4 r4 o4 s4; have z4 := z3.onto o4 (by omega); have h4 := h3.at o4 (fun e => by have := (h.hx.lt _ e).2; omega) (fun e => by have := (h.hy.lt _ e).2; omega))
  | (refine qV (m' := (m.does n 23).1) rfl rfl rfl rfl r4 rfl rfl ?_; intro w5 r5 o5 s5; have z5 := z4.onto o5 (by omega); have h5 := (h4.at o5 (fun e => by have := (h.hx.lt _ e).2; omega) (fun e => by have := (h.hy.lt _ e).2; omega)).as (m' := (m.does n 23).1) rfl rfl)
  | (refine zI rfl rfl rfl r5 ?_)
  | (refine zL rfl rfl rfl rfl z5 (zB h.hx) (zB h.hy) ?_; intro w6 r6 o6 s6))
 refine qA rfl rfl r6 rfl rfl ?_
 exact ⟨rfl, h5.at o6 (fun e => by have := (h.hx.lt _ e).2; omega) (fun e => by have := (h.hy.lt _ e).2; omega), (((((But.of hB2).trans hb3).new o4 (by omega)).new o5 (by omega)).new o6 (by omega))⟩
theorem zL5 (hv : v = m.val x y) (h : Ow base w x y m) (hok : m.ok = true) (n : Int) (he : m.e = true) :
  Calls Tryz.prog 296 #[v, .int .i64 24, .int .i64 n] w fun e w' => e = .returned (.tuple #[(m.does n 24).1.val x y, .int .i64 (m.does n 24).2]) ∧ Ow base w' x y (m.does n 24).1 ∧ But y w w' := by
 have hE : Hid ((m.does n 24).1 = { m.popd with pc := m.top, e := true }) := show _ = _ by simp [Mc.does, Mc.popd, he]
 have hE2 : Hid ((m.does n 24).2 = -1) := show _ = _ from rfl
 rw [hE.out, hE2.out]
 go_enter Tryz.func296, Tryz.ntmps296
 go_wp2_with (first
  | (refine zP rfl rfl hv ?_; intro w0 r0 hB0)
  | (refine zR rfl rfl ?_; intro w1 z1 hB1; have r1 := r0.below hB1; have hB2 := hB0.trans (hB1.mono hB0.size); have l0 := r0.lt; have lz := z1.lt; have h1 := h.below hB2)
  | (refine zI rfl rfl rfl r1 ?_)
  | (go_at_call 297; refine (zCe rfl h1 hok).mono ?_; rintro e w2 ⟨rfl, h2, hb2⟩; have hB3 := hB2.trans (hb2.mono hB2.size); have z2 := z1.below hb2; have r2 := r1.below hb2)
  | (refine zL rfl rfl rfl rfl r2 (zB h.hx) (zB h.hy) ?_; intro w3 r3 o3 s3; have z3 := z2.onto o3 (by omega); have hB4 := zA hB3 o3 (by omega); have ke := (cw r3).e; rw [show m.popd.e = true from he] at ke)
  | (refine xY (m' := { m.popd with e := true }) rfl rfl rfl rfl r3 rfl rfl ?_; intro w4 r4 o4 s4; have z4 := z3.onto o4 (by omega); have hB5 := zA hB4 o4 (by omega))
  | (refine qV (m' := { m.popd with pc := m.top, e := true }) rfl rfl rfl rfl r4 rfl rfl ?_; intro w5 r5 o5 s5; have z5 := z4.onto o5 (by omega); have hB6 := zA hB5 o5 (by omega))
  | (refine zI rfl rfl rfl r5 ?_)
  | (refine zL rfl rfl rfl rfl z5 (zB h.hx) (zB h.hy) ?_; intro w6 r6 o6 s6))
 refine qA rfl rfl r6 rfl rfl ?_
 have hB7 := zA hB6 o6 (by omega)
 exact ⟨rfl, (h.below hB7).as rfl rfl, .of hB7⟩
theorem zL6 (hv : v = m.val x y) (h : Ow base w x y m) (hok : m.ok = true) (n : Int) (he : m.e = false) :
  Calls Tryz.prog 296 #[v, .int .i64 24, .int .i64 n] w fun e w' => e = .returned (.tuple #[(m.does n 24).1.val x y, .int .i64 (m.does n 24).2]) ∧ Ow base w' x y (m.does n 24).1 ∧ But y w w' := by
 have hE : Hid ((m.does n 24).1 = { m.popd with pc := m.top, e := false }) := show _ = _ by simp [Mc.does, Mc.popd, he]
 have hE2 : Hid ((m.does n 24).2 = -1) := show _ = _ from rfl
 rw [hE.out, hE2.out]
 go_enter Tryz.func296, Tryz.ntmps296
 go_wp2_with (first
  | (refine zP rfl rfl hv ?_; intro w0 r0 hB0)
  | (refine zR rfl rfl ?_; intro w1 z1 hB1; have r1 := r0.below hB1; have hB2 := hB0.trans (hB1.mono hB0.size); have l0 := r0.lt; have lz := z1.lt; have h1 := h.below hB2)
  | (refine zI rfl rfl rfl r1 ?_)
  | (go_at_call 297; refine (zCe rfl h1 hok).mono ?_; rintro e w2 ⟨rfl, h2, hb2⟩; have hB3 := hB2.trans (hb2.mono hB2.size); have z2 := z1.below hb2; have r2 := r1.below hb2)
  | (refine zL rfl rfl rfl rfl r2 (zB h.hx) (zB h.hy) ?_; intro w3 r3 o3 s3; have z3 := z2.onto o3 (by omega); have hB4 := zA hB3 o3 (by omega); have ke := (cw r3).e; rw [show m.popd.e = false from he] at ke)
  | (refine xY (m' := { m.popd with e := false }) rfl rfl rfl rfl r3 rfl rfl ?_; intro w4 r4 o4 s4; have z4 := z3.onto o4 (by omega); have hB5 := zA hB4 o4 (by omega))
  | (refine qV (m' := { m.popd with pc := m.top, e := false }) rfl rfl rfl rfl r4 rfl rfl ?_; intro w5 r5 o5 s5; have z5 := z4.onto o5 (by omega); have hB6 := zA hB5 o5 (by omega))
  | (refine zI rfl rfl rfl r5 ?_)
  | (refine zL rfl rfl rfl rfl z5 (zB h.hx) (zB h.hy) ?_; intro w6 r6 o6 s6))
 refine qA rfl rfl r6 rfl rfl ?_
 have hB7 := zA hB6 o6 (by omega)
 exact ⟨rfl, (h.below hB7).as rfl rfl, .of hB7⟩
theorem zL3 (hv : v = m.val x y) (h : Ow base w x y m) (hok : m.ok = true) (n : Int) (he : m.e = true) :
  Calls Tryz.prog 296 #[v, .int .i64 29, .int .i64 n] w fun e w' => e = .returned (.tuple #[(m.does n 29).1.val x y, .int .i64 (m.does n 29).2]) ∧ Ow base w' x y (m.does n 29).1 ∧ But y w w' := by
 have hE : Hid ((m.does n 29).1 = { m.popd with pc := m.top, e := true }) := show _ = _ by simp [Mc.does, Mc.popd, he]
 have hE2 : Hid ((m.does n 29).2 = -1) := show _ = _ from rfl
 rw [hE.out, hE2.out]
 go_enter Tryz.func296, Tryz.ntmps296
 go_wp2_with (first
  | (refine zP rfl rfl hv ?_; intro w0 r0 hB0)
  | (refine zR rfl rfl ?_; intro w1 z1 hB1; have r1 := r0.below hB1; have hB2 := hB0.trans (hB1.mono hB0.size); have l0 := r0.lt; have lz := z1.lt; have h1 := h.below hB2)
  | (refine zI rfl rfl rfl r1 ?_)
  | (go_at_call 297; refine (zCe rfl h1 hok).mono ?_; rintro e w2 ⟨rfl, h2, hb2⟩; have hB3 := hB2.trans (hb2.mono hB2.size); have z2 := z1.below hb2; have r2 := r1.below hb2)
  | (refine zL rfl rfl rfl rfl r2 (zB h.hx) (zB h.hy) ?_; intro w3 r3 o3 s3; have z3 := z2.onto o3 (by omega); have hB4 := zA hB3 o3 (by omega); have ke := (cw r3).e; rw [show m.popd.e = true from he] at ke)
  | (refine xY (m' := { m.popd with e := true }) rfl rfl rfl rfl r3 rfl rfl ?_; intro w4 r4 o4 s4; have z4 := z3.onto o4 (by omega); have hB5 := zA hB4 o4 (by omega))
  | (refine qV (m' := { m.popd with pc := m.top, e := true }) rfl rfl rfl rfl r4 rfl rfl ?_; intro w5 r5 o5 s5; have z5 := z4.onto o5 (by omega); have hB6 := zA hB5 o5 (by omega))
  | (refine zI rfl rfl rfl r5 ?_)
  | (refine zL rfl rfl rfl rfl z5 (zB h.hx) (zB h.hy) ?_; intro w6 r6 o6 s6))
 refine qA rfl rfl r6 rfl rfl ?_
 have hB7 := zA hB6 o6 (by omega)
 exact ⟨rfl, (h.below hB7).as rfl rfl, .of hB7⟩
theorem zL4 (hv : v = m.val x y) (h : Ow base w x y m) (hok : m.ok = true) (n : Int) (he : m.e = false) :
  Calls Tryz.prog 296 #[v, .int .i64 29, .int .i64 n] w fun e w' => e = .returned (.tuple #[(m.does n 29).1.val x y, .int .i64 (m.does n 29).2]) ∧ Ow base w' x y (m.does n 29).1 ∧ But y w w' := by
 have hE : Hid ((m.does n 29).1 = { m.popd with pc := m.top, e := true }) := show _ = _ by simp [Mc.does, Mc.popd, he]
 have hE2 : Hid ((m.does n 29).2 = -1) := show _ = _ from rfl
 rw [hE.out, hE2.out]
 go_enter Tryz.func296, Tryz.ntmps296
 go_wp2_with (first
  | (refine zP rfl rfl hv ?_; intro w0 r0 hB0)
  | (refine zR rfl rfl ?_; intro w1 z1 hB1; have r1 := r0.below hB1; have hB2 := hB0.trans (hB1.mono hB0.size); have l0 := r0.lt; have lz := z1.lt; have h1 := h.below hB2)
  | (refine zI rfl rfl rfl r1 ?_)
  | (go_at_call 297; refine (zCe rfl h1 hok).mono ?_; rintro e w2 ⟨rfl, h2, hb2⟩; have hB3 := hB2.trans (hb2.mono hB2.size); have z2 := z1.below hb2; have r2 := r1.below hb2)
  | (refine zL rfl rfl rfl rfl r2 (zB h.hx) (zB h.hy) ?_; intro w3 r3 o3 s3; have z3 := z2.onto o3 (by omega); have hB4 := zA hB3 o3 (by omega); have ke := (cw r3).e; rw [show m.popd.e = false from he] at ke)
  | (refine xY (m' := { m.popd with e := true }) rfl rfl rfl rfl r3 rfl rfl ?_; intro w4 r4 o4 s4; have z4 := z3.onto o4 (by omega); have hB5 := zA hB4 o4 (by omega))
  | (refine qV (m' := { m.popd with pc := m.top, e := true }) rfl rfl rfl rfl r4 rfl rfl ?_; intro w5 r5 o5 s5; have z5 := z4.onto o5 (by omega); have hB6 := zA hB5 o5 (by omega))
  | (refine zI rfl rfl rfl r5 ?_)
  | (refine zL rfl rfl rfl rfl z5 (zB h.hx) (zB h.hy) ?_; intro w6 r6 o6 s6))
 refine qA rfl rfl r6 rfl rfl ?_
 have hB7 := zA hB6 o6 (by omega)
 exact ⟨rfl, (h.below hB7).as rfl rfl, .of hB7⟩
end
end Go.Proofs.YtamldhflkfbdnaaGreatDoor.Mem
namespace Go.Proofs.YtamldhflkfbdnaaGreatDoor.Mem
open Go.ChangeShapes Go.WideShapes Go.RowKit Base Num Slc Rw Tmr Srl Rom RomOf Opl

def pend (f s : Int) : Int :=
 if f % 2 = 1 ∧ s % 2 = 1 then 0 else if f / 2 % 2 = 1 ∧ s / 2 % 2 = 1 then 1 else if f / 4 % 2 = 1 ∧ s / 4 % 2 = 1 then 2 else -1
def Mc.pend (m : Mc) : Int := Mem.pend m.fl m.ms
def Mc.pendIn (m : Mc) : Int := if m.ok then m.pend else -1
def zA1 (i : Int) : Int := if i = 0 then 1 else if i = 1 then 2 else 4
def Mc.woken (m : Mc) : Mc := { m with h := false }
def Mc.taken (m : Mc) (i : Int) : Mc := { m with h := false, e := false, fl := m.fl - zA1 i }
def Mc.away (m : Mc) (i : Int) : Mc := { (m.taken i).psh m.pc with pc := 16 + 8 * i }
def Mc.call (m : Mc) : Mc × Int :=
 if m.pend < 0 ∨ m.s = true then (m, -1) else if m.e = false then (m.woken, -1) else (m.away m.pend, m.pend)
def Mc.called (m : Mc) : Mc × Int := if m.ok then m.call else (Mc.nul, -1)
theorem zFg (f s : Int) : pend f s = -1 ∨ pend f s = 0 ∨ pend f s = 1 ∨ pend f s = 2 := by
 unfold pend
 repeat' split
 all_goals omega
theorem zQe {m : Mc} (h : m.ok = true) : m.woken.ok = true := okm.2 { okm.1 h with }
theorem zDq {m : Mc} (h : m.ok = true) {i : Int} (hi : m.pend = i) (h0 : 0 ≤ i) : (m.taken i).ok = true := by
 have hk := okm.1 h
 have hf := qU hk.fl
 refine okm.2 { hk with fl := ?_ }
 show inn (m.fl - zA1 i) 0 7 = true
 have : 0 ≤ m.fl - zA1 i := by
  unfold Mc.pend pend at hi
  unfold zA1
  repeat' split at hi
  all_goals (repeat' split)
  all_goals omega
 have hb : 0 ≤ zA1 i := by
  unfold zA1
  repeat' split
  all_goals omega
 simp [inn]
 omega
theorem zP3 {m : Mc} (h : m.ok = true) {i : Int} (hi : m.pend = i) (h0 : 0 ≤ i) : Like m (m.away i) := by
 have h1 : i = -1 ∨ i = 0 ∨ i = 1 ∨ i = 2 := hi ▸ zFg m.fl m.ms
 exact ⟨zGo (zNg (zDq h hi h0) (okm.1 h).pc) (xI.2 (by omega)), zCb _ _ _⟩
theorem zGg {m : Mc} (h : m.ok = true) : Like m m.call.1 := by
 unfold Mc.call
 split
 ·exact ⟨h, rfl, rfl⟩
 split
 ·exact ⟨zQe h, rfl, rfl⟩
 ·rename_i h1 _
  exact zP3 h rfl (by omega)
open Reg
def zB0 (f s : Int) (k : Nat) : Prop := ∀ j : Nat, j < k → ¬ (f / 2 ^ j % 2 = 1 ∧ s / 2 ^ j % 2 = 1)
theorem zOd {f s : Int} {k : Nat} (hk : k < 3) (h : zB0 f s k) (h1 : f / 2 ^ k % 2 = 1) (h2 : s / 2 ^ k % 2 = 1) : pend f s = k := by
 have a0 := h 0
 have a1 := h 1
 obtain rfl | rfl | rfl : k = 0 ∨ k = 1 ∨ k = 2 := by omega
 all_goals simp at a0 a1 h1 h2
 all_goals unfold pend
 all_goals repeat' split
 all_goals omega
theorem zOc {f s : Int} (h : zB0 f s 3) : pend f s = -1 := by
 have a0 := h 0 (by omega)
 have a1 := h 1 (by omega)
 have a2 := h 2 (by omega)
 simp at a0 a1 a2
 unfold pend
 repeat' split
 all_goals omega
theorem zDy {f s : Int} {k : Nat} (h : zB0 f s k) (h1 : ¬ (f / 2 ^ k % 2 = 1 ∧ s / 2 ^ k % 2 = 1)) : zB0 f s (k + 1) := fun j hj => by
 by_cases e : j = k
 ·subst e; exact h1
 ·exact h j (by omega)
theorem vV (v x y : Value) (m : Mc) (w : World) (hv : v = m.val x y) (hok : m.ok = true) :
  Calls Tryz.prog 218 #[v] w fun e w' => e = .returned (.int .i64 m.pend) ∧ Below w.heap.size w w' := by
 obtain ⟨⟨f0, f1⟩, ⟨s0, s1⟩⟩ := Mc.ok_parts hok
 have HP : Hid (m.pend = pend m.fl m.ms) := show _ = _ from rfl
 go_enter Tryz.func218, Tryz.ntmps218
 go_wp2_with (refine zP rfl rfl hv ?_; intro w0 r0 hB0)
 have c1 := (cw r0).fl
 have c2 := (cw r0).ms
 generalize m.fl = f at *
 generalize m.ms = s at *
 go_loopw [3] (fun i wr => ∃ k : Nat, k ≤ 3 ∧ i = .int .i64 k ∧ zB0 f s k ∧ wr = w0) (fun i _ => 3 - (intOf i).toNat)
 case atStart => exact ⟨0, by omega, rfl, fun j hj => by omega, rfl⟩
 case round =>
  obtain ⟨k, hk, rfl, hn, rfl⟩ := hrel
  by_cases h3 : k = 3
  ·subst h3
   have hp := zOc hn
   go_wp2
   go_ret
   exact ⟨vB (by rw [HP.out, hp]), hB0⟩
  ·have hk3 : k < 3 := by omega
   have HN : Hid (zB0 f s k ∧ k < 3) := show _ ∧ _ from ⟨hn, hk3⟩
   by_cases hf : f / 2 ^ k % 2 = 1
   ·by_cases hs : s / 2 ^ k % 2 = 1
    ·have HE : Hid (pend f s = k) := zOd hk3 hn hf hs
     obtain rfl | rfl | rfl : k = 0 ∨ k = 1 ∨ k = 2 := by omega
     all_goals
      go_wp2
      go_ret
      exact ⟨vB (by rw [HP.out, HE.out]; rfl), hB0⟩
    ·have HS := zDy hn (fun e => hs e.2)
     obtain rfl | rfl | rfl : k = 0 ∨ k = 1 ∨ k = 2 := by omega
     all_goals
      go_wp2
      go_roundw
      case rel => exact ⟨_, by decide, rfl, HS, trivial⟩
      case measure => simp [intOf]
   ·have HS := zDy hn (fun e => hf e.1)
    obtain rfl | rfl | rfl : k = 0 ∨ k = 1 ∨ k = 2 := by omega
    all_goals
     go_wp2
     go_roundw
     case rel => exact ⟨_, by decide, rfl, HS, trivial⟩
     case measure => simp [intOf]
section
variable {base : Nat} {w : World} {x y v : Value} {m : Mc}
theorem zO9 (hv : v = m.val x y) (h : Ow base w x y m) (hok : m.ok = true) (hc : m.pend < 0 ∨ m.s = true) :
  Calls Tryz.prog 150 #[v] w fun e w' => e = .returned (.tuple #[m.val x y, .int .i64 (-1)]) ∧ Ow base w' x y m ∧ But y w w' := by
 have HC : Hid (m.pend < 0 ∨ m.s = true) := hc
 have hp : m.pend = -1 ∨ m.pend = 0 ∨ m.pend = 1 ∨ m.pend = 2 := zFg m.fl m.ms
 go_enter Tryz.func150, Tryz.ntmps150
 go_wp2_with (first
  | (refine zP rfl rfl hv ?_; intro w0 r0 hB0)
  | (refine zR rfl rfl ?_; intro w1 z1 hB1; have r1 := r0.below hB1; have hB2 := hB0.trans (hB1.mono hB0.size); have l0 := r0.lt; have lz := z1.lt)
  | (refine zI rfl rfl rfl r1 ?_))
 go_at_call 218
 refine (vV _ x y m _ rfl hok).mono ?_
 rintro e w3 ⟨rfl, hb3⟩
 have hB4 := hB2.trans (hb3.mono hB2.size)
 have r3 := r1.below hb3
 have z3 := z1.below hb3
 have ks := (cw r3).s
 have sB2 := hB2.size
 clear r0 r1 z1 hB0 hB1
 generalize m.pend = p at hc hp ⊢
 by_cases h0 : p < 0
 ·go_wp2_with (first
   | (refine zI rfl rfl rfl r3 ?_)
   | (refine zL rfl rfl rfl rfl z3 (zB h.hx) (zB h.hy) ?_; intro w6 r6 o6 s6))
  refine qA rfl rfl r6 rfl rfl ?_
  have hB6 := zA hB4 o6 (by omega)
  exact ⟨rfl, h.below hB6, .of hB6⟩
 ·have hs : m.s = true := hc.resolve_left h0
  rw [hs] at ks
  go_wp2_with (first
   | (refine zI rfl rfl rfl r3 ?_)
   | (refine zL rfl rfl rfl rfl z3 (zB h.hx) (zB h.hy) ?_; intro w6 r6 o6 s6))
  refine qA rfl rfl r6 rfl rfl ?_
  have hB6 := zA hB4 o6 (by omega)
  exact ⟨rfl, h.below hB6, .of hB6⟩
theorem zKq (hv : v = m.val x y) (h : Ow base w x y m) (hok : m.ok = true) (hc : ¬ m.pend < 0) (hs : m.s = false) (he : m.e = false) :
  Calls Tryz.prog 150 #[v] w fun e w' => e = .returned (.tuple #[m.woken.val x y, .int .i64 (-1)]) ∧ Ow base w' x y m.woken ∧ But y w w' := by
 go_enter Tryz.func150, Tryz.ntmps150
 go_wp2_with (first
  | (refine zP rfl rfl hv ?_; intro w0 r0 hB0)
  | (refine zR rfl rfl ?_; intro w1 z1 hB1; have r1 := r0.below hB1; have hB2 := hB0.trans (hB1.mono hB0.size); have l0 := r0.lt; have lz := z1.lt)
  | (refine zI rfl rfl rfl r1 ?_))
 go_at_call 218
 refine (vV _ x y m _ rfl hok).mono ?_
 rintro e w3 ⟨rfl, hb3⟩
 have hB4 := hB2.trans (hb3.mono hB2.size)
 have r3 := r1.below hb3
 have z3 := z1.below hb3
 have ks := (cw r3).s
 rw [hs] at ks
 have sB2 := hB2.size
 clear r0 r1 z1 hB0 hB1
 generalize m.pend = p at hc ⊢
 go_wp2_with (first
  | (refine xY (m' := m.woken) rfl rfl rfl rfl r3 rfl rfl ?_; intro w4 r4 o4 s4; have z4 := z3.onto o4 (by omega); have hB5 := zA hB4 o4 (by omega); have ke : w4.cell? ⟨w.heap.size, 8, none⟩ = some (.bool m.e) := (cw r4).e; rw [he] at ke)
  | (refine zI rfl rfl rfl r4 ?_)
  | (refine zL rfl rfl rfl rfl z4 (zB h.hx) (zB h.hy) ?_; intro w6 r6 o6 s6))
 refine qA rfl rfl r6 rfl rfl ?_
 have hB6 := zA hB5 o6 (by omega)
 exact ⟨rfl, (h.below hB6).as rfl rfl, .of hB6⟩
theorem zKt (hv : v = m.val x y) (h : Ow base w x y m) (hok : m.ok = true) (hc : m.pend = 0) (hs : m.s = false) (he : m.e = true) :
  Calls Tryz.prog 150 #[v] w fun e w' => e = .returned (.tuple #[(m.away 0).val x y, .int .i64 0]) ∧ Ow base w' x y (m.away 0) ∧ But y w w' := by
 obtain ⟨g, hg, hgl⟩ := qZ h.hy hok
 have hf := qU (okm.1 hok).fl
 have HT : Hid ((m.taken 0).ok = true) := zDq hok hc (by omega)
 have hpc := (okm.1 hok).pc
 go_enter Tryz.func150, Tryz.ntmps150
 go_wp2_with (first
  | (refine zP rfl rfl hv ?_; intro w0 r0 hB0)
  | (refine zR rfl rfl ?_; intro w1 z1 hB1; have r1 := r0.below hB1; have hB2 := hB0.trans (hB1.mono hB0.size); have l0 := r0.lt; have lz := z1.lt)
  | (refine zI rfl rfl rfl r1 ?_))
 go_at_call 218
 refine (vV _ x y m _ rfl hok).mono ?_
 rintro e w3 ⟨rfl, hb3⟩
 rw [hc]
 have hB4 := hB2.trans (hb3.mono hB2.size)
 have r3 := r1.below hb3
 have z3 := z1.below hb3
 have ks := (cw r3).s
 rw [hs] at ks
 have sB2 := hB2.size
 clear r0 r1 z1 hB0 hB1
 go_wp2_with (first
  | (refine xY (m' := m.woken) rfl rfl rfl rfl r3 rfl rfl ?_; intro w4 r4 o4 s4; have z4 := z3.onto o4 (by omega); have hB5 := zA hB4 o4 (by omega); have ke : w4.cell? ⟨w.heap.size, 8, none⟩ = some (.bool m.e) := (cw r4).e; rw [he] at ke)
  | (refine xY (m' := { m.woken with e := false }) rfl rfl rfl rfl r4 rfl rfl ?_; intro w5 r5 o5 s5; have z5 := z4.onto o5 (by omega); have hB6 := zA hB5 o5 (by omega); have kf : w5.cell? ⟨w.heap.size, 11, none⟩ = some (.int .i64 m.fl) := (cw r5).fl)
  | (refine qV (m' := m.taken 0) rfl rfl rfl rfl r5 rfl rfl ?_; intro w6 r6 o6 s6; have z6 := z5.onto o6 (by omega); have hB7 := zA hB6 o6 (by omega); have kp : w6.cell? ⟨w.heap.size, 4, none⟩ = some (.int .i64 m.pc) := (cw r6).pc; have h7 := (h.below hB7).as (m' := m.taken 0) rfl rfl)
  | (refine zI rfl rfl rfl r6 ?_)
  | (go_at_call 219; refine (zBu rfl h7 HT.out _ hpc).mono ?_; rintro e w8 ⟨rfl, h8, hb8⟩; have z8 := hb8.row hg z6 (by omega); have r8 := hb8.row hg r6 (by omega))
  | (refine zL rfl rfl rfl rfl r8 (zB h.hx) (zB h.hy) ?_; intro w9 r9 o9 s9; have z9 := z8.onto o9 (by omega); have h9 := h8.at o9 (fun e => by have := (h.hx.lt _ e).2; omega) (fun e => by have := (h.hy.lt _ e).2; omega))
  | (refine qV (m' := m.away 0) rfl rfl rfl rfl r9 rfl rfl ?_; intro w10 r10 o10 s10; have z10 := z9.onto o10 (by omega); have h10 := (h9.at o10 (fun e => by have := (h.hx.lt _ e).2; omega) (fun e => by have := (h.hy.lt _ e).2; omega)).as (m' := m.away 0) rfl rfl)
  | (refine zI rfl rfl rfl r10 ?_)
  | (refine zL rfl rfl rfl rfl z10 (zB h.hx) (zB h.hy) ?_; intro w11 r11 o11 s11))
 refine qA rfl rfl r11 rfl rfl ?_
 exact ⟨rfl, h10.at o11 (fun e => by have := (h.hx.lt _ e).2; omega) (fun e => by have := (h.hy.lt _ e).2; omega), (((((But.of hB7).trans hb8).new o9 (by omega)).new o10 (by omega)).new o11 (by omega))⟩
theorem zKs (hv : v = m.val x y) (h : Ow base w x y m) (hok : m.ok = true) (hc : m.pend = 1) (hs : m.s = false) (he : m.e = true) :
  Calls Tryz.prog 150 #[v] w fun e w' => e = .returned (.tuple #[(m.away 1).val x y, .int .i64 1]) ∧ Ow base w' x y (m.away 1) ∧ But y w w' := by
 obtain ⟨g, hg, hgl⟩ := qZ h.hy hok
 have hf := qU (okm.1 hok).fl
 have HT : Hid ((m.taken 1).ok = true) := zDq hok hc (by omega)
 have hpc := (okm.1 hok).pc
 go_enter Tryz.func150, Tryz.ntmps150
 go_wp2_with (first
  | (refine zP rfl rfl hv ?_; intro w0 r0 hB0)
  | (refine zR rfl rfl ?_; intro w1 z1 hB1; have r1 := r0.below hB1; have hB2 := hB0.trans (hB1.mono hB0.size); have l0 := r0.lt; have lz := z1.lt)
  | (refine zI rfl rfl rfl r1 ?_))
 go_at_call 218
 refine (vV _ x y m _ rfl hok).mono ?_
 rintro e w3 ⟨rfl, hb3⟩
 rw [hc]
 have hB4 := hB2.trans (hb3.mono hB2.size)
 have r3 := r1.below hb3
 have z3 := z1.below hb3
 have ks := (cw r3).s
 rw [hs] at ks
 have sB2 := hB2.size
 clear r0 r1 z1 hB0 hB1
 go_wp2_with (first
  | (refine xY (m' := m.woken) rfl rfl rfl rfl r3 rfl rfl ?_; intro w4 r4 o4 s4; have z4 := z3.onto o4 (by omega); have hB5 := zA hB4 o4 (by omega); have ke : w4.cell? ⟨w.heap.size, 8, none⟩ = some (.bool m.e) := (cw r4).e; rw [he] at ke)
  | (refine xY (m' := { m.woken with e := false }) rfl rfl rfl rfl r4 rfl rfl ?_; intro w5 r5 o5 s5; have z5 := z4.onto o5 (by omega); have hB6 := zA hB5 o5 (by omega); have kf : w5.cell? ⟨w.heap.size, 11, none⟩ = some (.int .i64 m.fl) := (cw r5).fl)
  | (refine qV (m' := m.taken 1) rfl rfl rfl rfl r5 rfl rfl ?_; intro w6 r6 o6 s6; have z6 := z5.onto o6 (by omega); have hB7 := zA hB6 o6 (by omega); have kp : w6.cell? ⟨w.heap.size, 4, none⟩ = some (.int .i64 m.pc) := (cw r6).pc; have h7 := (h.below hB7).as (m' := m.taken 1) rfl rfl)
  | (refine zI rfl rfl rfl r6 ?_)
  | (go_at_call 219; refine (zBu rfl h7 HT.out _ hpc).mono ?_; rintro e w8 ⟨rfl, h8, hb8⟩; have z8 := hb8.row hg z6 (by omega); have r8 := hb8.row hg r6 (by omega))
  | (refine zL rfl rfl rfl rfl r8 (zB h.hx) (zB h.hy) ?_; intro w9 r9 o9 s9; have z9 := z8.onto o9 (by omega); have h9 := h8.at o9 (fun e => by have := (h.hx.lt _ e).2; omega) (fun e => by have := (h.hy.lt _ e).2; omega))
  | (refine qV (m' := m.away 1) rfl rfl rfl rfl r9 rfl rfl ?_; intro w10 r10 o10 s10; have z10 := z9.onto o10 (by omega); have h10 := (h9.at o10 (fun e => by have := (h.hx.lt _ e).2; omega) (fun e => by have := (h.hy.lt _ e).2; omega)).as (m' := m.away 1) rfl rfl)
  | (refine zI rfl rfl rfl r10 ?_)
  | (refine zL rfl rfl rfl rfl z10 (zB h.hx) (zB h.hy) ?_; intro w11 r11 o11 s11))
 refine qA rfl rfl r11 rfl rfl ?_
 exact ⟨rfl, h10.at o11 (fun e => by have := (h.hx.lt _ e).2; omega) (fun e => by have := (h.hy.lt _ e).2; omega), (((((But.of hB7).trans hb8).new o9 (by omega)).new o10 (by omega)).new o11 (by omega))⟩
theorem zKr (hv : v = m.val x y) (h : Ow base w x y m) (hok : m.ok = true) (hc : m.pend = 2) (hs : m.s = false) (he : m.e = true) :
  Calls Tryz.prog 150 #[v] w fun e w' => e = .returned (.tuple #[(m.away 2).val x y, .int .i64 2]) ∧ Ow base w' x y (m.away 2) ∧ But y w w' := by
 obtain ⟨g, hg, hgl⟩ := qZ h.hy hok
 have hf := qU (okm.1 hok).fl
 have HT : Hid ((m.taken 2).ok = true) := zDq hok hc (by omega)
 have hpc := (okm.1 hok).pc
 go_enter Tryz.func150, Tryz.ntmps150
 go_wp2_with (first
  | (refine zP rfl rfl hv ?_; intro w0 r0 hB0)
  | (refine zR rfl rfl ?_; intro w1 z1 hB1; have r1 := r0.below hB1; have hB2 := hB0.trans (hB1.mono hB0.size); have l0 := r0.lt; have lz := z1.lt)
  | (refine zI rfl rfl rfl r1 ?_))
 go_at_call 218
 refine (vV _ x y m _ rfl hok).mono ?_
 rintro e w3 ⟨rfl, hb3⟩
 rw [hc]
 have hB4 := hB2.trans (hb3.mono hB2.size)
 have r3 := r1.below hb3
 have z3 := z1.below hb3
 have ks := (cw r3).s
 rw [hs] at ks
 have sB2 := hB2.size
 clear r0 r1 z1 hB0 hB1
 go_wp2_with (first
  | (refine xY (m' := m.woken) rfl rfl rfl rfl r3 rfl rfl ?_; intro w4 r4 o4 s4; have z4 := z3.onto o4 (by omega); have hB5 := zA hB4 o4 (by omega); have ke : w4.cell? ⟨w.heap.size, 8, none⟩ = some (.bool m.e) := (cw r4).e; rw [he] at ke)
  | (refine xY (m' := { m.woken with e := false }) rfl rfl rfl rfl r4 rfl rfl ?_; intro w5 r5 o5 s5; have z5 := z4.onto o5 (by omega); have hB6 := zA hB5 o5 (by omega); have kf : w5.cell? ⟨w.heap.size, 11, none⟩ = some (.int .i64 m.fl) := (cw r5).fl)
  | (refine qV (m' := m.taken 2) rfl rfl rfl rfl r5 rfl rfl ?_; intro w6 r6 o6 s6; have z6 := z5.onto o6 (by omega); have hB7 := zA hB6 o6 (by omega); have kp : w6.cell? ⟨w.heap.size, 4, none⟩ = some (.int .i64 m.pc) := (cw r6).pc; have h7 := (h.below hB7).as (m' := m.taken 2) rfl rfl)
  | (refine zI rfl rfl rfl r6 ?_)
  | (go_at_call 219; refine (zBu rfl h7 HT.out _ hpc).mono ?_; rintro e w8 ⟨rfl, h8, hb8⟩; have z8 := hb8.row hg z6 (by omega); have r8 := hb8.row hg r6 (by omega))
  | (refine zL rfl rfl rfl rfl r8 (zB h.hx) (zB h.hy) ?_; intro w9 r9 o9 s9; have z9 := z8.onto o9 (by omega); have h9 := h8.at o9 (fun e => by have := (h.hx.lt _ e).2; omega) (fun e => by have := (h.hy.lt _ e).2; omega))
  | (refine qV (m' := m.away 2) rfl rfl rfl rfl r9 rfl rfl ?_; intro w10 r10 o10 s10; have z10 := z9.onto o10 (by omega); have h10 := (h9.at o10 (fun e => by have := (h.hx.lt _ e).2; omega) (fun e => by have := (h.hy.lt _ e).2; omega)).as (m' := m.away 2) rfl rfl)
  | (refine zI rfl rfl rfl r10 ?_)
  | (refine zL rfl rfl rfl rfl z10 (zB h.hx) (zB h.hy) ?_; intro w11 r11 o11 s11))
 refine qA rfl rfl r11 rfl rfl ?_
 exact ⟨rfl, h10.at o11 (fun e => by have := (h.hx.lt _ e).2; omega) (fun e => by have := (h.hy.lt _ e).2; omega), (((((But.of hB7).trans hb8).new o9 (by omega)).new o10 (by omega)).new o11 (by omega))⟩
theorem zL1 (hv : v = m.val x y) (h : Ow base w x y m) (hok : m.ok = true) (i : Int) (hi : i = 0 ∨ i = 1 ∨ i = 2) (hc : m.pend = i) (hs : m.s = false) (he : m.e = true) :
  Calls Tryz.prog 150 #[v] w fun e w' => e = .returned (.tuple #[(m.away i).val x y, .int .i64 i]) ∧ Ow base w' x y (m.away i) ∧ But y w w' := by
 rcases hi with rfl | rfl | rfl
 ·exact zKt hv h hok hc hs he
 ·exact zKs hv h hok hc hs he
 ·exact zKr hv h hok hc hs he
theorem jN (hv : v = m.val x y) (h : Ow base w x y m) (hok : m.ok = true) :
  Calls Tryz.prog 150 #[v] w fun e w' => e = .returned (.tuple #[m.call.1.val x y, .int .i64 m.call.2]) ∧ Ow base w' x y m.call.1 ∧ But y w w' := by
 unfold Mc.call
 by_cases hc : m.pend < 0 ∨ m.s = true
 ·rw [if_pos hc]; exact zO9 hv h hok hc
 ·rw [if_neg hc]
  have h0 : ¬ m.pend < 0 := fun e => hc (.inl e)
  have hs : m.s = false := by cases e : m.s; rfl; exact absurd (.inr e) hc
  cases he : m.e
  ·rw [if_pos rfl]; exact zKq hv h hok h0 hs he
  ·rw [if_neg (by decide)]
   have hp : m.pend = -1 ∨ m.pend = 0 ∨ m.pend = 1 ∨ m.pend = 2 := zFg m.fl m.ms
   exact zL1 hv h hok m.pend (by omega) rfl hs he
end
def AnsI (base : Nat) (w' : World) (e : Ending) (r : Mc × Int) : Prop := ∃ v, e = .returned (.tuple #[v, .int .i64 r.2]) ∧ MOwn base w' v r.1
end Go.Proofs.YtamldhflkfbdnaaGreatDoor.Mem
namespace Go.Proofs.YtamldhflkfbdnaaGreatDoor.Mem
open Go.ChangeShapes Go.WideShapes Go.RowKit Base Num Slc Rw Tmr Srl Rom Opl

structure St where
 m : Mc
 o : List M3
 e : List M3
 u : Int
def St.nul : St := ⟨Mc.nul, [], [], 0⟩
def St.through (s : St) (q : Int) : St := { s with m := { s.m with fl := bits .or .i64 s.m.fl 2 }, e := s.e ++ [⟨q, 3, s.m.p.d⟩] }
def St.port (s : St) (p : Sr) : St := { s with m := { s.m with p := p } }
def St.sends (s : St) (m : M3) : St := { s with o := s.o ++ [m] }
def St.arrive (s : St) (m : M3) : St :=
 if m.k = 1 then
  (if (s.m.p.beat m.v).2.2 then ((s.port (s.m.p.beat m.v).1).sends ⟨m.t + 8, 2, (s.m.p.beat m.v).2.1⟩).through m.t
   else (s.port (s.m.p.beat m.v).1).sends ⟨m.t + 8, 2, (s.m.p.beat m.v).2.1⟩)
 else if m.k = 2 then
  (if (s.m.p.answer m.v m.t).2 then (s.port (s.m.p.answer m.v m.t).1).through m.t else s.port (s.m.p.answer m.v m.t).1)
 else if m.k = 3 then { s with m := { s.m with ky := m.v, fl := bits .or .i64 s.m.fl 4 } }
 else s
def St.takes (s : St) (l : List M3) (fin : Int) : Bool :=
 decide (s.u < l.length) && decide ((M3.at' l s.u.toNat).t ≤ fin) && (s.m.p.x == 0 || decide (fin < s.m.p.x) || decide ((M3.at' l s.u.toNat).t ≤ s.m.p.x))
def St.idle (s : St) (fin : Int) : Bool := s.m.p.x == 0 || decide (fin < s.m.p.x)
def St.taken (s : St) (l : List M3) : St := { s.arrive (M3.at' l s.u.toNat) with u := s.u + 1 }
def St.beats (s : St) (fin : Int) : St := (s.port (s.m.p.send fin).1).sends ⟨(s.m.p.send fin).2.1 + 8, 1, (s.m.p.send fin).2.2⟩
def St.events (s : St) (l : List M3) (fin : Int) : Nat → St
 | 0 => s
 | n + 1 => if s.takes l fin then (s.taken l).events l fin n else if s.idle fin then s else (s.beats fin).events l fin n
def St.meas (s : St) (l : List M3) : Nat := 2 * (l.length - s.u.toNat) + (if s.m.p.x = 0 then 0 else 1)
def St.evs (s : St) (l : List M3) (fin : Int) : St := s.events l fin (s.meas l)
def Mc.turn (m : Mc) : Mc × Int × List M3 :=
 if m.call.2 < 0 then (m.call.1.exec.1, m.call.1.exec.2.1, if 0 ≤ m.call.1.exec.2.2 then [⟨m.k + m.call.1.exec.2.1, 1, m.call.1.exec.2.2⟩] else [])
 else (m.call.1, 5, [⟨m.k + 5, 2, m.call.2⟩])
def St.first (m : Mc) : St := ⟨m.turn.1, [], m.turn.2.2, 0⟩
def Mc.fin (m : Mc) : Int := m.k + m.turn.2.1
def St.closed (s : St) (cost fin : Int) : St :=
 { s with m := { s.m with t := (s.m.t.after cost).1, k := fin, fl := if 0 < (s.m.t.after cost).2 then bits .or .i64 s.m.fl 1 else s.m.fl } }
def Mc.stepped (m : Mc) (l : List M3) : St := ((St.first m).evs l m.fin).closed m.turn.2.1 m.fin
def stepOf (m : Mc) (l : List M3) : St × Bool :=
 if m.ok && qH l && decide (m.fin ≤ 999999900) && (m.stepped l).m.ok then (m.stepped l, true) else (St.nul, false)

theorem zUk {s : St} {fin : Int} (h : s.idle fin = false) : (s.beats fin).m.p.x = 0 := by
 simp only [St.idle, Bool.or_eq_false_iff, beq_eq_false_iff_ne, ne_eq, decide_eq_false_iff_not] at h
 show (s.m.p.send fin).1.x = 0
 unfold Sr.send
 cases hok : s.m.p.ok
 ·rfl
 ·have h0 : 0 ≤ s.m.p.x := by
   simp only [Sr.ok, Bool.and_eq_true, clk] at hok
   exact (qU hok.1.1.1.2).1
  rw [if_pos rfl, if_pos (by omega)]
theorem vC {s : St} {l : List M3} {fin : Int} (h : s.idle fin = false) : (s.beats fin).meas l < s.meas l := by
 have h1 := zUk h
 simp only [St.idle, Bool.or_eq_false_iff, beq_eq_false_iff_ne, ne_eq, decide_eq_false_iff_not] at h
 have h2 : (s.beats fin).u = s.u := rfl
 unfold St.meas
 rw [h1, h2, if_pos rfl, if_neg h.1]
 omega
theorem zBj {s : St} {l : List M3} {fin : Int} (h : s.takes l fin = true) (h0 : 0 ≤ s.u) : (s.taken l).meas l < s.meas l := by
 simp only [St.takes, Bool.and_eq_true, decide_eq_true_eq] at h
 have h2 : (s.taken l).u = s.u + 1 := rfl
 unfold St.meas
 rw [h2]
 have h3 : (if (s.taken l).m.p.x = 0 then 0 else 1) ≤ 1 := by split <;> omega
 have h4 := h.1.1
 omega
theorem zA0 {s : St} {l : List M3} {fin : Int} (h1 : s.takes l fin = false) (h2 : s.idle fin = true) : ∀ n, s.events l fin n = s
 | 0 => rfl
 | n + 1 => by simp only [St.events, h1, h2, Bool.false_eq_true, if_false, if_true]
theorem jY {s : St} {l : List M3} {fin : Int} (h1 : s.takes l fin = true) (h0 : 0 ≤ s.u) {n : Nat} (hn : s.meas l ≤ n) : s.events l fin n = (s.taken l).events l fin (n - 1) ∧ (s.taken l).meas l ≤ n - 1 := by
 have hm := zBj h1 h0
 obtain ⟨k, rfl⟩ : ∃ k, n = k + 1 := ⟨n - 1, by omega⟩
 exact ⟨by simp only [St.events, h1, if_true]; rfl, by omega⟩
theorem zBx {s : St} {l : List M3} {fin : Int} (h1 : s.takes l fin = false) (h2 : s.idle fin = false) {n : Nat} (hn : s.meas l ≤ n) : s.events l fin n = (s.beats fin).events l fin (n - 1) ∧ (s.beats fin).meas l ≤ n - 1 := by
 have hm := vC (l := l) h2
 obtain ⟨k, rfl⟩ : ∃ k, n = k + 1 := ⟨n - 1, by omega⟩
 exact ⟨by simp only [St.events, h1, h2, Bool.false_eq_true, if_false]; rfl, by omega⟩
end Go.Proofs.YtamldhflkfbdnaaGreatDoor.Mem
