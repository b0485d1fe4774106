/-
  What FnSteps leans on: part 12.
-/
import Derived.OrdersIn
import Derived.ControlIn
import Derived.RangeFuncSeq
import Derived.RangeFuncNested
import Derived.RangeFuncCalls
import Derived.Shelf.Abstract
import Derived.Deep.LoopGhost
import Derived.RangeFuncWrites
import Derived.RangeFuncFrom
import Derived.Test.YtamldhflkfbdnaaGreatDoorStsP1
import Derived.Test.YtamldhflkfbdnaaGreatDoorStsP2
import Derived.Test.YtamldhflkfbdnaaGreatDoorStsP6
import Derived.Test.YtamldhflkfbdnaaGreatDoorStsP7
import Derived.Test.YtamldhflkfbdnaaGreatDoorStsP9
import Derived.Test.YtamldhflkfbdnaaGreatDoorStsP10
import Derived.Test.YtamldhflkfbdnaaGreatDoorStsP11
set_option linter.unusedVariables false
set_option linter.unusedSimpArgs false
set_option maxRecDepth 20000
namespace Go.Proofs.YtamldhflkfbdnaaGreatDoor.Reg
open Go.RowKit Base

section
variable {F : Fence} {n : Nat} {P : Program} {ops : Array Oper} {Q : Exit → Act → World → Prop} {s : Nat} {G : Bool → World → Prop} {T : Nat → (Nat → Value) → World → Prop} {R : Nat → (Nat → Value) → World → World → Prop} {a0 a : Act} {L : Nat → Bool} {w w' : World} {i : Nat} {o : Oper} {v : Value}
theorem zNz (hss : s < ops.size) (hac : acyc ops = true) (mono : zCn ops T R)
  (step : ∀ (L : Nat → Bool) (i : Nat) (o : Oper) (a : Act) (w : World), ops[i]? = some o → InvS ops s G T a0 L a w → L i = false → (∀ d ∈ deps o, L d = true) →
   wpOpIn F n P ops Q i (fun a' w' => ∃ v, a' = a.put o.dst v ∧ T i (at_ (a.put o.dst v)) w' ∧ G (L s || s == i) w' ∧ R i (at_ (a.put o.dst v)) w w') a w)
  (done : ∀ a w, InvS ops s G T a0 (fun _ => true) a w → Q .normal a w) :
  ∀ (fuel : Nat) (listed : Array Bool) (a : Act) (w : World), listed.size = ops.size → left ops.size listed ≤ fuel → InvS ops s G T a0 (fun j => listed.getD j false) a w → wpAnyIn F n P .any ops Q fuel listed a w := by
 have fin : ∀ (listed : Array Bool) (a : Act) (w : World), listed.size = ops.size → Region.ready .any ops listed = [] → InvS ops s G T a0 (fun j => listed.getD j false) a w → Q .normal a w := fun listed a w hs hr hI => by
  refine done a w ?_
  have hall := zCm hac hr hs
  have hL : ∀ j o, ops[j]? = some o → listed.getD j false = true := fun j o hj => by
   have hjs : j < ops.size := by
    by_cases hl : j < ops.size
    ·exact hl
    ·have e : ops[j]? = none := by simp; omega
     rw [e] at hj; cases hj
   have := hall j hjs
   have hjl : j < listed.size := by omega
   simpa [Array.getD_eq_getD_getElem?, Array.getElem?_eq_getElem hjl] using this
  have hg1 : G true w := by
   have hall' := hall s hss
   have h1 := hI.g
   have hjl : s < listed.size := by omega
   have e : listed.getD s false = true := by simpa [Array.getD_eq_getD_getElem?, Array.getElem?_eq_getElem hjl] using hall'
   rw [e] at h1; exact h1
  exact ⟨hg1, hI.defers, hI.size, fun j o hj _ => hI.told j o hj (hL j o hj), fun k hk => hI.rest k (fun j hj => hk j rfl), fun _ _ _ _ _ _ => rfl⟩
 intro fuel
 induction fuel with
 | zero =>
  intro listed a w hs hf hI
  have hr : Region.ready .any ops listed = [] := by
   refine List.eq_nil_iff_forall_not_mem.2 fun i hi => ?_
   obtain ⟨h1, h2, _⟩ := mem_ready.1 hi
   have h0 : left ops.size listed = 0 := by omega
   have := (List.countP_eq_zero.1 h0) i (List.mem_range.2 h1)
   simp [h2] at this
  exact ⟨hr, fin listed a w hs hr hI⟩
 | succ fuel ih =>
  intro listed a w hs hf hI
  refine ⟨fun hr => fin listed a w hs hr hI, fun i hi => ?_⟩
  obtain ⟨h1, h2, o, ho, h3⟩ := mem_ready.1 hi
  have hil : i < listed.size := by omega
  have hLi : listed.getD i false = false := by
   simpa [Array.getD_eq_getD_getElem?, Array.getElem?_eq_getElem hil] using h2
  refine wpOpIn_mono ?_ (step (fun j => listed.getD j false) i o a w ho hI hLi h3)
  rintro a' w' ⟨v, rfl, hT, hG, hR⟩
  refine ih _ _ _ (by simpa using hs) ?_ ?_
  ·have hlt : left ops.size (listed.setIfInBounds i true) < left ops.size listed := by
    refine zC7 (x := i) (fun x hx => ?_) (List.mem_range.2 h1) (by simp [h2]) ?_
    ·by_cases hxi : x = i
     ·subst hxi; simp [h2]
     ·simpa [Array.getD_eq_getD_getElem?, Array.getElem?_setIfInBounds, Ne.symm hxi] using hx
    ·simp [Array.getD_eq_getD_getElem?, hil]
   omega
  ·have hI' := hI.nextS mono ho hLi h3 hT hG hR
   have e : (fun j => (listed.setIfInBounds i true).getD j false) = fun j => listed.getD j false || j == i := by
    funext j
    by_cases hj : j = i
    ·subst hj; simp [Array.getD_eq_getD_getElem?, hil]
    ·simp [Array.getD_eq_getD_getElem?, Ne.symm hj, hj]
   rw [e]
   exact hI'
theorem zI5 {id : Nat} (hm : P.follows .mixedOrders = true) (hac : acyc ops = true) (s : Nat) (hss : s < ops.size) (G : Bool → World → Prop) (T : Nat → (Nat → Value) → World → Prop) (R : Nat → (Nat → Value) → World → World → Prop)
  (mono : zCn ops T R) (hG : G false w.drew)
  (step : ∀ (L : Nat → Bool) (i : Nat) (o : Oper) (a : Act) (w : World), ops[i]? = some o → InvS ops s G T a0 L a w → L i = false → (∀ d ∈ deps o, L d = true) →
   wpOpIn F n P ops Q i (fun a' w' => ∃ v, a' = a.put o.dst v ∧ T i (at_ (a.put o.dst v)) w' ∧ G (L s || s == i) w' ∧ R i (at_ (a.put o.dst v)) w w') a w)
  (done : ∀ a w, InvS ops s G T a0 (fun _ => true) a w → Q .normal a w) : (Code.region id ops true).wpIn F n P Q a0 w := by
 have no : ∀ j, (Array.replicate ops.size false).getD j false = true → False := fun j hl => by
  by_cases hj : j < ops.size
  ·simp [Array.getD_eq_getD_getElem?, hj] at hl
  ·simp [Array.getD_eq_getD_getElem?, hj] at hl
 have hg0 : G ((Array.replicate ops.size false).getD s false) w.drew := by
  have e : (Array.replicate ops.size false).getD s false = false := by simp [Array.getD_eq_getD_getElem?, hss]
  rw [e]; exact hG
 exact wpIn_region_any hm (zNz hss hac mono step done ops.size _ a0 w.drew (by simp) (by
  refine Nat.le_trans List.countP_le_length ?_
  simp) ⟨hg0, rfl, rfl, fun j o _ hl => (no j hl).elim, fun _ _ => rfl, fun j o d _ hl _ => (no j hl).elim⟩)
end
section
variable {F : Fence} {n : Nat} {P : Program} {ops : Array Oper} {Q : Exit → Act → World → Prop} {s : Nat} {a0 a : Act} {L : Nat → Bool} {w w' : World} {i : Nat} {o : Oper} {v : Value} {vals : List Value}
theorem zG2 {id : Nat} (hm : P.follows .mixedOrders = true) (hac : acyc ops = true) (s : Nat) (hss : s < ops.size) (hds : zCi ops a0.tmps.size = true) (G : Bool → World → Prop) (vals : List Value) (hG : G false w.drew)
  (step : ∀ (L : Nat → Bool) (i : Nat) (o : Oper) (a : Act) (w : World), ops[i]? = some o → InvS ops s G (vD ops vals) a0 L a w → L i = false → (∀ d ∈ deps o, L d = true) →
   wpOpIn F n P ops Q i (fun a' w' => ∃ v, a' = a.put o.dst v ∧ v = vals.getD i undef ∧ G (L s || s == i) w') a w)
  (done : ∀ a w, InvS ops s G (vD ops vals) a0 (fun _ => true) a w → Q .normal a w) : (Code.region id ops true).wpIn F n P Q a0 w := by
 refine zI5 hm hac s hss G (vD ops vals) (fun _ _ _ _ => True) (zH4 hds) hG ?_ done
 intro L i o a w hi hI hL hd
 refine wpOpIn_mono ?_ (step L i o a w hi hI hL hd)
 rintro a' w' ⟨v, rfl, hv, hg⟩
 refine ⟨v, rfl, fun k hk => ?_, hg, trivial⟩
 rw [hi] at hk
 have hk' : o.dst = some k := hk
 have hlt : k < a0.tmps.size := zE3 hds (i := i) (by rw [hi]; exact hk')
 rw [hk']
 show (a.put (some k) v).tmps.getD k undef = _
 rw [zG _ _ _ (by rw [hI.size]; exact hlt)]
 exact hv
theorem zHu {id : Nat} (hm : P.follows .mixedOrders = true) (hac : acyc ops = true) (s : Nat) (hss : s < ops.size) (hds : zCi ops a0.tmps.size = true) (G E : World → Prop) (vals : List Value) (hG : G w.drew)
  (step : ∀ (L : Nat → Bool) (i : Nat) (o : Oper) (a : Act) (w : World), i ≠ s → ops[i]? = some o → InvS ops s (ge G E) (vD ops vals) a0 L a w → ((wider ops ops.size [s]).contains i = true → G w) → (∀ d ∈ deps o, L d = true) →
   wpOpIn F n P ops Q i (fun a' w' => ∃ v, a' = a.put o.dst v ∧ v = vals.getD i undef ∧ w' = w) a w)
  (turn : ∀ (L : Nat → Bool) (o : Oper) (a : Act) (w : World), ops[s]? = some o → InvS ops s (ge G E) (vD ops vals) a0 L a w → G w → (∀ d ∈ deps o, L d = true) →
   wpOpIn F n P ops Q s (fun a' w' => ∃ v, a' = a.put o.dst v ∧ v = vals.getD s undef ∧ E w') a w)
  (done : ∀ a w, InvS ops s (ge G E) (vD ops vals) a0 (fun _ => true) a w → E w → Q .normal a w) : (Code.region id ops true).wpIn F n P Q a0 w := by
 refine zG2 hm hac s hss hds (ge G E) vals (by simpa [ge] using hG) ?_ (fun a w hI => done a w hI (by simpa [ge] using hI.g))
 intro L i o a w hi hI hL hd
 have hpre : (wider ops ops.size [s]).contains i = true → L s = false := fun h1 => by
  cases hq : L s with
  | false => rfl
  | true =>
   have := zA2 (L := L) hI.closed ops.size [s] (fun j hj => by simp at hj; rw [hj]; exact hq) i (List.contains_iff_mem.1 h1)
   rw [this] at hL; cases hL
 by_cases e : i = s
 ·subst e
  have hg : G w := by have := hI.g; simpa [ge, hL] using this
  refine wpOpIn_mono ?_ (turn L o a w hi hI hg hd)
  rintro a' w' ⟨v, rfl, hv, he⟩
  exact ⟨v, rfl, hv, by simpa [ge] using he⟩
 ·refine wpOpIn_mono ?_ (step L i o a w e hi hI (fun h1 => by have := hI.g; simpa [ge, hpre h1] using this) hd)
  rintro a' w' ⟨v, rfl, hv, rfl⟩
  refine ⟨v, rfl, hv, ?_⟩
  have h1 : (L s || s == i) = L s := by simp [Ne.symm e]
  rw [h1]
  exact hI.g
theorem zQd {K : Act → World → Prop} (h : o.wp P a w K Q) : o.wpIn Fence.wide n P a w K Q := by
 refine ⟨fun _ _ => trivial, ?_⟩
 show o.uponIn Fence.wide n P a K Q ((execOp a.eval o).run P w)
 unfold Oper.wp at h
 generalize (execOp a.eval o).run P w = r at *
 cases r with
 | ok x w' =>
  cases x <;> simp only [Oper.upon, Oper.uponIn] at h ⊢ <;> first
   | exact h
   | exact ⟨fun e => by simp [Fence.wide] at e, callsIn_wide.2 (h.mono fun e w he => by cases e <;> exact he)⟩
   | exact ⟨fun e => by simp [Fence.wide] at e, fun c cs _ => let ⟨v, w', r, s⟩ := h c cs; ⟨v, w', r, stepsIn_wide.2 s⟩⟩
 | halt x w' => cases x <;> simp only [Oper.upon, Oper.uponIn] at h ⊢ <;> exact h
theorem zUn {K : Act → World → Prop} (ho : ops[i]? = some o) (hg : o.guard = none) (h : o.wpIn F n P a w K Q) : wpOpIn F n P ops Q i K a w := by
 unfold wpOpIn
 rw [ho]
 have hw : Region.wanted o (yielded ops a.tmps) = true := by simp [Region.wanted, hg]
 simp only [hw, if_true]
 exact h
theorem zIw {K : Act → World → Prop} (ho : ops[i]? = some o) {j k : Nat} {want : Bool} (hg : o.guard = some (j, want)) (hj : (ops[j]?).bind (·.dst) = some k) (hk : k < a.tmps.size) (hv : a.tmps.getD k undef = .bool want) (h : o.wpIn F n P a w K Q) : wpOpIn F n P ops Q i K a w := by
 unfold wpOpIn
 rw [ho]
 have e : a.tmps[k]? = some (.bool want) := by
  rw [Array.getD_eq_getD_getElem?, Array.getElem?_eq_getElem hk] at hv
  rw [Array.getElem?_eq_getElem hk]
  exact congrArg some hv
 have hy : yielded ops a.tmps j = some want := by
  unfold yielded
  rw [hj]
  simp [e]
 have hw : Region.wanted o (yielded ops a.tmps) = true := by simp [Region.wanted, hg, hy]
 simp only [hw, if_true]
 exact h
theorem zDi {K : Act → World → Prop} (ho : ops[i]? = some o) (hg : o.guard = none) (h : o.wp P a w K Q) : wpOpIn Fence.wide n P ops Q i K a w := zUn ho hg (zQd h)
theorem zGi {K : Act → World → Prop} (ho : ops[i]? = some o) {j k : Nat} {want : Bool} (hg : o.guard = some (j, want)) (hj : (ops[j]?).bind (·.dst) = some k) (hk : k < a.tmps.size) (hv : a.tmps.getD k undef = .bool want) (h : o.wp P a w K Q) : wpOpIn Fence.wide n P ops Q i K a w := zIw ho hg hj hk hv (zQd h)
theorem zQa {x : Operand} {tys : Array TypeId} {args : List Operand} {K : Act → World → Prop} {l m : Nat} {av : Array Value} {Y : Ending → World → Prop} (ho : o.op = .call { callee := .value x, args := args.toArray, argTypes := tys }) (hx : a.eval x = .func (.yield l) #[] #[]) (ha : (args.map a.eval).toArray = av)
  (hy : YieldAt Fence.wide m P l av w Y) (hm : m = n - 1) (h : ∀ e w', Y e w' → ∃ v, e = .returned v ∧ K (a.put o.dst v) w') : o.wpIn Fence.wide n P a w K Q := by
 subst hm
 obtain ⟨fn, tmps, asg, body, hr, hR⟩ := hy
 refine ⟨fun _ _ => trivial, ?_⟩
 have e : (do let d ← resolve a.eval { callee := .value x, args := args.toArray, argTypes := tys } o.type; invoke d.target d.args : Sem Next).run P w = .ok (.round l fn tmps asg body) w := by
  have ha' : args.toArray.map a.eval = av := by rw [← ha]; simp
  simp [resolve, hx, Deferred.ofValue, invoke, ha, hr]
 show o.uponIn Fence.wide n P a K Q ((execOp a.eval o).run P w)
 have e2 : (execOp a.eval o).run P w = .ok (.round l fn tmps asg body) w := by
  unfold execOp
  rw [ho]
  exact e
 rw [e2]
 refine ⟨fun e => by simp [Fence.wide] at e, hR.mono ?_⟩
 intro e w' he
 obtain ⟨v, rfl, hk⟩ := h e w' he
 exact hk
end
end Go.Proofs.YtamldhflkfbdnaaGreatDoor.Reg
namespace Go.Proofs.YtamldhflkfbdnaaGreatDoor.Rng
open Go.RowKit Go.Shelf
section
variable {P : Program}
theorem zCx {f : FuncId} {fn : Func} {c : Code} {args : Array Value} {w : World} {R : Ending → World → Prop} (hf : P.funcs[f]? = some fn) (hb : fn.body = some c)
  (h : c.wp P (bodyPostM Fence.wide 0 P fn R) { tmps := args ++ Array.replicate (fn.ntmps - args.size) undef, defers := [] } w) : Calls P f args w R :=
 callsIn_wide.1 (callsIn_of_wp_marks (n := 0) hf hb trivial (wpIn_wide.2 h))
theorem leave0 {fn : Func} {a : Act} {w : World} {R : Ending → World → Prop} (h : bodyPost P fn R .ret a w) : bodyPostM Fence.wide 0 P fn R .ret a w := by
 obtain ⟨hd, h⟩ := h
 show LeavesInM _ _ _ _ _ _ a.defers _ _
 rw [hd]
 exact h
theorem leave1 {fn : Func} {a : Act} {w : World} {R : Ending → World → Prop} {D : Nat} (hd : a.defers = [{ target := .collected D, args := #[] }]) (hD : w.heap[D]? = some (.deferred (some [])))
  (h : bodyPost P fn R .ret { a with defers := [] } (w.putObj D (.deferred none))) : bodyPostM Fence.wide 0 P fn R .ret a w := by
 obtain ⟨-, h⟩ := h
 show LeavesInM _ _ _ _ _ _ a.defers _ _
 rw [hd]
 exact ⟨by simp, .inl ⟨D, _, rfl, run_takeDeferred hD, h⟩⟩
theorem zQc {σ : Type} {g : Operand} {ps : Array Tmp} {assign body : Code} {Q : Exit → Act → World → Prop} {a : Act} {w : World} {gf : Nat} {lb : Array Value}
  (hg : a.eval g = .func (.func gf) #[] lb) (eg : ∀ args w, (callFunc gf args).run P w = .ok (.enter gf args) w)
  (I : σ → World → Prop) (more : σ → Prop) (nxt : σ → σ) (arg : σ → Array Value) (s0 : σ) (hps : ∀ s, (arg s).size = ps.size)
  (hI : OwnFrom w.heap.size I) (hIb : ∀ s W W', I s W → Below W.heap.size W W' → I s W') (h0 : I s0 w)
  (hit : ∀ (l : Nat) (J : σ → World → Prop), (∀ s W, J s W → I s W) → (∀ s W W', J s W → Below W.heap.size W W' → J s W') →
   (∀ s W, J s W → more s → YieldAt Fence.wide 0 P l (arg s) W fun e W' => e = .returned (.bool true) ∧ J (nxt s) W') →
   ∀ W, J s0 W → Calls P gf (#[.func (.yield l) #[] #[]] ++ lb) W fun e W' => (∃ v, e = .returned v) ∧ ∃ s, ¬ more s ∧ J s W')
  (Ax : σ → Act → World → Prop) (hAx : ∀ s a', OwnFrom w.heap.size (fun (_ : Unit) W => Ax s a' W))
  (hassign : ∀ (l : Nat) (s : σ) (W : World) (K : Act → World → Prop), I s W → (∀ a' W', Below W.heap.size W W' → Ax s a' W' → K a' W') →
   assign.wpIn (Fence.wide.inRound l) 0 P (Exit.then K (fun _ _ _ => False)) { tmps := (ps.zip (arg s)).foldl (fun t (p, v) => t.setIfInBounds p v) a.tmps, defers := [] } W)
  (hbody : ∀ (l : Nat) (s : σ) (a' : Act) (W : World), I s W → Ax s a' W → more s → body.wpIn (Fence.wide.inRound l) 0 P (fun e _ W' => e = .normal ∧ KeepsFrom w.heap.size W W' ∧ I (nxt s) W') a' W)
  (hdone : ∀ (D : Nat) (s : σ) (W : World), w.heap.size ≤ D → ¬ more s → I s W → W.heap[D]? = some (.deferred (some [])) → Q .normal { a with defers := { target := .collected D, args := #[] } :: a.defers } W) :
  (Code.rangeFunc g ps assign body).wp P Q a w := by
 refine (wpIn_wide (n := 0)).1 (wpIn_rangeFunc ?_)
 intro fn hfn
 obtain ⟨rec, hrec⟩ : ∃ rec : LoopState → Loop, rec = fun st => { state := st, pending := none, fn, tmps := a.tmps, params := ps, assign, body, defers := w.heap.size } := ⟨_, rfl⟩
 obtain ⟨W1, hW1⟩ : ∃ W1, (w.alloc (.deferred (some []))).alloc (.loop (rec .ready)) = W1 := ⟨_, rfl⟩
 have hL1 : W1.heap[w.heap.size + 1]? = some (.loop (rec .ready)) := by
  rw [← hW1]; have := World.alloc_heap_new (w.alloc (.deferred (some []))) (.loop (rec .ready)); rwa [World.size_alloc] at this
 have hK1 : W1.heap[w.heap.size]? = some (.deferred (some [])) := by
  rw [← hW1]; exact (Below.heap_alloc _ _ _ (by simp)).trans (World.alloc_heap_new w _)
 have hI1 : I s0 W1 := by rw [← hW1]; exact hI.alloc _ (hI.alloc _ h0)
 refine ⟨w.heap.size + 1, [{ target := .collected w.heap.size, args := #[] }], W1, { target := .fn (.func gf) lb, args := #[.func (.yield (w.heap.size + 1)) #[] #[]] }, W1, gf,
  #[.func (.yield (w.heap.size + 1)) #[] #[]] ++ lb, W1, ?_, ?_, fun _ _ => trivial, ?_, (fun h => (by cases h)), ?_⟩
 ·rw [← hW1, hrec]; exact run_enterLoop_outer _ _ _ _ _
 ·simp only [resolve, hg]
  simp [go_sem]
 ·simp [invoke, go_sem, eg]
 ·refine callsIn_wide.2 ((hit (w.heap.size + 1)
   (fun s W => I s W ∧ W.heap[w.heap.size + 1]? = some (.loop (rec .ready)) ∧ W.heap[w.heap.size]? = some (.deferred (some [])))
   (fun s W h => h.1)
   (fun s W W' h hb => ⟨hIb s W W' h.1 hb, (hb.block _ (Array.getElem?_eq_some_iff.1 h.2.1).1).trans h.2.1, (hb.block _ (Array.getElem?_eq_some_iff.1 h.2.2).1).trans h.2.2⟩)
   ?_ W1 ⟨hI1, hL1, hK1⟩).mono ?_)
  ·rintro s W ⟨hi, hl, hk⟩ hm
   have hlt : w.heap.size + 1 < W.heap.size := (Array.getElem?_eq_some_iff.1 hl).1
   have hy := run_yield (P := P) (args := arg s) hl (by rw [hrec]; exact hps s)
   rw [hrec] at hy
   refine ⟨fn, _, assign, body, hy, roundIn_of_wpIn hfn (hassign _ s W _ hi fun a' W' hb hax => ?_)⟩
   replace hi := hIb s W W' hi hb
   replace hl := (hb.block _ (Array.getElem?_eq_some_iff.1 hl).1).trans hl
   replace hk := (hb.block _ (Array.getElem?_eq_some_iff.1 hk).1).trans hk
   replace hlt := Nat.lt_of_lt_of_le hlt hb.size
   clear hb hy
   refine ⟨_, run_beginRound hl (by rw [hrec]), ?_⟩
   have hl2 : (W'.putObj (w.heap.size + 1) (.loop { rec .ready with state := .busy })).heap[w.heap.size + 1]? = some (.loop { rec .ready with state := .busy }) := World.putObj_heap_same hlt
   have hk2 : (W'.putObj (w.heap.size + 1) (.loop { rec .ready with state := .busy })).heap[w.heap.size]? = some (.deferred (some [])) := (World.putObj_heap_other (by omega)).trans hk
   refine wpIn_mono (hbody _ s a' _ (hI.putObj _ hi (by omega) hl rfl) ((hAx s a').putObj (s := ()) _ hax (by omega) hl rfl) hm) ?_
   ·rintro e a3 W3 ⟨rfl, hk3, hi3⟩
    have hl3 := hk3.same _ _ (by omega) hl2 rfl
    have hk4 := hk3.same _ _ (Nat.le_refl _) hk2 rfl
    have hr := run_endRound (P := P) none hl3
    refine ⟨_, _, hr, rfl, hI.putObj _ hi3 (by omega) hl3 rfl, ?_, ?_⟩
    ·rw [hrec]; exact World.putObj_heap_same (Array.getElem?_eq_some_iff.1 hl3).1
    ·exact (World.putObj_heap_other (by omega)).trans hk4
  ·rintro e W2 ⟨⟨v, rfl⟩, s, hm, hi, hl, hk⟩
   exact ⟨none, _, by have := run_endLoop (P := P) hl (by rw [hrec]; simp); rw [hrec] at this; exact this, hdone _ s _ (Nat.le_refl _) hm (hI.putObj _ hi (by omega) hl rfl) ((World.putObj_heap_other (by omega)).trans hk)⟩
end
end Go.Proofs.YtamldhflkfbdnaaGreatDoor.Rng
namespace Go.Proofs.YtamldhflkfbdnaaGreatDoor.Mem
open Go.ChangeShapes Go.WideShapes Go.RowKit Base Num Slc Slf Rw Tmr Srl Rom Opl Reg

theorem zNy (s : St) (m : M3) : (s.arrive m).o.length ≤ s.o.length + 1 ∧ (s.arrive m).e.length ≤ s.e.length + 1 := by
 unfold St.arrive
 repeat' split
 all_goals simp [St.through, St.sends, St.port]
theorem zPy (s : St) (fin : Int) : (s.beats fin).o.length = s.o.length + 1 ∧ (s.beats fin).e = s.e ∧ (s.beats fin).u = s.u := by
 refine ⟨?_, rfl, rfl⟩
 simp [St.beats, St.sends, St.port]
theorem zHz {s : St} {l : List M3} {fin : Int} (hl : qH l = true) (hu : 0 ≤ s.u) (h : s.takes l fin = true) : s.next l = M3.at' l s.u.toNat ∧ (M3.at' l s.u.toNat).t ≤ fin := by
 simp only [St.takes, Bool.and_eq_true, decide_eq_true_eq, Bool.or_eq_true, beq_iff_eq] at h
 obtain ⟨⟨h1, h2⟩, h3⟩ := h
 have hok := zFm hl (i := s.u.toNat) (by omega)
 simp only [M3.ok, Bool.and_eq_true] at hok
 have ht := qU hok.1
 have hx : (M3.at' l s.u.toNat).t ≤ s.nextAt := by
  unfold St.nextAt
  split
  ·omega
  ·rename_i hx
   rcases h3 with (h3 | h3) | h3
   ·exact absurd h3 hx
   ·omega
   ·exact h3
 refine ⟨?_, h2⟩
 unfold St.next
 rw [if_pos ⟨h1, hx⟩]
theorem zH0 {s : St} {l : List M3} {fin : Int} (h1 : s.takes l fin = false) (h2 : s.idle fin = false) : s.next l = ⟨s.m.p.x, 0, 0⟩ ∧ s.m.p.x ≤ fin := by
 simp only [St.idle, Bool.or_eq_false_iff, beq_eq_false_iff_ne, ne_eq, decide_eq_false_iff_not] at h2
 obtain ⟨hx, hf⟩ := h2
 have e : s.nextAt = s.m.p.x := by unfold St.nextAt; rw [if_neg hx]
 refine ⟨?_, by omega⟩
 unfold St.next
 rw [e, if_neg]
 rintro ⟨h3, h4⟩
 have : s.takes l fin = true := by
  simp only [St.takes, Bool.and_eq_true, decide_eq_true_eq, Bool.or_eq_true, beq_iff_eq]
  exact ⟨⟨h3, by omega⟩, .inr h4⟩
 rw [this] at h1; cases h1
theorem zO4 {s : St} {l : List M3} {fin : Int} (hf : fin ≤ 999999900) (h1 : s.takes l fin = false) (h2 : s.idle fin = true) : ¬ (s.next l).t ≤ fin := by
 simp only [St.idle, Bool.or_eq_true, beq_iff_eq, decide_eq_true_eq] at h2
 unfold St.next
 split
 ·rename_i h
  intro h3
  have : s.takes l fin = true := by
   simp only [St.takes, Bool.and_eq_true, decide_eq_true_eq, Bool.or_eq_true, beq_iff_eq]
   exact ⟨⟨h.1, h3⟩, .inl h2⟩
  rw [this] at h1; cases h1
 ·show ¬ s.nextAt ≤ fin
  unfold St.nextAt
  split
  ·omega
  ·rename_i hx
   rcases h2 with h2 | h2
   ·exact absurd h2 hx
   ·omega
structure Run (l : List M3) (fin : Int) (F : St) (n : Nat) (s : St) : Prop where
 u0 : 0 ≤ s.u
 un : s.u + n ≤ 10000
 on : s.o.length + n ≤ 10000
 en : s.e.length + n ≤ 10000
 mn : s.meas l ≤ n
 ev : s.events l fin n = F
theorem Run.step {l : List M3} {fin : Int} {F : St} {n : Nat} {s : St} (h : Run l fin F n s) (hl : qH l = true) (hf : fin ≤ 999999900) (hm : (s.next l).t ≤ fin) : Run l fin F (n - 1) (s.met (s.next l) fin) ∧ 1 ≤ n ∧ (0 ≤ (s.next l).t ∧ (s.next l).t ≤ 1000000100 ∨ (s.next l).k = 0) := by
 cases ht : s.takes l fin
 ·cases hi : s.idle fin
  ·obtain ⟨e, hx⟩ := zH0 ht hi
   obtain ⟨e1, e2⟩ := zBx ht hi h.mn
   have hlt := vC (l := l) hi
   have hmn := h.mn
   have hb := zPy s fin
   rw [e]
   have em : s.met ⟨s.m.p.x, 0, 0⟩ fin = s.beats fin := by unfold St.met; rw [if_pos rfl]
   rw [em]
   have hn : 1 ≤ n := by omega
   have h1 := h.un
   have h2 := h.on
   have h3 := h.en
   exact ⟨⟨by rw [hb.2.2]; exact h.u0, by rw [hb.2.2]; omega, by rw [hb.1]; omega, by rw [hb.2.1]; omega, e2, by rw [← e1]; exact h.ev⟩, hn, .inr rfl⟩
  ·exact absurd hm (zO4 hf ht hi)
 ·obtain ⟨e, hx⟩ := zHz hl h.u0 ht
  obtain ⟨e1, e2⟩ := jY ht h.u0 h.mn
  have hlt := zBj ht h.u0
  have hmn := h.mn
  have hu : s.u < l.length := by
   simp only [St.takes, Bool.and_eq_true, decide_eq_true_eq] at ht
   exact ht.1.1
  have hu0 := h.u0
  have hok := zFm hl (i := s.u.toNat) (by omega)
  simp only [M3.ok, Bool.and_eq_true] at hok
  have hk : (M3.at' l s.u.toNat).k ≠ 0 := by
   intro hk
   have := hok.2
   rw [hk] at this
   simp at this
  have hal := zNy s (M3.at' l s.u.toNat)
  rw [e]
  have em : s.met (M3.at' l s.u.toNat) fin = s.taken l := by unfold St.met; rw [if_neg hk]; rfl
  rw [em]
  have hn : 1 ≤ n := by omega
  have h1 := h.un
  have h2 := h.on
  have h3 := h.en
  exact ⟨⟨by show 0 ≤ s.u + 1; omega, by show s.u + 1 + _ ≤ _; omega, by show (s.arrive _).o.length + _ ≤ _; omega, by show (s.arrive _).e.length + _ ≤ _; omega, e2, by rw [← e1]; exact h.ev⟩, hn, .inl (qU hok.1)⟩
theorem Run.done {l : List M3} {fin : Int} {F : St} {n : Nat} {s : St} (h : Run l fin F n s) (hl : qH l = true) (hm : ¬ (s.next l).t ≤ fin) : s = F := by
 cases ht : s.takes l fin
 ·cases hi : s.idle fin
  ·obtain ⟨e, hx⟩ := zH0 ht hi
   exact absurd (by rw [e]; exact hx) hm
  ·rw [← h.ev, zA0 ht hi]
 ·obtain ⟨e, hx⟩ := zHz hl h.u0 ht
  exact absurd (by rw [e]; exact hx) hm
structure Its (base g bl : Nat) (x y vi : Value) (co fin : Int) (l : List M3) (F : St) (p : St × Nat) (W : World) : Prop where
 row : ∃ vo ve, GRow W g x y vo ve vi p.1 co fin ∧ So base W x y vo ve p.1
 sl : SlF fM W vi l
 cell : W.cell? ⟨bl, 0, none⟩ = some (.pointer (some ⟨g, 0, none⟩))
 lt : bl < W.heap.size
 run : Run l fin F p.2 p.1
def more (l : List M3) (fin : Int) (p : St × Nat) : Prop := (p.1.next l).t ≤ fin
def nxt (l : List M3) (fin : Int) (p : St × Nat) : St × Nat := (p.1.met (p.1.next l) fin, p.2 - 1)
section
variable {op : Oper} {a : Act} {w : World} {K : Act → World → Prop} {Q : Exit → Act → World → Prop} {p : Operand}
theorem zRk {g : Nat} {m : M3} (ho : op.op = .load 40 p) (hx : a.eval p = .pointer (some ⟨g, 0, none⟩)) (hr : jQ w g m) (h : K (a.put op.dst m.val) w) : op.wp Tryz.prog a w K Q :=
 zFj (cs' := #[.int .i64 m.t, .int .i64 m.k, .int .i64 m.v]) ho hx hr Tryz.underlying40 rfl (by kernel_rfl) jJ h
end
section
variable {base g bl : Nat} {x y vi : Value} {co fin : Int} {l : List M3} {F : St}
set_option maxHeartbeats 2000000 in
theorem zKl (hl : qH l = true) (hf : fin ≤ 999999900) (lr : Nat) (J : St × Nat → World → Prop) (hJI : ∀ p W, J p W → Its base g bl x y vi co fin l F p W) (hJb : ∀ p W W', J p W → Below W.heap.size W W' → J p W')
  (hY : ∀ p W, J p W → more l fin p → YieldAt Fence.wide 0 Tryz.prog lr #[(p.1.next l).val] W fun e W' => e = .returned (.bool true) ∧ J (nxt l fin p) W') (p0 : St × Nat) (W0 : World) (h0 : J p0 W0) :
  Calls Tryz.prog 138 #[.func (.yield lr) #[] #[], .pointer (some ⟨bl, 0, none⟩)] W0 fun e W' => (∃ v, e = .returned v) ∧ ∃ p, ¬ more l fin p ∧ J p W' := by
 go_enter Tryz.func138, Tryz.ntmps138
 go_wp2
 go_loopg [] p0.2 (fun n wr => ∃ p, p.2 = n ∧ J p wr)
 case atStart => exact ⟨p0, rfl, h0⟩
 case round =>
  obtain ⟨p, hpn, hJ⟩ := hrel
  have hI := hJI p wr hJ
  obtain ⟨vo, ve, hg, hs⟩ := hI.row
  have hsl := hI.sl
  have hc := hI.cell
  have hu0 := hI.run.u0
  obtain ⟨q, hq⟩ : ∃ q, p.1.next l = q := ⟨_, rfl⟩
  have HQ : Hid (p.1.next l = q) := hq
  obtain ⟨qt, hqt⟩ : ∃ qt, q.t = qt := ⟨_, rfl⟩
  have HT : Hid (q.t = qt) := hqt
  have HP : Hid (p.2 = gk) := hpn
  by_cases hm : qt ≤ fin
  ·have hmore : more l fin p := by unfold more; rw [hq, hqt]; exact hm
   have HYp : Hid (∀ W, J p W → YieldAt Fence.wide 0 Tryz.prog lr #[q.val] W fun e W' => e = .returned (.bool true) ∧ J (nxt l fin p) W') := show ∀ W, J p W → _ from fun W hW => by have := hY p W hW hmore; rw [hq] at this; exact this
   have hn1 : 1 ≤ gk := by have := (hI.run.step hl hf (by rw [hq, hqt]; exact hm)).2.1; omega
   clear hq hqt hpn hI hmore
   go_wp2_with (first
    | (go_at_call 139; refine (zJv hu0 hg hsl).mono ?_; rw [HQ.out]; rintro e w1 ⟨rfl, hb1⟩; have J1 := hJb _ _ _ hJ hb1; have lw1 : w1.heap.size ≤ w1.heap.size := Nat.le_refl _)
    | (refine zFs rfl rfl ?_; intro w2 q2 hb2)
    | (refine zC4 rfl rfl rfl rfl q2 ?_; rintro w3 q3 o3; have J3 := hJb _ _ _ J1 (zA hb2 o3 (Nat.le_refl _))))
   have hG : J p w3 ∧ jQ w3 w1.heap.size q := ⟨J3, q3⟩
   have hG' : J p w3.drew ∧ jQ w3.drew w1.heap.size q := ⟨hJb _ _ _ J3 (xC (n := 1) rfl), q3.below (xC (n := 1) rfl)⟩
   obtain ⟨b3, hb3⟩ : ∃ b3, w1.heap.size = b3 := ⟨_, rfl⟩
   rw [hb3] at hG'
   rw [hb3]
   clear hG J3 q3 o3 q2 hb2 J1 lw1 hb1 hb3 hc hg hs hsl hJ
   simp only [Act.put, List.setIfInBounds_toArray, List.set_cons_zero, List.set_cons_succ]
   refine (wpIn_wide (n := 0)).1 ?_
   refine zHu (by kernel_rfl) (by kernel_rfl) 10 (by decide) (by kernel_rfl) (fun W => J p W ∧ jQ W b3 q) (fun W => J (nxt l fin p) W) [pt b3 0, .int .i64 qt, pt g 0, pt g 0, pt g 30, .int .i64 fin, .bool false, .bool false, .func (.yield lr) #[] #[], q.val, .bool true, .bool false, .bool false] hG' ?step ?turn ?done
   case step =>
    intro L ix o' A W hne hj hI hg0 hd
    have hin : ix < 13 := qB hj
    have hsz : A.tmps.size = 19 := hI.size
    rcases ix with _ | _ | _ | _ | _ | _ | _ | _ | _ | _ | _ | _ | _ | ix
    ·cases hj; exact zDi rfl rfl (zH (x := .tmp 3) (hI.ol 3 rfl) rfl (by kernel_rfl) ⟨_, rfl, rfl, rfl⟩)
    ·cases hj; have hg := hg0 (by kernel_rfl); exact zDi rfl rfl (zN rfl Tryz.underlying2 (hI.vl hd 0 rfl) (by have := hg.2.cell 0; rw [← HT.out]; exact this) ⟨_, rfl, rfl, rfl⟩)
    ·cases hj; have hg := hg0 (by kernel_rfl); exact zDi rfl rfl (zA8 rfl Tryz.underlying173 rfl (hI.ol 1 rfl) (hJI _ _ hg.1).cell ⟨_, rfl, rfl, rfl⟩)
    ·cases hj; exact zDi rfl rfl (qK rfl (hI.vl hd 2 rfl) ⟨_, rfl, rfl, rfl⟩)
    ·cases hj; exact zDi rfl rfl (zH (hI.vl hd 3 rfl) rfl (by kernel_rfl) ⟨_, rfl, rfl, rfl⟩)
    ·cases hj; have hg := hg0 (by kernel_rfl)
     obtain ⟨vo', ve', hgr, -⟩ := (hJI _ _ hg.1).row
     exact zDi rfl rfl (zN rfl Tryz.underlying2 (hI.vl hd 4 rfl) (gc hgr).fin ⟨_, rfl, rfl, rfl⟩)
    ·cases hj; have hg := hg0 (by kernel_rfl); exact zDi rfl rfl (qP rfl (hI.vl hd 1 rfl) (hI.vl hd 5 rfl) (fun w => by simp [go_sem] <;> omega) ⟨_, rfl, rfl, rfl⟩)
    ·cases hj; exact zDi rfl rfl (qR rfl ⟨_, rfl, hI.vl hd 6 rfl, rfl⟩)
    ·cases hj; exact zGi rfl rfl (j := 7) (k := 13) rfl (by omega) (hI.vl hd 7 rfl) (qR rfl ⟨_, rfl, hI.ol 0 rfl, rfl⟩)
    ·cases hj; have hg := hg0 (by kernel_rfl); exact zGi rfl rfl (j := 7) (k := 13) rfl (by omega) (hI.vl hd 7 rfl) (zRk rfl (hI.ol 3 rfl) hg.2 ⟨_, rfl, rfl, rfl⟩)
    ·exact absurd rfl hne
    ·cases hj; exact zGi rfl rfl (j := 7) (k := 13) rfl (by omega) (hI.vl hd 7 rfl) (zH (hI.vl hd 10 rfl) rfl (by kernel_rfl) ⟨_, rfl, rfl, rfl⟩)
    ·cases hj; exact zDi rfl rfl (xH rfl (hI.vl hd 7 rfl) ⟨_, rfl, (hI.vl hd 11 rfl), rfl⟩)
    omega
   case turn =>
    intro L o' A W hj hI hg hd
    cases hj
    have hsz : A.tmps.size = 19 := hI.size
    have hgv : A.tmps.getD 13 undef = .bool false := hI.val hd 7 13 rfl rfl (by kernel_rfl)
    have e0 : A.eval (.tmp 14) = .func (.yield lr) #[] #[] := hI.val hd 8 14 rfl rfl (by kernel_rfl)
    have e1 : A.eval (.tmp 15) = q.val := hI.val hd 9 15 rfl rfl (by kernel_rfl)
    refine zIw rfl rfl (j := 7) (k := 13) rfl (by omega) hgv (zQa (args := [.tmp 15]) rfl e0 (by simp only [List.map_cons, List.map_nil, e1]) (HYp.out _ hg.1) rfl ?_)
    rintro e W' ⟨rfl, hJ'⟩
    exact ⟨_, rfl, _, rfl, rfl, hJ'⟩
   case done =>
    intro A W hI hE
    have s18 := hI.ls 12 rfl rfl
    have hA := hI.frame [6, 7, 8, 9, 10, 11, 12, 13, 14, 15, 16, 17, 18] (by kernel_rfl)
    rw [hA]
    simp only [qJ, List.foldl_cons, List.foldl_nil, s18, Act.put, List.setIfInBounds_toArray, List.set_cons_zero, List.set_cons_succ]
    clear hA hI s18
    go_wp2_with fail
    go_roundg (gk - 1)
    case measure => omega
    case rel => exact ⟨nxt l fin p, by show p.2 - 1 = _; rw [HP.out], hE⟩
  ·have hmore : ¬ more l fin p := by unfold more; rw [hq, hqt]; exact hm
   have hgt : fin < qt := by omega
   clear hq hqt hpn hI
   go_wp2_with (first
    | (go_at_call 139; refine (zJv hu0 hg hsl).mono ?_; rw [HQ.out]; rintro e w1 ⟨rfl, hb1⟩; have J1 := hJb _ _ _ hJ hb1; have lw1 : w1.heap.size ≤ w1.heap.size := Nat.le_refl _)
    | (refine zFs rfl rfl ?_; intro w2 q2 hb2)
    | (refine zC4 rfl rfl rfl rfl q2 ?_; rintro w3 q3 o3; have J3 := hJb _ _ _ J1 (zA hb2 o3 (Nat.le_refl _))))
   have hG' : J p w3.drew ∧ jQ w3.drew w1.heap.size q := ⟨hJb _ _ _ J3 (xC (n := 1) rfl), q3.below (xC (n := 1) rfl)⟩
   obtain ⟨b3, hb3⟩ : ∃ b3, w1.heap.size = b3 := ⟨_, rfl⟩
   rw [hb3] at hG'
   rw [hb3]
   clear J3 q3 o3 q2 hb2 J1 lw1 hb1 hb3 hc hg hs hsl hJ
   simp only [Act.put, List.setIfInBounds_toArray, List.set_cons_zero, List.set_cons_succ]
   refine qD (by kernel_rfl) (by kernel_rfl) 0 (by decide) (by kernel_rfl) (fun _ W => J p W ∧ jQ W b3 q) [pt b3 0, .int .i64 qt, pt g 0, pt g 0, pt g 30, .int .i64 fin, .bool true, .bool true, undef, undef, undef, undef, .bool true] hG' ?step ?done
   case step =>
    intro L ix o' A W hj hI hL hd
    have hin : ix < 13 := qB hj
    have hsz : A.tmps.size = 19 := hI.size
    have hg := hI.g
    rcases ix with _ | _ | _ | _ | _ | _ | _ | _ | _ | _ | _ | _ | _ | ix
    ·cases hj; exact zC rfl rfl (zH (x := .tmp 3) (hI.ol 3 rfl) rfl (by kernel_rfl) (kk hg))
    ·cases hj; exact zC rfl rfl (zN rfl Tryz.underlying2 (hI.vl hd 0 rfl) (by have := hg.2.cell 0; rw [← HT.out]; exact this) (kk hg))
    ·cases hj; exact zC rfl rfl (zA8 rfl Tryz.underlying173 rfl (hI.ol 1 rfl) (hJI _ _ hg.1).cell (kk hg))
    ·cases hj; exact zC rfl rfl (qK rfl (hI.vl hd 2 rfl) (kk hg))
    ·cases hj; exact zC rfl rfl (zH (hI.vl hd 3 rfl) rfl (by kernel_rfl) (kk hg))
    ·cases hj; obtain ⟨vo', ve', hgr, -⟩ := (hJI _ _ hg.1).row; exact zC rfl rfl (zN rfl Tryz.underlying2 (hI.vl hd 4 rfl) (gc hgr).fin (kk hg))
    ·cases hj; exact zC rfl rfl (qP rfl (hI.vl hd 1 rfl) (hI.vl hd 5 rfl) (fun w => by simp [go_sem] <;> omega) (kk hg))
    ·cases hj; exact am rfl rfl rfl (kv (hI.vl hd 6 rfl) hg)
    ·cases hj; exact ak rfl rfl (hI.vl hd 7 rfl) (kk hg)
    ·cases hj; exact ak rfl rfl (hI.vl hd 7 rfl) (kk hg)
    ·cases hj; exact ak rfl rfl (hI.vl hd 7 rfl) (kk hg)
    ·cases hj; exact ak rfl rfl (hI.vl hd 7 rfl) (kk hg)
    ·cases hj; have e1 := hI.vl hd 11 rfl; exact zC rfl rfl (xH rfl (hI.vl hd 7 rfl) (kk hg))
    omega
   case done =>
    intro A W hI
    have hg := hI.g
    have s18 := hI.ls 12 rfl rfl
    have hA := hI.frame [6, 7, 8, 9, 10, 11, 12, 13, 14, 15, 16, 17, 18] (by kernel_rfl)
    rw [hA]
    simp only [qJ, List.foldl_cons, List.foldl_nil, s18, Act.put, List.setIfInBounds_toArray, List.set_cons_zero, List.set_cons_succ]
    clear hA hI s18
    go_wp2_with fail
    refine zJq rfl rfl ?_
    exact ⟨⟨_, rfl⟩, p, hmore, hg.1⟩
end
theorem zH5 (g : Nat) (w : World) :
  Calls Tryz.prog 61 #[.pointer (some ⟨g, 0, none⟩)] w fun e w' => e = .returned (.func (.func 138) #[] #[.pointer (some ⟨w.heap.size, 0, none⟩)]) ∧ Row w' w.heap.size #[.pointer (some ⟨g, 0, none⟩)] 173 ∧ Below w.heap.size w w' := by
 go_enter Tryz.func61, Tryz.ntmps61
 go_wp2
 refine bodyPost_ret (results_tmp rfl _ _ _) rfl ?_
 exact ⟨rfl, Row.new _ _ _, (Below.refl _ _).alloc (Nat.le_refl _) _⟩
/-! What a turn of a block that is no cells leaves. -/
section
variable {w w' : World} {base g : Nat} {row : Option Nat} {x y vo ve vi : Value} {s : St} {co fin : Int}
theorem zDs {b : Nat} {cs : Array Value} {T : TypeId} (h : Row w b cs T) (hg : w.grownBy w' row) (hr : ∀ r, row = some r → ∃ o : Obj, w.heap[r]? = some o ∧ o.isCells = false) : Row w' b cs T :=
 h.keep (hg.block b h.lt (fun e => by
  obtain ⟨o, ho, hc⟩ := hr b e.symm
  rw [h.row] at ho
  cases ho
  cases hc))
theorem zNh {α : Type} {f : Fl α} {v : Value} {l : List α} (h : OwnF f base w v l) {k : Nat} (hk : v.ownBlock = some k) : ∃ o : Obj, w.heap[k]? = some o ∧ o.isCells = true := by
 rcases h.2 with ⟨rfl, _⟩ | ⟨g', cap, cur, rfl, _, hb, _⟩
 ·cases hk; skip
 ·have e' : g' = k := Option.some.inj hk
  subst e'
  exact ⟨_, hb, rfl⟩
theorem zO2 {v : Value} {l : List Int} (h : Slc.Own base w v l) {k : Nat} (hk : v.ownBlock = some k) : ∃ o : Obj, w.heap[k]? = some o ∧ o.isCells = true := by
 rcases h.2 with ⟨rfl, _⟩ | ⟨g', cap, cur, rfl, _, hb, _⟩
 ·cases hk; skip
 ·have e' : g' = k := Option.some.inj hk
  subst e'
  exact ⟨_, hb, rfl⟩
theorem zJt {α : Type} {f : Fl α} {v : Value} {l : List α} (h : OwnF f base w v l) (hg : w.grownBy w' row) (hr : ∀ r, row = some r → ∃ o : Obj, w.heap[r]? = some o ∧ o.isCells = false) : OwnF f base w' v l :=
 h.grown hg (fun k hk e => by
  obtain ⟨o, ho, hc⟩ := hr k hk
  obtain ⟨o', ho', hc'⟩ := zNh h e
  rw [ho] at ho'
  cases ho'
  rw [hc] at hc'; cases hc')
theorem zLr {v : Value} {l : List Int} (h : Slc.Own base w v l) (hg : w.grownBy w' row) (hr : ∀ r, row = some r → ∃ o : Obj, w.heap[r]? = some o ∧ o.isCells = false) : Slc.Own base w' v l :=
 h.grown hg (fun k hk e => by
  obtain ⟨o, ho, hc⟩ := hr k hk
  obtain ⟨o', ho', hc'⟩ := zO2 h e
  rw [ho] at ho'
  cases ho'
  rw [hc] at hc'; cases hc')
theorem zN5 (h : So base w x y vo ve s) (hg : w.grownBy w' row) (hr : ∀ r, row = some r → ∃ o : Obj, w.heap[r]? = some o ∧ o.isCells = false) : So base w' x y vo ve s :=
 ⟨⟨zLr h.ow.hx hg hr, zLr h.ow.hy hg hr, h.ow.ap, Nat.le_trans h.ow.le hg.size⟩, zJt h.o hg hr, zJt h.e hg hr⟩
theorem Mid.keeps {B : Nat} {cs : Array Value} {T : TypeId} (h : Mid base g w w') (hr : Row w g cs T) : KeepsFrom B w w' :=
 ⟨h.size, fun k o hB hk hc => (h.block k (Array.getElem?_eq_some_iff.1 hk).1 (fun e => by subst e; rw [hr.row] at hk; cases hk; cases hc) (.inr fun cs T fz e => by rw [hk] at e; cases e; cases hc)).trans hk⟩
end
structure Sth (base g bl gz : Nat) (x y vi : Value) (co fin : Int) (l : List M3) (F : St) (w : World) (p : St × Nat) (W : World) : Prop where
 its : Its base g bl x y vi co fin l F p W
 box : Row W bl #[.pointer (some ⟨g, 0, none⟩)] 173
 res : SRow W gz zY zY zY zY St.nul
 bel : Below base w W
section
variable {w W W' : World} {base g bl gz : Nat} {x y vi : Value} {co fin : Int} {l : List M3} {F : St} {p : St × Nat}
theorem Sth.kept (h : Sth base g bl gz x y vi co fin l F w p W) (hb : base ≤ w.heap.size) (hvi : 0 < l.length → ∀ k, vi.ownBlock = some k → k < base) {row : Option Nat} (hg : W.grownBy W' row) (hr : ∀ r, row = some r → base ≤ r ∧ ∃ o : Obj, W.heap[r]? = some o ∧ o.isCells = false) : Sth base g bl gz x y vi co fin l F w p W' := by
 have hr' : ∀ r, row = some r → ∃ o : Obj, W.heap[r]? = some o ∧ o.isCells = false := fun r e => (hr r e).2
 obtain ⟨vo, ve, h1, h2⟩ := h.its.row
 have hbx := zDs h.box hg hr'
 exact ⟨⟨⟨vo, ve, zDs h1 hg hr', zN5 h2 hg hr'⟩, h.its.sl.grown hg (fun h0 k hk e => by have := hvi h0 k e; have := (hr k hk).1; omega), hbx.cell 0, hbx.lt, h.its.run⟩, hbx, zDs h.res hg hr', h.bel.grown hg (Nat.le_trans hb h.bel.size) (fun k e => (hr k e).1)⟩
theorem Sth.below (h : Sth base g bl gz x y vi co fin l F w p W) (hb : base ≤ w.heap.size) (hB : Below W.heap.size W W') : Sth base g bl gz x y vi co fin l F w p W' := by
 obtain ⟨vo, ve, h1, h2⟩ := h.its.row
 have hbx := h.box.below hB
 exact ⟨⟨⟨vo, ve, h1.below hB, h2.below hB⟩, h.its.sl.below hB, hbx.cell 0, hbx.lt, h.its.run⟩, hbx, h.res.below hB, h.bel.trans (hB.mono (Nat.le_trans hb h.bel.size))⟩
theorem Sth.met (h : Sth base g bl gz x y vi co fin l F w p W) (hb : base ≤ w.heap.size) (hbg : base ≤ g) (hne : bl ≠ g ∧ gz ≠ g) (hvi : 0 < l.length → ∀ k, vi.ownBlock = some k → k < base) (hl : qH l = true) (hf : fin ≤ 999999900) (hm : more l fin p)
  (hG : Gd base g W W' x y vi co fin (p.1.met (p.1.next l) fin)) : Sth base g bl gz x y vi co fin l F w (nxt l fin p) W' := by
 obtain ⟨vo, ve, h1, h2, M⟩ := hG
 have hbx := M.row h.box ⟨by decide, by decide⟩ hne.1
 have hB := M.below hbg (Nat.le_trans hb h.bel.size)
 exact ⟨⟨⟨vo, ve, h1, h2⟩, M.old hbg h.its.sl hvi, hbx.cell 0, hbx.lt, (h.its.run.step hl hf hm).1⟩, hbx, M.row h.res zJ hne.2, h.bel.trans hB⟩
end
theorem zOx {m : Mc} {l : List M3} {fin : Int} (hl : qH l = true) : Run l fin ((St.first m).evs l fin) ((St.first m).meas l) (St.first m) := by
 have h1 := zCu hl
 have h2 : (St.first m).meas l ≤ 2 * l.length + 1 := by
  unfold St.meas
  have : (St.first m).u.toNat = 0 := rfl
  rw [this]
  split <;> omega
 have h3 : m.turn.2.2.length ≤ 1 := by
  unfold Mc.turn
  split
  ·split <;> simp
  ·simp
 exact ⟨by show (0 : Int) ≤ 0; omega, by show (0 : Int) + _ ≤ _; omega, by show 0 + _ ≤ _; omega, by show m.turn.2.2.length + _ ≤ _; omega, Nat.le_refl _, rfl⟩
section
variable {P : Program} {o : Oper} {a : Act} {w : World} {K : Act → World → Prop} {Q : Exit → Act → World → Prop} {n lr : Nat} {p q : Operand} {g : Nat}
theorem zE6 (hd : ∀ c, o.op ≠ .defer c) (h : o.wp P a w K Q) : o.wpIn (Fence.wide.inRound lr) n P a w K Q := by
 refine ⟨fun _ _ => trivial, ?_⟩
 have h2 : o.uponIn Fence.wide n P a K Q ((execOp a.eval o).run P w) := (zQd (n := n) h).2
 rw [Oper.semAt_eq _ _ _ hd]
 exact h2
theorem zV4 (ho : o.op = .alloc 40) (h : ∀ w', jQ w' w.heap.size M3.nul → Below w.heap.size w w' → K (a.put o.dst (.pointer (some ⟨w.heap.size, 0, none⟩))) w') : o.wp Tryz.prog a w K Q := by
 have e : (execOp a.eval o).run Tryz.prog w = .ok (.value (.pointer (some ⟨w.heap.size, 0, none⟩))) (w.alloc (.cells #[.int .i64 0, .int .i64 0, .int .i64 0] 40)) := by
  unfold execOp
  rw [ho]
  kernel_rfl
 unfold Oper.wp
 rw [e]
 exact h _ (Row.new _ _ _) ((Below.refl _ _).alloc (Nat.le_refl _) _)
theorem zVd {m m0 : M3} (ho : o.op = .store 40 p q) (hx : a.eval p = .pointer (some ⟨g, 0, none⟩)) (hy : a.eval q = m.val) (hr : jQ w g m0)
  (h : ∀ w', jQ w' g m → Onto g w w' → K (a.put o.dst undef) w') : o.wp Tryz.prog a w K Q :=
 zAo (cells := #[.int .i64 m.t, .int .i64 m.k, .int .i64 m.v]) ho hx hy hr jJ rfl (by simp [Value.oneCell']) h
end
def Axm (g : Nat) (l : List M3) (p : St × Nat) (a' : Act) (W : World) : Prop := ∃ b, jQ W b (p.1.next l) ∧ a'.tmps.getD 6 undef = .pointer (some ⟨g, 0, none⟩) ∧ a'.tmps.getD 7 undef = .pointer (some ⟨b, 0, none⟩) ∧ a'.tmps.size = 32
open Rng in
set_option maxHeartbeats 4000000 in
theorem zLa (v vi : Value) (m : Mc) (l : List M3) (w : World) (hm : MSl w v m) (hs : SlF fM w vi l) (ho : jK w) :
  Calls Tryz.prog 12 #[v, vi] w fun e w' => AnsT w.heap.size w' e (stepOf m l) ∧ Below w.heap.size w w' := by
 obtain ⟨x, y, hv, hr, ha⟩ := hm
 obtain ⟨r, HX⟩ : ∃ r, Hid (r = stepOf m l) := ⟨_, show _ = _ from rfl⟩
 rw [← HX.out]
 cases hok : m.ok
 ·have HX' : Hid (r = (St.nul, false)) := show _ = _ by rw [HX.out]; exact vJ (by rw [hok]; simp)
  refine zCx Tryz.func12 rfl ?_
  simp only [Tryz.ntmps12, List.size_toArray, List.length_cons, List.length_nil, Nat.reduceAdd, Nat.reduceSub, Array.replicate_succ, Array.replicate_zero, List.push_toArray, List.append_toArray, List.nil_append, List.cons_append]
  go_wp2_with (first
   | (refine zP rfl rfl hv ?_; intro w0 r0 hb0; have hr0 := hr.below hb0; have ha0 := ha.below hb0)
   | (refine xV rfl rfl ?_; intro w1 z1 hb1; have r1 := r0.below hb1; have hB1 := zD hb0 hb1; have hr1 := hr0.below hb1; have ha1 := ha0.below hb1)
   | (refine zI rfl rfl rfl r1 ?_)
   | (go_at_call 23; refine (zX _ m _ ⟨x, y, rfl, hr1, ha1⟩).mono ?_; rw [hok]; rintro e w2 ⟨rfl, hb2⟩; have z2 := z1.below hb2; have hB2 := zD hB1 hb2; have lz := z1.lt; have s2 := hB2.size; have s0 := hb0.size)
   | (refine zFr rfl rfl ?_)
   | (refine st_s rfl rfl rfl rfl z2 rfl rfl rfl rfl ?_; rintro w3 z3 o3 -; have hB3 := zA hB2 o3 (by omega)))
  refine leave0 (vQ rfl rfl z3 rfl rfl ?_)
  rw [HX'.out]
  exact ⟨⟨_, _, _, _, rfl, zEi _ _ hB3.size⟩, hB3⟩
 ·cases hio : qH l
  ·have HX' : Hid (r = (St.nul, false)) := show _ = _ by rw [HX.out]; exact vJ (by rw [hio]; simp)
   refine zCx Tryz.func12 rfl ?_
   simp only [Tryz.ntmps12, List.size_toArray, List.length_cons, List.length_nil, Nat.reduceAdd, Nat.reduceSub, Array.replicate_succ, Array.replicate_zero, List.push_toArray, List.append_toArray, List.nil_append, List.cons_append]
   go_wp2_with (first
    | (refine zP rfl rfl hv ?_; intro w0 r0 hb0; have hr0 := hr.below hb0; have ha0 := ha.below hb0; have hs0 := hs.below hb0)
    | (refine xV rfl rfl ?_; intro w1 z1 hb1; have r1 := r0.below hb1; have hB1 := zD hb0 hb1; have hr1 := hr0.below hb1; have ha1 := ha0.below hb1; have hs1 := hs0.below hb1)
    | (refine zI rfl rfl rfl r1 ?_)
    | (go_at_call 23; refine (zX _ m _ ⟨x, y, rfl, hr1, ha1⟩).mono ?_; rw [hok]; rintro e w2 ⟨rfl, hb2⟩; have z2 := z1.below hb2; have hB2 := zD hB1 hb2; have lz := z1.lt; have s2 := hB2.size; have s0 := hb0.size; have hs2 := hs1.below hb2)
    | (go_at_call 20; refine (xJ _ l _ hs2).mono ?_; rw [hio]; rintro e w5 ⟨rfl, hb5⟩; have z5 := z2.below hb5; have hB5 := zD hB2 hb5; have s5 := hb5.size)
    | (refine zFr rfl rfl ?_)
    | (refine st_s rfl rfl rfl rfl z5 rfl rfl rfl rfl ?_; rintro w3 z3 o3 -; have hB3 := zA hB5 o3 (by omega)))
   refine leave0 (vQ rfl rfl z3 rfl rfl ?_)
   rw [HX'.out]
   exact ⟨⟨_, _, _, _, rfl, zEi _ _ hB3.size⟩, hB3⟩
  ·have HIO : Hid (qH l = true) := hio
   have HOK : Hid (m.ok = true) := hok
   by_cases hf : m.fin ≤ 999999900
   ·have HX' : Hid (r = (m.stepped l, true)) := show _ = _ by rw [HX.out]; exact zBe hok hio hf
    have HF : Hid (m.fin ≤ 999999900) := hf
    obtain ⟨fin, hfin⟩ : ∃ fin, m.fin = fin := ⟨_, rfl⟩
    obtain ⟨co, hco⟩ : ∃ co, m.turn.2.1 = co := ⟨_, rfl⟩
    have HFC : Hid (m.fin = fin ∧ m.turn.2.1 = co) := ⟨hfin, hco⟩
    have hff : fin ≤ 999999900 := by omega
    have hgt : decide (999999900 < fin) = false := by simp; omega
    have hone := hs.one
    clear hf hfin hco
    refine zCx Tryz.func12 rfl ?_
    simp only [Tryz.ntmps12, List.size_toArray, List.length_cons, List.length_nil, Nat.reduceAdd, Nat.reduceSub, Array.replicate_succ, Array.replicate_zero, List.push_toArray, List.append_toArray, List.nil_append, List.cons_append]
    go_wp2_with (first
     | (refine zP rfl rfl hv ?_; intro w0 r0 hb0; have hr0 := hr.below hb0; have ha0 := ha.below hb0; have hs0 := hs.below hb0; have oo0 := ho.below hb0)
     | (refine xV rfl rfl ?_; intro w1 z1 hb1; have r1 := r0.below hb1; have hB1 := zD hb0 hb1; have hr1 := hr0.below hb1; have ha1 := ha0.below hb1; have hs1 := hs0.below hb1; have oo1 := oo0.below hb1)
     | (refine zI rfl rfl rfl r1 ?_)
     | (go_at_call 23; refine (zX _ m _ ⟨x, y, rfl, hr1, ha1⟩).mono ?_; rw [hok]; rintro e w2 ⟨rfl, hb2⟩; have z2 := z1.below hb2; have r2 := r1.below hb2; have hB2 := zD hB1 hb2; have lz := z1.lt; have s2 := hB2.size; have s0 := hb0.size; have hs2 := hs1.below hb2; have hr2 := hr1.below hb2; have ha2 := ha1.below hb2; have t2 := hb2.size; have oo2 := oo1.below hb2)
     | (go_at_call 20; refine (xJ _ l _ hs2).mono ?_; rw [hio]; rintro e w5 ⟨rfl, hb5⟩; have z5 := z2.below hb5; have r5 := r2.below hb5; have hB5 := zD hB2 hb5; have s5 := hb5.size; have hs5 := hs2.below hb5; have hr5 := hr2.below hb5; have ha5 := ha2.below hb5; have oo5 := oo2.below hb5)
     | (refine zI rfl rfl rfl r5 ?_)
     | (go_at_call 60; refine (zIu _ m _ ⟨x, y, rfl, hr5, ha5⟩ HOK.out oo5).mono ?_; unfold Bgn; rw [HFC.out.1, HFC.out.2]; rintro e w6 ⟨x6, y6, vo6, ve6, rfl, Y6, hb6⟩; have z6 := z5.below hb6; have hB6 := zD hB5 hb6; have s6 := hb6.size; have hs6 := hs5.below hb6)
     | (refine al_g rfl rfl ?_; intro w7 g7 hb7; have z7 := z6.below hb7; have Y7 := Y6.below hb7; have hB7 := zD hB6 hb7; have s7 := hb7.size; have hs7 := hs6.below hb7; have lg7 := g7.lt)
     | (refine st_g rfl rfl rfl rfl g7 (zB Y7.ow.hx) (zB Y7.ow.hy) (Y7.o.one okM) (Y7.e.one okE) rfl ?_; rintro w8 g8 o8 -; have z8 := z7.onto o8 (by omega); have Y8 := Y7.row o8 g7 xE (by decide); have hB8 := zA hB7 o8 (by omega); have s8 := o8.size; have hs8 := zC5 hs7 o8 (fun h0 k hk => by have := hs6.lt h0 k hk; omega); have kf := (gc g8).fin)
     | (refine zV9 (v := vi) rfl rfl rfl rfl g8 hone ?_; rintro w9 g9 o9 -; have z9 := z8.onto o9 (by omega); have Y9 := Y8.row o9 g8 xE (by decide); have hB9 := zA hB8 o9 (by omega); have s9 := o9.size; have hs9 := zC5 hs8 o9 (fun h0 k hk => by have := hs6.lt h0 k hk; omega); have lg9 := g9.lt)
     | (go_at_call 61; refine (zH5 _ _).mono ?_; rintro e wa ⟨rfl, ba, hba⟩; have za := z9.below hba; have ga := g9.below hba; have Ya := Y9.below hba; have hBa := zD hB9 hba; have sa := hba.size; have hsa := hs9.below hba))
    have hvi : 0 < l.length → ∀ k, vi.ownBlock = some k → k < w5.heap.size := fun h0 k hk => hs5.lt h0 k hk
    have HS : Hid (m.stepped l = ((St.first m).evs l fin).closed co fin) := show _ = _ by unfold Mc.stepped; rw [HFC.out.1, HFC.out.2]
    obtain ⟨g, hg⟩ : ∃ g, w6.heap.size = g := ⟨_, rfl⟩
    obtain ⟨gz, hgz⟩ : ∃ gz, w0.heap.size = gz := ⟨_, rfl⟩
    obtain ⟨bl, hbl⟩ : ∃ bl, w9.heap.size = bl := ⟨_, rfl⟩
    have hbg : w5.heap.size ≤ g := by omega
    have hne : bl ≠ g ∧ gz ≠ g := by have := z6.lt; omega
    have h5a : w5.heap.size ≤ wa.heap.size := by omega
    have h5 : w.heap.size ≤ w5.heap.size := hB5.size
    have hgz0 : w.heap.size ≤ gz := by omega
    have hgz1 : gz < w5.heap.size := by have := z5.lt; omega
    have B5a : Below w5.heap.size w5 wa := by
     have a1 := zD hb6 hb7
     have a2 := zA a1 o8 (by omega)
     have a3 := zA a2 o9 (by omega)
     exact zD a3 hba
    rw [hg] at ga ba
    rw [hgz] at za
    rw [hbl] at ba
    rw [hg, hgz, hbl]
    have H0 : Sth w5.heap.size g bl gz x6 y6 vi co fin l ((St.first m).evs l fin) w5 (St.first m, (St.first m).meas l) wa := ⟨⟨⟨vo6, ve6, ga, Ya⟩, hsa, ba.cell 0, ba.lt, zOx HIO.out⟩, ba, za, B5a⟩
    clear ga Ya ba za B5a hsa hba hBa Y9 g9 z9 hB9 hs9 o9 kf lg9 Y8 g8 z8 hB8 hs8 o8 Y7 g7 z7 hB7 hs7 hb7 lg7 Y6 z6 hB6 hs6 hb6 hbl hg hgz
    refine zQc (gf := 138) (lb := #[.pointer (some ⟨bl, 0, none⟩)]) rfl (enters_of Tryz.func138 (by kernel_rfl) rfl) (Sth w5.heap.size g bl gz x6 y6 vi co fin l ((St.first m).evs l fin) w5) (more l fin) (nxt l fin) (fun p => #[(p.1.next l).val]) (St.first m, (St.first m).meas l) (fun _ => rfl) ?hI ?hIb H0 ?hit (Axm g l) ?hAx ?assign ?body ?done
    case hI => exact fun p W W' row h hg hr => h.kept (Nat.le_refl _) hvi hg (fun r e => ⟨by have := (hr r e).1; omega, (hr r e).2⟩)
    case hIb => exact fun p W W' h hB => h.below (Nat.le_refl _) hB
    case hit => exact fun lr J hJI hJb hY W hJ => zKl HIO.out hff lr J (fun p W h => (hJI p W h).its) hJb hY _ W hJ
    case hAx =>
     rintro p a' - W W' row ⟨b, hb, e⟩ hg hr
     exact ⟨b, zDs hb hg (fun r e => (hr r e).2), e⟩
    case assign =>
     intro lr p W K hI hK
     have ez : (#[26].zip #[(p.1.next l).val] : Array (Nat × Value)) = #[(26, (p.1.next l).val)] := by simp
     rw [ez]
     simp only [List.foldl_toArray', List.foldl_toArray, List.foldl_cons, List.foldl_nil, List.size_toArray, List.length_cons, List.length_nil, List.setIfInBounds_toArray, List.set_cons_zero, List.set_cons_succ]
     refine wpIn_region_lit ?_
     refine wpListIn_plain rfl fun K1 hK1 => zE6 (by intro c h; cases h) (zV4 rfl ?_)
     intro W1 m1 hb1
     apply hK1
     refine wpListIn_plain rfl fun K2 hK2 => zE6 (by intro c h; cases h) (zVd (m := p.1.next l) rfl rfl rfl m1 ?_)
     intro W2 m2 o2
     apply hK2
     refine wpListIn_nil ?_
     exact hK _ _ (zA hb1 o2 (Nat.le_refl _)) ⟨W.heap.size, m2, rfl, rfl, rfl⟩
    case body =>
     rintro lr p a' W hI ⟨b, hb, e6, e7, es⟩ hm
     obtain ⟨vo, ve, h1, h2⟩ := hI.its.row
     have hrn := hI.its.run
     have hst := hrn.step HIO.out hff hm
     refine wpIn_block (wpIn_region_lit ?_)
     refine wpListIn_plain rfl fun K1 hK1 => zE6 (by intro c h; cases h) (zRk rfl e7 hb ?_)
     apply hK1
     refine wpListIn_plain rfl fun K2 hK2 => zE6 (by intro c h; cases h) (zS (args := [.tmp 6, .tmp 27]) rfl Tryz.func62 (by kernel_rfl) (by kernel_rfl) ?_)
     have e6' : (a'.put (some 27) (p.1.next l).val).eval (.tmp 6) = .pointer (some ⟨g, 0, none⟩) := (jA _ _ _ _ (by decide)).trans e6
     have e27 : (a'.put (some 27) (p.1.next l).val).eval (.tmp 27) = (p.1.next l).val := zG _ _ _ (by omega)
     simp only [List.map_cons, List.map_nil]
     rw [e6', e27]
     refine (zO6 (p.1.next l) hst.2.2 ⟨hrn.u0, by have := hrn.un; omega⟩ h1 h2 (by have := hrn.on; omega) (by have := hrn.en; omega)).mono ?_
     rintro e W' ⟨rfl, hG⟩
     obtain ⟨vo', ve', -, -, M⟩ := id hG
     exact ⟨_, rfl, hK2 _ _ (wpListIn_nil ⟨rfl, M.keeps h1, hI.met (Nat.le_refl _) hbg hne hvi HIO.out hff hm hG⟩)⟩
    case done =>
     intro D p W hD hm hI hDw
     obtain ⟨vo, ve, h1, h2⟩ := hI.its.row
     have hpF := hI.its.run.done HIO.out hm
     rw [hpF] at h1 h2
     have hz := hI.res
     have hBW := hI.bel
     clear hI hpF H0
     have HD : Hid (wa.heap.size ≤ D) := hD
     clear hD
     go_wp2_with (first
      | (go_at_call 63; refine (zI6 h1 h2).mono ?_; rintro e Wa ⟨rfl, vo1, ve1, g1, Y1, M1⟩; have z1' := M1.row hz zJ hne.2; have hD1 := (M1.keeps (B := 0) h1).same D _ (Nat.zero_le _) hDw rfl; have B1 := hB5.trans ((hBW.trans (M1.below hbg (by have := hBW.size; omega))).mono h5))
      | (refine zWe rfl rfl rfl g1 ?_)
      | (refine st_s rfl rfl rfl rfl z1' (zB Y1.ow.hx) (zB Y1.ow.hy) (Y1.o.one okM) (Y1.e.one okE) ?_; rintro Wb zb ob -; have Yb := Y1.row ob z1' zJ (by decide); have Bb := zA B1 ob hgz0))
     have hDD := HD.out
     have Db : Wb.heap[D]? = some (.deferred (some [])) := (ob.block D (by omega) (Array.getElem?_eq_some_iff.1 hD1).1).trans hD1
     have hgr := grownBy_putObj' Wb D (.deferred none)
     have hrr : ∀ r, some D = some r → ∃ o : Obj, Wb.heap[r]? = some o ∧ o.isCells = false := fun r e => by cases e; exact ⟨_, Db, rfl⟩
     have zc := zDs zb hgr hrr
     have Yc := zN5 Yb hgr hrr
     have Bc := Bb.grown hgr Bb.size (fun k e => by cases e; omega)
     refine leave1 rfl Db (vQ rfl rfl zc rfl rfl ?_)
     rw [HX'.out, HS.out]
     exact ⟨⟨x6, y6, vo1, ve1, rfl, ⟨⟨Yc.ow.hx.mono h5, Yc.ow.hy.mono h5, Yc.ow.ap, Bc.size⟩, Yc.o.mono h5, Yc.e.mono h5⟩⟩, Bc⟩
   ·have HX' : Hid (r = (St.nul, false)) := show _ = _ by rw [HX.out]; exact vJ (fun h => hf h.2.2)
    obtain ⟨fin, hfin⟩ : ∃ fin, m.fin = fin := ⟨_, rfl⟩
    obtain ⟨co, hco⟩ : ∃ co, m.turn.2.1 = co := ⟨_, rfl⟩
    have HFC : Hid (m.fin = fin ∧ m.turn.2.1 = co) := ⟨hfin, hco⟩
    have hgt : 999999900 < fin := by omega
    clear hf hfin hco
    refine zCx Tryz.func12 rfl ?_
    simp only [Tryz.ntmps12, List.size_toArray, List.length_cons, List.length_nil, Nat.reduceAdd, Nat.reduceSub, Array.replicate_succ, Array.replicate_zero, List.push_toArray, List.append_toArray, List.nil_append, List.cons_append]
    go_wp2_with (first
     | (refine zP rfl rfl hv ?_; intro w0 r0 hb0; have hr0 := hr.below hb0; have ha0 := ha.below hb0; have hs0 := hs.below hb0; have oo0 := ho.below hb0)
     | (refine xV rfl rfl ?_; intro w1 z1 hb1; have r1 := r0.below hb1; have hB1 := zD hb0 hb1; have hr1 := hr0.below hb1; have ha1 := ha0.below hb1; have hs1 := hs0.below hb1; have oo1 := oo0.below hb1)
     | (refine zI rfl rfl rfl r1 ?_)
     | (go_at_call 23; refine (zX _ m _ ⟨x, y, rfl, hr1, ha1⟩).mono ?_; rw [hok]; rintro e w2 ⟨rfl, hb2⟩; have z2 := z1.below hb2; have r2 := r1.below hb2; have hB2 := zD hB1 hb2; have lz := z1.lt; have s2 := hB2.size; have s0 := hb0.size; have hs2 := hs1.below hb2; have hr2 := hr1.below hb2; have ha2 := ha1.below hb2; have t2 := hb2.size; have oo2 := oo1.below hb2)
     | (go_at_call 20; refine (xJ _ l _ hs2).mono ?_; rw [hio]; rintro e w5 ⟨rfl, hb5⟩; have z5 := z2.below hb5; have r5 := r2.below hb5; have hB5 := zD hB2 hb5; have s5 := hb5.size; have hs5 := hs2.below hb5; have hr5 := hr2.below hb5; have ha5 := ha2.below hb5; have oo5 := oo2.below hb5)
     | (refine zI rfl rfl rfl r5 ?_)
     | (go_at_call 60; refine (zIu _ m _ ⟨x, y, rfl, hr5, ha5⟩ HOK.out oo5).mono ?_; unfold Bgn; rw [HFC.out.1, HFC.out.2]; rintro e w6 ⟨x6, y6, vo6, ve6, rfl, Y6, hb6⟩; have z6 := z5.below hb6; have hB6 := zD hB5 hb6; have s6 := hb6.size; have hs6 := hs5.below hb6)
     | (refine al_g rfl rfl ?_; intro w7 g7 hb7; have z7 := z6.below hb7; have Y7 := Y6.below hb7; have hB7 := zD hB6 hb7; have s7 := hb7.size; have hs7 := hs6.below hb7; have lg7 := g7.lt)
     | (refine st_g rfl rfl rfl rfl g7 (zB Y7.ow.hx) (zB Y7.ow.hy) (Y7.o.one okM) (Y7.e.one okE) rfl ?_; rintro w8 g8 o8 -; have z8 := z7.onto o8 (by omega); have Y8 := Y7.row o8 g7 xE (by decide); have hB8 := zA hB7 o8 (by omega); have s8 := o8.size; have hs8 := zC5 hs7 o8 (fun h0 k hk => by have := hs6.lt h0 k hk; omega); have kf := (gc g8).fin)
     | (refine zFr rfl rfl ?_)
     | (refine st_s rfl rfl rfl rfl z8 rfl rfl rfl rfl ?_; rintro w3 z3 o3 -; have hB3 := zA hB8 o3 (by omega)))
    refine leave0 (vQ rfl rfl z3 rfl rfl ?_)
    rw [HX'.out]
    exact ⟨⟨_, _, _, _, rfl, zEi _ _ hB3.size⟩, hB3⟩
open Draw
section
variable {ops : Array Oper} {rest : List Oper} {op : Oper} {a : Act} {w : World} {Q : Exit → Act → World → Prop} {p : Operand} {g : Nat} {x y vo ve : Value} {s : St}
theorem zGq (hw : Region.wanted op (yielded ops a.tmps) = true) (ho : op.op = .load 36 p) (hx : a.eval p = .pointer (some ⟨g, 0, none⟩)) (hr : SRow w g x y vo ve s)
  (h : wpList Tryz.prog ops Q rest (a.put op.dst (s.val x y vo ve)) w) : wpList Tryz.prog ops Q (op :: rest) a w :=
 wpList_step fun K hK => by
  rw [if_pos hw]
  exact wp_load_row _ _ ho _ hx _ _ _ _ hr.row Tryz.underlying36 rfl zBo (hK _ _ h)
end
theorem zEl (w : World) : Calls Tryz.prog 24 #[] w fun e w' => e = .returned (.int .i64 5) ∧ w' = w := by
 go_enter Tryz.func24, Tryz.ntmps24
 go_wp2
 go_ret
 exact ⟨rfl, rfl⟩
theorem zB9 (w : World) : Calls Tryz.prog 22 #[] w fun e w' => e = .returned (.int .i64 5) ∧ w' = w := by
 go_enter Tryz.func22, Tryz.ntmps22
 go_wp2
 go_ret
 exact ⟨rfl, rfl⟩
set_option maxRecDepth 100000 in
set_option maxHeartbeats 8000000 in
theorem zOu (a : Option Addr) (len cap : Nat) (w : World) (hc : jW w a len) (ho : jK w) :
  Calls Tryz.prog 3 #[.slice a len cap] w fun e w' => e = .returned (.bool true) ∧ Below w.heap.size w w' := by
 by_cases hl : len ≤ 4096
 ·have hs : decide ((4096 : Int) < (len : Int)) = false := by simp; omega
  go_enter Tryz.func3, Tryz.ntmps3
  go_wp2_with (go_at_call 10; refine (zUy _ _ _ _).mono ?_; rintro e w0 ⟨rfl, rfl⟩; rw [hs])
  go_at_call 11
  refine (zIn a len cap _ hc hl).mono ?_
  rintro e w1 ⟨x, y, M, v, l, rfl, hm_1, hl_1, hn1, hB_1⟩
  have mr_1 := hm_1.s1
  have ma_1 := hm_1.s2
  have li_1 := hl_1.sl okM
  have one_x := zE0 mr_1
  have one_y := zE0 ma_1
  have hlone := li_1.one
  obtain ⟨S, b, hSb⟩ : ∃ S b, stepOf M l = (S, b) := ⟨_, _, rfl⟩
  have HS : Hid (stepOf M l = (S, b)) := hSb
  have HL : Hid (l.length ≤ 300) := hn1
  clear hSb hn1 hm_1 hl_1
  go_wp2_with (first
   | (refine zR rfl rfl ?_; intro w2 z2 hb2)
   | (refine zL rfl rfl rfl rfl z2 one_x one_y ?_; rintro w3 A_3 o3 -; have hn3 := zEk hb2 o3; have mr_3 := mr_1.below hn3; have ma_3 := ma_1.below hn3; have li_3 := li_1.below hn3; have hB_3 := zD hB_1 hn3)
   | (refine zI rfl rfl rfl A_3 ?_))
  go_at_call 12
  refine (zLa _ _ M l _ ⟨x, y, rfl, mr_3, ma_3⟩ li_3 (ho.below hB_3)).mono ?_
  rw [HS.out]
  rintro e w4 ⟨⟨xg, yg, og, eg, rfl, Y4⟩, hb4⟩
  have mr_4 := mr_3.below hb4
  have ma_4 := ma_3.below hb4
  have li_4 := li_3.below hb4
  have A_4 := A_3.below hb4
  have hB_4 := zD hB_3 hb4
  have sp_4 := Y4.sr
  have hone4 : xg.oneCell' = true ∧ yg.oneCell' = true ∧ og.oneCell' = true ∧ eg.oneCell' = true := ⟨zB Y4.ow.hx, zB Y4.ow.hy, Y4.o.one okM, Y4.e.one okE⟩
  clear Y4 A_3 mr_3 ma_3 li_3 mr_1 ma_1 li_1
  go_wp2_with (first
   | (refine xV rfl rfl ?_; intro w5 z5 hb5)
   | (refine st_s rfl rfl rfl rfl z5 hone4.1 hone4.2.1 hone4.2.2.1 hone4.2.2.2 ?_; rintro w6 P_6 o6 -; have hn6 := zEk hb5 o6; have mr_6 := mr_4.below hn6; have ma_6 := ma_4.below hn6; have li_6 := li_4.below hn6; have A_6 := A_4.below hn6; have sp_6 := sp_4.below hn6; have hB_6 := zD hB_4 hn6)
   | (refine zI rfl rfl rfl A_6 ?_))
  clear A_4 mr_4 ma_4 li_4 sp_4
  go_at_call 13
  refine (zK9 _ _ M l _ ⟨x, y, rfl, mr_6, ma_6⟩ li_6).mono ?_
  rw [HS.out]
  rintro e w7 ⟨⟨xp, yp, op, ep, rfl, Y7⟩, hb7⟩
  have mr_7 := mr_6.below hb7
  have ma_7 := ma_6.below hb7
  have li_7 := li_6.below hb7
  have A_7 := A_6.below hb7
  have sp_7 := sp_6.below hb7
  have P_7 := P_6.below hb7
  have hB_7 := zD hB_6 hb7
  have sq_7 := Y7.sr
  have hone7 : xp.oneCell' = true ∧ yp.oneCell' = true ∧ op.oneCell' = true ∧ ep.oneCell' = true := ⟨zB Y7.ow.hx, zB Y7.ow.hy, Y7.o.one okM, Y7.e.one okE⟩
  clear Y7 A_6 mr_6 ma_6 li_6 sp_6 P_6
  go_wp2_with (first
   | (refine xV rfl rfl ?_; intro w8 z8 hb8)
   | (refine st_s rfl rfl rfl rfl z8 hone7.1 hone7.2.1 hone7.2.2.1 hone7.2.2.2 ?_; rintro w9 Q_9 o9 -; have hn9 := zEk hb8 o9; have mr_9 := mr_7.below hn9; have ma_9 := ma_7.below hn9; have li_9 := li_7.below hn9; have A_9 := A_7.below hn9; have sp_9 := sp_7.below hn9; have P_9 := P_7.below hn9; have sq_9 := sq_7.below hn9; have hB_9 := zD hB_7 hn9))
  clear A_7 mr_7 ma_7 li_7 sp_7 P_7 sq_7
  go_at_call 14
  refine (zFo a len cap _ (hc.below hB_9) hl).mono ?_
  rintro e w10 ⟨vL, L, mm, rfl, hL10, hLn, hb10⟩
  have mr_10 := mr_9.below hb10
  have ma_10 := ma_9.below hb10
  have li_10 := li_9.below hb10
  have A_10 := A_9.below hb10
  have sp_10 := sp_9.below hb10
  have P_10 := P_9.below hb10
  have sq_10 := sq_9.below hb10
  have Q_10 := Q_9.below hb10
  have hB_10 := zD hB_9 hb10
  have lL_10 := hL10.sl okM
  have hLone := lL_10.one
  obtain ⟨XL, c, hXc⟩ : ∃ XL c, xL L mm = (XL, c) := ⟨_, _, rfl⟩
  have HI : Hid (xL L mm = (XL, c)) := hXc
  clear hXc hL10 A_9 mr_9 ma_9 li_9 sp_9 P_9 sq_9 Q_9
  go_wp2_with (first
   | (refine zFs rfl rfl ?_; intro w11 z11 hb11)
   | (refine zC4 (m := mm) rfl rfl rfl rfl z11 ?_; rintro w12 N_12 o12; have hn12 := zEk hb11 o12; have mr_12 := mr_10.below hn12; have ma_12 := ma_10.below hn12; have li_12 := li_10.below hn12; have A_12 := A_10.below hn12; have sp_12 := sp_10.below hn12; have P_12 := P_10.below hn12; have sq_12 := sq_10.below hn12; have Q_12 := Q_10.below hn12; have lL_12 := lL_10.below hn12; have hB_12 := zD hB_10 hn12)
   | (refine zFk rfl rfl rfl N_12 ?_))
  clear A_10 mr_10 ma_10 li_10 sp_10 P_10 sq_10 Q_10 lL_10
  go_at_call 15
  refine (zIf _ L mm _ lL_12).mono ?_
  rw [HI.out]
  rintro e w13 ⟨vX, rfl, hX13, hb13⟩
  have mr_13 := mr_12.below hb13
  have ma_13 := ma_12.below hb13
  have li_13 := li_12.below hb13
  have A_13 := A_12.below hb13
  have sp_13 := sp_12.below hb13
  have P_13 := P_12.below hb13
  have sq_13 := sq_12.below hb13
  have Q_13 := Q_12.below hb13
  have lL_13 := lL_12.below hb13
  have N_13 := N_12.below hb13
  have hB_13 := zD hB_12 hb13
  have lX_13 := hX13.sl okM
  have hXone := lX_13.one
  clear hX13 A_12 mr_12 ma_12 li_12 sp_12 P_12 sq_12 Q_12 lL_12 N_12
  go_wp2_with (refine zFk rfl rfl rfl N_13 ?_)
  go_at_call 16
  refine (zIe _ L mm _ lL_13).mono ?_
  rw [HI.out]
  rintro e w14 ⟨vY, rfl, hY14, hb14⟩
  have mr_14 := mr_13.below hb14
  have ma_14 := ma_13.below hb14
  have li_14 := li_13.below hb14
  have A_14 := A_13.below hb14
  have sp_14 := sp_13.below hb14
  have P_14 := P_13.below hb14
  have sq_14 := sq_13.below hb14
  have Q_14 := Q_13.below hb14
  have lL_14 := lL_13.below hb14
  have N_14 := N_13.below hb14
  have lX_14 := lX_13.below hb14
  have hB_14 := zD hB_13 hb14
  have lY_14 := hY14.sl okM
  have hYone := lY_14.one
  clear hY14 A_13 mr_13 ma_13 li_13 sp_13 P_13 sq_13 Q_13 lL_13 N_13 lX_13
  go_wp2_with fail
  go_at_call 17
  refine (zG8 a len cap _ (hc.below hB_14) hl).mono ?_
  rintro e w15 ⟨vE, E, rfl, hE15, hEn, hb15⟩
  have mr_15 := mr_14.below hb15
  have ma_15 := ma_14.below hb15
  have li_15 := li_14.below hb15
  have A_15 := A_14.below hb15
  have sp_15 := sp_14.below hb15
  have P_15 := P_14.below hb15
  have sq_15 := sq_14.below hb15
  have Q_15 := Q_14.below hb15
  have lL_15 := lL_14.below hb15
  have N_15 := N_14.below hb15
  have lX_15 := lX_14.below hb15
  have lY_15 := lY_14.below hb15
  have hB_15 := zD hB_14 hb15
  have lE_15 := hE15.sl okM
  have hEone := lE_15.one
  clear hE15 A_14 mr_14 ma_14 li_14 sp_14 P_14 sq_14 Q_14 lL_14 N_14 lX_14 lY_14
  obtain ⟨q, hq⟩ : ∃ q, qH E = q := ⟨_, rfl⟩
  have HQ : Hid (qH E = q) := hq
  clear hq
  have nb : (b != b) = false := by simp
  have nc : (c != c) = false := by simp
  have nq : (q != q) = false := by simp
  cases c
  ·cases b
   ·have HS : Hid (stepOf M l = (S, false)) := HS
    have hS : S = St.nul := by
     by_cases hc : M.ok = true ∧ qH l = true ∧ M.fin ≤ 999999900
     ·have := HS.out; rw [zBe hc.1 hc.2.1 hc.2.2] at this; cases this
     ·have := HS.out; rw [vJ hc] at this; exact (congrArg Prod.fst this).symm
    have HN : Hid (S.m.rom.length = 0 ∧ S.o.length = 0) := by rw [hS]; exact ⟨rfl, rfl⟩
    clear hS
    obtain ⟨aR, cR, rfl, -, hRc, hRm, -⟩ := id sp_15.x
    obtain ⟨aO, cO, rfl, -, hOc, hOm, -⟩ := id sp_15.o
    unfold maxLen at hRm hOm
    have hr0 : ((S.m.rom.length : Int) == 0) = true := by rw [HN.out.1]; rfl
    have ho0 : ((S.o.length : Int) == 0) = true := by rw [HN.out.2]; rfl
    go_wp2_with (first
     | (refine zGq rfl rfl rfl P_15 ?_)
     | (refine zGq rfl rfl rfl Q_15 ?_)
     | (go_at_call 18; refine (zBn _ _ (.slice aR S.m.rom.length cR) yg (.slice aO S.o.length cO) eg xp yp op ep S _ rfl rfl sp_15 sq_15).mono ?_; rintro e w16 ⟨rfl, hb16⟩; have mr_16 := mr_15.below hb16; have ma_16 := ma_15.below hb16; have li_16 := li_15.below hb16; have A_16 := A_15.below hb16; have sp_16 := sp_15.below hb16; have P_16 := P_15.below hb16; have sq_16 := sq_15.below hb16; have Q_16 := Q_15.below hb16; have lL_16 := lL_15.below hb16; have N_16 := N_15.below hb16; have lX_16 := lX_15.below hb16; have lY_16 := lY_15.below hb16; have lE_16 := lE_15.below hb16; have hB_16 := zD hB_15 hb16; clear mr_15 ma_15 li_15 A_15 sp_15 P_15 sq_15 Q_15 lL_15 N_15 lX_15 lY_15 lE_15)
     | (go_at_call 19; refine (zAq _ _ XL _ lX_16 lY_16).mono ?_; rintro e w17 ⟨rfl, hb17⟩; have mr_17 := mr_16.below hb17; have ma_17 := ma_16.below hb17; have li_17 := li_16.below hb17; have A_17 := A_16.below hb17; have sp_17 := sp_16.below hb17; have P_17 := P_16.below hb17; have sq_17 := sq_16.below hb17; have Q_17 := Q_16.below hb17; have lL_17 := lL_16.below hb17; have N_17 := N_16.below hb17; have lX_17 := lX_16.below hb17; have lY_17 := lY_16.below hb17; have lE_17 := lE_16.below hb17; have hB_17 := zD hB_16 hb17; clear mr_16 ma_16 li_16 A_16 sp_16 P_16 sq_16 Q_16 lL_16 N_16 lX_16 lY_16 lE_16)
     | (go_at_call 20; refine (xJ _ E _ lE_17).mono ?_; rw [HQ.out]; rintro e w18 ⟨rfl, hb18⟩; have mr_18 := mr_17.below hb18; have ma_18 := ma_17.below hb18; have li_18 := li_17.below hb18; have A_18 := A_17.below hb18; have sp_18 := sp_17.below hb18; have P_18 := P_17.below hb18; have sq_18 := sq_17.below hb18; have Q_18 := Q_17.below hb18; have lL_18 := lL_17.below hb18; have N_18 := N_17.below hb18; have lX_18 := lX_17.below hb18; have lY_18 := lY_17.below hb18; have lE_18 := lE_17.below hb18; have hB_18 := zD hB_17 hb18; clear mr_17 ma_17 li_17 A_17 sp_17 P_17 sq_17 Q_17 lL_17 N_17 lX_17 lY_17 lE_17)
     | (go_at_call 21; refine (xU _ E _ lE_18).mono ?_; rw [HQ.out]; rintro e w19 ⟨rfl, hb19⟩; have mr_19 := mr_18.below hb19; have ma_19 := ma_18.below hb19; have li_19 := li_18.below hb19; have A_19 := A_18.below hb19; have sp_19 := sp_18.below hb19; have P_19 := P_18.below hb19; have sq_19 := sq_18.below hb19; have Q_19 := Q_18.below hb19; have lL_19 := lL_18.below hb19; have N_19 := N_18.below hb19; have lX_19 := lX_18.below hb19; have lY_19 := lY_18.below hb19; have lE_19 := lE_18.below hb19; have hB_19 := zD hB_18 hb19; have k0 : w19.cell? ⟨w4.heap.size, 0, none⟩ = some (.slice aR S.m.rom.length cR) := P_19.cell 0; have k25 : w19.cell? ⟨w4.heap.size, 25, none⟩ = some (.slice aO S.o.length cO) := (sw P_19).o; clear mr_18 ma_18 li_18 A_18 sp_18 P_18 sq_18 Q_18 lL_18 N_18 lX_18 lY_18 lE_18))
    go_ret
    exact ⟨rfl, hB_19⟩
   ·have HS : Hid (stepOf M l = (S, true)) := HS
    obtain ⟨fin, hfin⟩ : ∃ fin, M.fin = fin := ⟨_, rfl⟩
    have hD : M.ok = true ∧ qH l = true ∧ fin ≤ 999999900 ∧ S = M.stepped l := by
     by_cases hc : M.ok = true ∧ qH l = true ∧ M.fin ≤ 999999900
     ·have := HS.out; rw [zBe hc.1 hc.2.1 hc.2.2] at this; exact ⟨hc.1, hc.2.1, hfin ▸ hc.2.2, (congrArg Prod.fst this).symm⟩
     ·have := HS.out; rw [vJ hc] at this; cases this
    obtain ⟨hD1, hD2, hD3, hD4⟩ := hD
    have hd := zB2 hD1 hD2 (by rw [hfin]; exact hD3)
    have hdk : S.m.k = fin := by rw [hD4, hd.k, hfin]
    have hdc : S.m.t.c = fin := by rw [hD4, hd.c, hfin]
    have hdlo : M.k < fin := by rw [← hfin]; exact hd.lo
    have hdhi : fin ≤ M.k + 5 := by rw [← hfin]; exact hd.hi
    have hm0 : 0 ≤ M.k := by have h1 := (okm.1 hD1).k; have h2 := (Tm.ok_true (okm.1 hD1).t).1; omega
    obtain ⟨j, hj⟩ : ∃ j : Nat, S.u = (j : Int) := ⟨S.u.toNat, by have := hd.u0; rw [← hD4] at this; omega⟩
    have hju : j ≤ l.length := by have := hd.u1; rw [← hD4] at this; omega
    have HNX : Hid (j < l.length → fin < (M3.at' l j).t) := show _ → _ from fun h => by have := hd.nx; rw [← hD4, hfin, hj] at this; have h3 := this (by omega); simpa using h3
    have HSO : Hid (∀ y ∈ S.o, y.t ≤ fin + 8 ∧ y.k ≠ 3) := show ∀ _, _ from fun y hy => by have := hd.o y (by rw [← hD4]; exact hy); rw [hfin] at this; exact this
    have HOK : Hid (S.m.ok = true) := by have := hd.ok; rw [← hD4] at this; exact this
    have HKC : Hid (S.m.k = fin ∧ S.m.t.c = fin ∧ S.u = (j : Int)) := ⟨hdk, hdc, hj⟩
    clear hd hD1 hD2 hD4 hdk hdc hj hfin
    obtain ⟨al, cl, rfl, -, hlc, hlm, -⟩ := id li_15
    obtain ⟨aO, cO, rfl, -, hOc, hOm, -⟩ := id sp_15.o
    unfold maxLen at hlm hOm
    go_wp2_with (first
     | (refine zGq rfl rfl rfl P_15 ?_)
     | (refine zGq rfl rfl rfl Q_15 ?_)
     | (go_at_call 18; refine (zBn _ _ xg yg (.slice aO S.o.length cO) eg xp yp op ep S _ rfl rfl sp_15 sq_15).mono ?_; rintro e w16 ⟨rfl, hb16⟩; have mr_16 := mr_15.below hb16; have ma_16 := ma_15.below hb16; have li_16 := li_15.below hb16; have A_16 := A_15.below hb16; have sp_16 := sp_15.below hb16; have P_16 := P_15.below hb16; have sq_16 := sq_15.below hb16; have Q_16 := Q_15.below hb16; have lL_16 := lL_15.below hb16; have N_16 := N_15.below hb16; have lX_16 := lX_15.below hb16; have lY_16 := lY_15.below hb16; have lE_16 := lE_15.below hb16; have hB_16 := zD hB_15 hb16; clear mr_15 ma_15 li_15 A_15 sp_15 P_15 sq_15 Q_15 lL_15 N_15 lX_15 lY_15 lE_15)
     | (go_at_call 19; refine (zAq _ _ XL _ lX_16 lY_16).mono ?_; rintro e w17 ⟨rfl, hb17⟩; have mr_17 := mr_16.below hb17; have ma_17 := ma_16.below hb17; have li_17 := li_16.below hb17; have A_17 := A_16.below hb17; have sp_17 := sp_16.below hb17; have P_17 := P_16.below hb17; have sq_17 := sq_16.below hb17; have Q_17 := Q_16.below hb17; have lL_17 := lL_16.below hb17; have N_17 := N_16.below hb17; have lX_17 := lX_16.below hb17; have lY_17 := lY_16.below hb17; have lE_17 := lE_16.below hb17; have hB_17 := zD hB_16 hb17; clear mr_16 ma_16 li_16 A_16 sp_16 P_16 sq_16 Q_16 lL_16 N_16 lX_16 lY_16 lE_16)
     | (go_at_call 20; refine (xJ _ E _ lE_17).mono ?_; rw [HQ.out]; rintro e w18 ⟨rfl, hb18⟩; have mr_18 := mr_17.below hb18; have ma_18 := ma_17.below hb18; have li_18 := li_17.below hb18; have A_18 := A_17.below hb18; have sp_18 := sp_17.below hb18; have P_18 := P_17.below hb18; have sq_18 := sq_17.below hb18; have Q_18 := Q_17.below hb18; have lL_18 := lL_17.below hb18; have N_18 := N_17.below hb18; have lX_18 := lX_17.below hb18; have lY_18 := lY_17.below hb18; have lE_18 := lE_17.below hb18; have hB_18 := zD hB_17 hb18; clear mr_17 ma_17 li_17 A_17 sp_17 P_17 sq_17 Q_17 lL_17 N_17 lX_17 lY_17 lE_17)
     | (go_at_call 21; refine (xU _ E _ lE_18).mono ?_; rw [HQ.out]; rintro e w19 ⟨rfl, hb19⟩; have mr_19 := mr_18.below hb19; have ma_19 := ma_18.below hb19; have li_19 := li_18.below hb19; have A_19 := A_18.below hb19; have sp_19 := sp_18.below hb19; have P_19 := P_18.below hb19; have sq_19 := sq_18.below hb19; have Q_19 := Q_18.below hb19; have lL_19 := lL_18.below hb19; have N_19 := N_18.below hb19; have lX_19 := lX_18.below hb19; have lY_19 := lY_18.below hb19; have lE_19 := lE_18.below hb19; have hB_19 := zD hB_18 hb19; have k24 : w19.cell? ⟨w4.heap.size, 24, none⟩ = some (.int .i64 fin) := (by have := (sw P_19).k; rwa [HKC.out.1] at this); clear mr_18 ma_18 li_18 A_18 sp_18 P_18 sq_18 Q_18 lL_18 N_18 lX_18 lY_18 lE_18))
    refine qD (by kernel_rfl) (by kernel_rfl) 0 (by decide) (by kernel_rfl) (fun _ W => Below w19.heap.size w19 W) [.int .i64 fin, pt w1.heap.size 24, .int .i64 M.k, .bool false, .bool false, .int .i64 fin, pt w1.heap.size 24, .int .i64 M.k, .int .i64 5, .int .i64 (M.k + 5), .bool false, .bool false, .bool false, pt w4.heap.size 0, pt w4.heap.size 14, pt w4.heap.size 14, .int .i64 fin, .int .i64 fin, .bool false, .bool false, .bool false, pt w4.heap.size 27, .int .i64 (j : Int), .slice al l.length cl, .int .i64 (l.length : Int), .bool false, .bool false] ((Below.refl _ _).drew) ?step ?done
    case step =>
     intro L ix o' A W hj hI hL hd
     have hin : ix < 27 := qB hj
     have hsz : A.tmps.size = 188 := hI.size
     have hg := hI.g
     rcases ix with _ | _ | _ | _ | _ | _ | _ | _ | _ | _ | _ | _ | _ | _ | _ | _ | _ | _ | _ | _ | _ | _ | _ | _ | _ | _ | _ | ix
     ·cases hj; exact am rfl rfl rfl (kv (hI.ol 16 rfl) hg)
     ·cases hj; exact zC rfl rfl (zH (x := .tmp 3) (hI.ol 3 rfl) rfl (by kernel_rfl) (kk hg))
     ·cases hj; exact zC rfl rfl (zN rfl Tryz.underlying2 (hI.vl hd 1 rfl) (cw (A_19.below hg)).k (kk hg))
     ·cases hj; exact zC rfl rfl (qP (v := .bool false) rfl (hI.vl hd 0 rfl) (hI.vl hd 2 rfl) (fun w => by simp [go_sem]; omega) (kk hg))
     ·cases hj; exact am rfl rfl rfl (kv (hI.vl hd 3 rfl) hg)
     ·cases hj; exact ag rfl rfl (hI.vl hd 4 rfl) (qR rfl (kv (hI.ol 16 rfl) hg))
     ·cases hj; exact ag rfl rfl (hI.vl hd 4 rfl) (zH (x := .tmp 3) (hI.ol 3 rfl) rfl (by kernel_rfl) (kk hg))
     ·cases hj; exact ag rfl rfl (hI.vl hd 4 rfl) (zN rfl Tryz.underlying2 (hI.vl hd 6 rfl) (cw (A_19.below hg)).k (kk hg))
     ·cases hj; have hgv : A.tmps.getD 117 undef = .bool false := hI.vl hd 4 rfl
      refine ag rfl rfl hgv (zS (args := []) rfl Tryz.func22 (by kernel_rfl) (by kernel_rfl) ?_)
      refine (zB9 W).mono ?_
      rintro e W1 ⟨rfl, rfl⟩
      exact ⟨_, rfl, _, rfl, rfl, hg⟩
     ·cases hj; exact ag rfl rfl (hI.vl hd 4 rfl) (qP rfl (hI.vl hd 7 rfl) (hI.vl hd 8 rfl) (fun w => addN (by kernel_rfl) _ _ _ _ w (by omega) (by omega)) (kk hg))
     ·cases hj; exact ag rfl rfl (hI.vl hd 4 rfl) (qP (v := .bool false) rfl (hI.vl hd 5 rfl) (hI.vl hd 9 rfl) (fun w => by simp [go_sem]; omega) (kk hg))
     ·cases hj; exact zC rfl rfl (xH rfl (hI.vl hd 4 rfl) (kv ((hI.vl hd 10 rfl)) hg))
     ·cases hj; exact am rfl rfl rfl (kv (hI.vl hd 11 rfl) hg)
     ·cases hj; exact ag rfl rfl (hI.vl hd 12 rfl) (zH (x := .tmp 5) (hI.ol 5 rfl) rfl (by kernel_rfl) (kk hg))
     ·cases hj; exact ag rfl rfl (hI.vl hd 12 rfl) (zH (hI.vl hd 13 rfl) rfl (by kernel_rfl) (kk hg))
     ·cases hj; exact ag rfl rfl (hI.vl hd 12 rfl) (zH (hI.vl hd 14 rfl) rfl (by kernel_rfl) (kk hg))
     ·cases hj; exact ag rfl rfl (hI.vl hd 12 rfl) (zN rfl Tryz.underlying2 (hI.vl hd 15 rfl) (by have : W.cell? ⟨w4.heap.size, 14, none⟩ = some (.int .i64 S.m.t.c) := (P_19.below hg).cell 14; rwa [HKC.out.2.1] at this) (kk hg))
     ·cases hj; exact ag rfl rfl (hI.vl hd 12 rfl) (qR rfl (kv (hI.ol 16 rfl) hg))
     ·cases hj; exact ag rfl rfl (hI.vl hd 12 rfl) (qP (v := .bool false) rfl (hI.vl hd 16 rfl) (hI.vl hd 17 rfl) (fun w => by simp [go_sem]) (kk hg))
     ·cases hj; exact zC rfl rfl (xH rfl (hI.vl hd 12 rfl) (kv ((hI.vl hd 18 rfl)) hg))
     ·cases hj; exact am rfl rfl rfl (kv (hI.vl hd 19 rfl) hg)
     ·cases hj; exact ag rfl rfl (hI.vl hd 20 rfl) (zH (x := .tmp 5) (hI.ol 5 rfl) rfl (by kernel_rfl) (kk hg))
     ·cases hj; exact ag rfl rfl (hI.vl hd 20 rfl) (zN rfl Tryz.underlying2 (hI.vl hd 21 rfl) (by have := (sw (P_19.below hg)).u; rwa [HKC.out.2.2] at this) (kk hg))
     ·cases hj; exact ag rfl rfl (hI.vl hd 20 rfl) (qR rfl (kv (hI.ol 4 rfl) hg))
     ·cases hj; exact ag rfl rfl (hI.vl hd 20 rfl) (zA7 rfl (hI.vl hd 23 rfl) (kk hg))
     ·cases hj; exact ag rfl rfl (hI.vl hd 20 rfl) (qP (v := .bool false) rfl (hI.vl hd 22 rfl) (hI.vl hd 24 rfl) (fun w => by simp [go_sem]; omega) (kk hg))
     ·cases hj; exact zC rfl rfl (xH rfl (hI.vl hd 20 rfl) (kv ((hI.vl hd 25 rfl)) hg))
     omega
    case done =>
     intro A W hI
     have hg := hI.g
     have s139 := hI.ls 26 rfl rfl
     have hA := hI.frame [113, 114, 115, 116, 117, 118, 119, 120, 121, 122, 123, 124, 125, 126, 127, 128, 129, 130, 131, 132, 133, 134, 135, 136, 137, 138, 139] (by kernel_rfl)
     rw [hA]
     simp only [qJ, List.foldl_cons, List.foldl_nil, s139, Act.put, List.setIfInBounds_toArray, List.set_cons_zero, List.set_cons_succ]
     clear hA hI s139
     have P_W := P_19.below hg
     have sp_W := sp_19.below hg
     have li_W := li_19.below hg
     have hB_W := zD hB_19 hg
     have k27 : W.cell? ⟨w4.heap.size, 27, none⟩ = some (.int .i64 (j : Int)) := by have := (sw P_W).u; rwa [HKC.out.2.2] at this
     have k25 : W.cell? ⟨w4.heap.size, 25, none⟩ = some (.slice aO S.o.length cO) := (sw P_W).o
     clear mr_19 ma_19 li_19 A_19 sp_19 P_19 sq_19 Q_19 lL_19 N_19 lX_19 lY_19 lE_19 hg
     by_cases hlt : j < l.length
     ·obtain ⟨bv, offv, cv, e, -, -, -⟩ := li_W.shape (by omega)
      simp only [Value.slice.injEq] at e
      obtain ⟨rfl, -, rfl⟩ := e
      obtain ⟨tt, htt⟩ : ∃ tt, (M3.at' l j).t = tt := ⟨_, rfl⟩
      have c0 : W.cell? ⟨bv, offv + j * 3, none⟩ = some (.int .i64 tt) := by rw [← htt]; exact li_W.cell okM (qM hlt) (j := 0) (by decide)
      have hnx := HNX.out hlt
      rw [htt] at hnx
      clear htt
      go_wp2_with fail
      clear hnx c0 hlt
      try simp only [Array.getD_eq_getD_getElem?]
      go_loopw [17] (fun iv wr => ∃ k : Nat, k ≤ S.o.length ∧ iv = .int .i64 (k : Int) ∧ wr = W) (fun iv _ => S.o.length - (intOf iv).toNat)
      case atStart => exact ⟨0, Nat.zero_le _, rfl, rfl⟩
      case round =>
       obtain ⟨k, hk, rfl, rfl⟩ := hrel
       by_cases hko : k < S.o.length
       ·obtain ⟨b2, off2, c2, e, -, -, -⟩ := sp_W.o.shape (by omega)
        simp only [Value.slice.injEq] at e
        obtain ⟨rfl, -, rfl⟩ := e
        obtain ⟨ot, ok', ov, hom⟩ : ∃ ot ok' ov, M3.at' S.o k = ⟨ot, ok', ov⟩ := ⟨_, _, _, rfl⟩
        have hob := HSO.out (M3.at' S.o k) (List.mem_of_getElem? (qM hko))
        have d0 := sp_W.o.cell okM (qM hko) (j := 0) (by decide)
        have d1 := sp_W.o.cell okM (qM hko) (j := 1) (by decide)
        rw [hom] at hob d0 d1
        have hot : ot ≤ fin + 8 := hob.1
        have hok3 : (ok' == 3) = false := by have : ok' ≠ 3 := hob.2; simpa using this
        have e0 : wr.cell? ⟨b2, off2 + k * fM.n, none⟩ = some (.int .i64 ot) := d0
        have e1 : wr.cell? ⟨b2, off2 + k * 3 + 1, none⟩ = some (.int .i64 ok') := d1
        clear hom hob d0 d1
        go_wp2_with (refine ixF okM (r := k) rfl rfl rfl rfl hko ?_)
        go_roundw
        case rel => exact ⟨k + 1, by omega, by go_num, by first | rfl | trivial⟩
        case measure => simp [intOf]; omega
       ·go_wp2_with (first
         | (refine zJ1 rfl rfl rfl P_W ?_)
         | (go_at_call 23; refine (zX _ S.m _ ⟨xg, yg, rfl, sp_W.x, sp_W.y⟩).mono ?_; rw [HOK.out]; rintro e w30 ⟨rfl, hb30⟩; have hB_30 := zD hB_W hb30)
         | (go_at_call 22; refine (zB9 _).mono ?_; rintro e w31 ⟨rfl, rfl⟩)
         | (go_at_call 24; refine (zEl _).mono ?_; rintro e w32 ⟨rfl, rfl⟩))
        go_ret
        exact ⟨by kernel_rfl, hB_30⟩
     ·go_wp2_with fail
      try simp only [Array.getD_eq_getD_getElem?]
      go_loopw [17] (fun iv wr => ∃ k : Nat, k ≤ S.o.length ∧ iv = .int .i64 (k : Int) ∧ wr = W) (fun iv _ => S.o.length - (intOf iv).toNat)
      case atStart => exact ⟨0, Nat.zero_le _, rfl, rfl⟩
      case round =>
       obtain ⟨k, hk, rfl, rfl⟩ := hrel
       by_cases hko : k < S.o.length
       ·obtain ⟨b2, off2, c2, e, -, -, -⟩ := sp_W.o.shape (by omega)
        simp only [Value.slice.injEq] at e
        obtain ⟨rfl, -, rfl⟩ := e
        obtain ⟨ot, ok', ov, hom⟩ : ∃ ot ok' ov, M3.at' S.o k = ⟨ot, ok', ov⟩ := ⟨_, _, _, rfl⟩
        have hob := HSO.out (M3.at' S.o k) (List.mem_of_getElem? (qM hko))
        have d0 := sp_W.o.cell okM (qM hko) (j := 0) (by decide)
        have d1 := sp_W.o.cell okM (qM hko) (j := 1) (by decide)
        rw [hom] at hob d0 d1
        have hot : ot ≤ fin + 8 := hob.1
        have hok3 : (ok' == 3) = false := by have : ok' ≠ 3 := hob.2; simpa using this
        have e0 : wr.cell? ⟨b2, off2 + k * fM.n, none⟩ = some (.int .i64 ot) := d0
        have e1 : wr.cell? ⟨b2, off2 + k * 3 + 1, none⟩ = some (.int .i64 ok') := d1
        clear hom hob d0 d1
        go_wp2_with (refine ixF okM (r := k) rfl rfl rfl rfl hko ?_)
        go_roundw
        case rel => exact ⟨k + 1, by omega, by go_num, by first | rfl | trivial⟩
        case measure => simp [intOf]; omega
       ·go_wp2_with (first
         | (refine zJ1 rfl rfl rfl P_W ?_)
         | (go_at_call 23; refine (zX _ S.m _ ⟨xg, yg, rfl, sp_W.x, sp_W.y⟩).mono ?_; rw [HOK.out]; rintro e w30 ⟨rfl, hb30⟩; have hB_30 := zD hB_W hb30)
         | (go_at_call 22; refine (zB9 _).mono ?_; rintro e w31 ⟨rfl, rfl⟩)
         | (go_at_call 24; refine (zEl _).mono ?_; rintro e w32 ⟨rfl, rfl⟩))
        go_ret
        exact ⟨by kernel_rfl, hB_30⟩
  ·cases b
   ·have HS : Hid (stepOf M l = (S, false)) := HS
    have hS : S = St.nul := by
     by_cases hc : M.ok = true ∧ qH l = true ∧ M.fin ≤ 999999900
     ·have := HS.out; rw [zBe hc.1 hc.2.1 hc.2.2] at this; cases this
     ·have := HS.out; rw [vJ hc] at this; exact (congrArg Prod.fst this).symm
    have HN : Hid (S.m.rom.length = 0 ∧ S.o.length = 0) := by rw [hS]; exact ⟨rfl, rfl⟩
    clear hS
    obtain ⟨aR, cR, rfl, -, hRc, hRm, -⟩ := id sp_15.x
    obtain ⟨aO, cO, rfl, -, hOc, hOm, -⟩ := id sp_15.o
    unfold maxLen at hRm hOm
    have hr0 : ((S.m.rom.length : Int) == 0) = true := by rw [HN.out.1]; rfl
    have ho0 : ((S.o.length : Int) == 0) = true := by rw [HN.out.2]; rfl
    have hX : qH XL = true ∧ XL.length = L.length + 1 := by
     have h := HI.out
     unfold xL at h
     split at h
     ·rename_i h1
      split at h
      ·cases h
      ·rename_i h2
       simp only [Bool.or_eq_true, decide_eq_true_eq, Bool.not_eq_true', not_or] at h2
       have e : XL = zBc L mm := (congrArg Prod.fst h).symm
       rw [e]
       exact ⟨zN1 h1 (by omega) (by simpa using h2.2), zE7 L mm⟩
     ·cases h
    have HXK : Hid (qH XL = true) := hX.1
    have hXn := hX.2
    clear hX
    obtain ⟨aX, cX, rfl, -, hXc, hXm, -⟩ := id lX_15
    obtain ⟨aL, cL, rfl, -, hLc, hLm, -⟩ := id lL_15
    unfold maxLen at hXm hLm
    have hXe : ((XL.length : Int) != (L.length : Int) + 1) = false := by simp; omega
    clear hXn
    go_wp2_with (first
     | (go_at_call 20; refine (xJ _ XL _ lX_19).mono ?_; rw [HXK.out]; rintro e w20 ⟨rfl, hb20⟩; have mr_20 := mr_19.below hb20; have ma_20 := ma_19.below hb20; have li_20 := li_19.below hb20; have A_20 := A_19.below hb20; have sp_20 := sp_19.below hb20; have P_20 := P_19.below hb20; have sq_20 := sq_19.below hb20; have Q_20 := Q_19.below hb20; have lL_20 := lL_19.below hb20; have N_20 := N_19.below hb20; have lX_20 := lX_19.below hb20; have lY_20 := lY_19.below hb20; have lE_20 := lE_19.below hb20; have hB_20 := zD hB_19 hb20; have k0 : w20.cell? ⟨w4.heap.size, 0, none⟩ = some (.slice aR S.m.rom.length cR) := P_20.cell 0; have k25 : w20.cell? ⟨w4.heap.size, 25, none⟩ = some (.slice aO S.o.length cO) := (sw P_20).o; clear mr_19 ma_19 li_19 A_19 sp_19 P_19 sq_19 Q_19 lL_19 N_19 lX_19 lY_19 lE_19)
     | (refine zGq rfl rfl rfl P_15 ?_)
     | (refine zGq rfl rfl rfl Q_15 ?_)
     | (go_at_call 18; refine (zBn _ _ (.slice aR S.m.rom.length cR) yg (.slice aO S.o.length cO) eg xp yp op ep S _ rfl rfl sp_15 sq_15).mono ?_; rintro e w16 ⟨rfl, hb16⟩; have mr_16 := mr_15.below hb16; have ma_16 := ma_15.below hb16; have li_16 := li_15.below hb16; have A_16 := A_15.below hb16; have sp_16 := sp_15.below hb16; have P_16 := P_15.below hb16; have sq_16 := sq_15.below hb16; have Q_16 := Q_15.below hb16; have lL_16 := lL_15.below hb16; have N_16 := N_15.below hb16; have lX_16 := lX_15.below hb16; have lY_16 := lY_15.below hb16; have lE_16 := lE_15.below hb16; have hB_16 := zD hB_15 hb16; clear mr_15 ma_15 li_15 A_15 sp_15 P_15 sq_15 Q_15 lL_15 N_15 lX_15 lY_15 lE_15)
     | (go_at_call 19; refine (zAq _ _ XL _ lX_16 lY_16).mono ?_; rintro e w17 ⟨rfl, hb17⟩; have mr_17 := mr_16.below hb17; have ma_17 := ma_16.below hb17; have li_17 := li_16.below hb17; have A_17 := A_16.below hb17; have sp_17 := sp_16.below hb17; have P_17 := P_16.below hb17; have sq_17 := sq_16.below hb17; have Q_17 := Q_16.below hb17; have lL_17 := lL_16.below hb17; have N_17 := N_16.below hb17; have lX_17 := lX_16.below hb17; have lY_17 := lY_16.below hb17; have lE_17 := lE_16.below hb17; have hB_17 := zD hB_16 hb17; clear mr_16 ma_16 li_16 A_16 sp_16 P_16 sq_16 Q_16 lL_16 N_16 lX_16 lY_16 lE_16)
     | (go_at_call 20; refine (xJ _ E _ lE_17).mono ?_; rw [HQ.out]; rintro e w18 ⟨rfl, hb18⟩; have mr_18 := mr_17.below hb18; have ma_18 := ma_17.below hb18; have li_18 := li_17.below hb18; have A_18 := A_17.below hb18; have sp_18 := sp_17.below hb18; have P_18 := P_17.below hb18; have sq_18 := sq_17.below hb18; have Q_18 := Q_17.below hb18; have lL_18 := lL_17.below hb18; have N_18 := N_17.below hb18; have lX_18 := lX_17.below hb18; have lY_18 := lY_17.below hb18; have lE_18 := lE_17.below hb18; have hB_18 := zD hB_17 hb18; clear mr_17 ma_17 li_17 A_17 sp_17 P_17 sq_17 Q_17 lL_17 N_17 lX_17 lY_17 lE_17)
     | (go_at_call 21; refine (xU _ E _ lE_18).mono ?_; rw [HQ.out]; rintro e w19 ⟨rfl, hb19⟩; have mr_19 := mr_18.below hb19; have ma_19 := ma_18.below hb19; have li_19 := li_18.below hb19; have A_19 := A_18.below hb19; have sp_19 := sp_18.below hb19; have P_19 := P_18.below hb19; have sq_19 := sq_18.below hb19; have Q_19 := Q_18.below hb19; have lL_19 := lL_18.below hb19; have N_19 := N_18.below hb19; have lX_19 := lX_18.below hb19; have lY_19 := lY_18.below hb19; have lE_19 := lE_18.below hb19; have hB_19 := zD hB_18 hb19; clear mr_18 ma_18 li_18 A_18 sp_18 P_18 sq_18 Q_18 lL_18 N_18 lX_18 lY_18 lE_18))
    go_ret
    exact ⟨rfl, hB_20⟩
   ·have HS : Hid (stepOf M l = (S, true)) := HS
    obtain ⟨fin, hfin⟩ : ∃ fin, M.fin = fin := ⟨_, rfl⟩
    have hD : M.ok = true ∧ qH l = true ∧ fin ≤ 999999900 ∧ S = M.stepped l := by
     by_cases hc : M.ok = true ∧ qH l = true ∧ M.fin ≤ 999999900
     ·have := HS.out; rw [zBe hc.1 hc.2.1 hc.2.2] at this; exact ⟨hc.1, hc.2.1, hfin ▸ hc.2.2, (congrArg Prod.fst this).symm⟩
     ·have := HS.out; rw [vJ hc] at this; cases this
    obtain ⟨hD1, hD2, hD3, hD4⟩ := hD
    have hd := zB2 hD1 hD2 (by rw [hfin]; exact hD3)
    have hdk : S.m.k = fin := by rw [hD4, hd.k, hfin]
    have hdc : S.m.t.c = fin := by rw [hD4, hd.c, hfin]
    have hdlo : M.k < fin := by rw [← hfin]; exact hd.lo
    have hdhi : fin ≤ M.k + 5 := by rw [← hfin]; exact hd.hi
    have hm0 : 0 ≤ M.k := by have h1 := (okm.1 hD1).k; have h2 := (Tm.ok_true (okm.1 hD1).t).1; omega
    obtain ⟨j, hj⟩ : ∃ j : Nat, S.u = (j : Int) := ⟨S.u.toNat, by have := hd.u0; rw [← hD4] at this; omega⟩
    have hju : j ≤ l.length := by have := hd.u1; rw [← hD4] at this; omega
    have HNX : Hid (j < l.length → fin < (M3.at' l j).t) := show _ → _ from fun h => by have := hd.nx; rw [← hD4, hfin, hj] at this; have h3 := this (by omega); simpa using h3
    have HSO : Hid (∀ y ∈ S.o, y.t ≤ fin + 8 ∧ y.k ≠ 3) := show ∀ _, _ from fun y hy => by have := hd.o y (by rw [← hD4]; exact hy); rw [hfin] at this; exact this
    have HOK : Hid (S.m.ok = true) := by have := hd.ok; rw [← hD4] at this; exact this
    have HKC : Hid (S.m.k = fin ∧ S.m.t.c = fin ∧ S.u = (j : Int)) := ⟨hdk, hdc, hj⟩
    clear hd hD1 hD2 hD4 hdk hdc hj hfin
    obtain ⟨al, cl, rfl, -, hlc, hlm, -⟩ := id li_15
    obtain ⟨aO, cO, rfl, -, hOc, hOm, -⟩ := id sp_15.o
    unfold maxLen at hlm hOm
    have hX : qH XL = true ∧ XL.length = L.length + 1 := by
     have h := HI.out
     unfold xL at h
     split at h
     ·rename_i h1
      split at h
      ·cases h
      ·rename_i h2
       simp only [Bool.or_eq_true, decide_eq_true_eq, Bool.not_eq_true', not_or] at h2
       have e : XL = zBc L mm := (congrArg Prod.fst h).symm
       rw [e]
       exact ⟨zN1 h1 (by omega) (by simpa using h2.2), zE7 L mm⟩
     ·cases h
    have HXK : Hid (qH XL = true) := hX.1
    have hXn := hX.2
    clear hX
    obtain ⟨aX, cX, rfl, -, hXc, hXm, -⟩ := id lX_15
    obtain ⟨aL, cL, rfl, -, hLc, hLm, -⟩ := id lL_15
    unfold maxLen at hXm hLm
    have hXe : ((XL.length : Int) != (L.length : Int) + 1) = false := by simp; omega
    clear hXn
    go_wp2_with (first
     | (go_at_call 20; refine (xJ _ XL _ lX_19).mono ?_; rw [HXK.out]; rintro e w20 ⟨rfl, hb20⟩; have mr_20 := mr_19.below hb20; have ma_20 := ma_19.below hb20; have li_20 := li_19.below hb20; have A_20 := A_19.below hb20; have sp_20 := sp_19.below hb20; have P_20 := P_19.below hb20; have sq_20 := sq_19.below hb20; have Q_20 := Q_19.below hb20; have lL_20 := lL_19.below hb20; have N_20 := N_19.below hb20; have lX_20 := lX_19.below hb20; have lY_20 := lY_19.below hb20; have lE_20 := lE_19.below hb20; have hB_20 := zD hB_19 hb20; have k24 : w20.cell? ⟨w4.heap.size, 24, none⟩ = some (.int .i64 fin) := (by have := (sw P_20).k; rwa [HKC.out.1] at this); clear mr_19 ma_19 li_19 A_19 sp_19 P_19 sq_19 Q_19 lL_19 N_19 lX_19 lY_19 lE_19)
     | (refine zGq rfl rfl rfl P_15 ?_)
     | (refine zGq rfl rfl rfl Q_15 ?_)
     | (go_at_call 18; refine (zBn _ _ xg yg (.slice aO S.o.length cO) eg xp yp op ep S _ rfl rfl sp_15 sq_15).mono ?_; rintro e w16 ⟨rfl, hb16⟩; have mr_16 := mr_15.below hb16; have ma_16 := ma_15.below hb16; have li_16 := li_15.below hb16; have A_16 := A_15.below hb16; have sp_16 := sp_15.below hb16; have P_16 := P_15.below hb16; have sq_16 := sq_15.below hb16; have Q_16 := Q_15.below hb16; have lL_16 := lL_15.below hb16; have N_16 := N_15.below hb16; have lX_16 := lX_15.below hb16; have lY_16 := lY_15.below hb16; have lE_16 := lE_15.below hb16; have hB_16 := zD hB_15 hb16; clear mr_15 ma_15 li_15 A_15 sp_15 P_15 sq_15 Q_15 lL_15 N_15 lX_15 lY_15 lE_15)
     | (go_at_call 19; refine (zAq _ _ XL _ lX_16 lY_16).mono ?_; rintro e w17 ⟨rfl, hb17⟩; have mr_17 := mr_16.below hb17; have ma_17 := ma_16.below hb17; have li_17 := li_16.below hb17; have A_17 := A_16.below hb17; have sp_17 := sp_16.below hb17; have P_17 := P_16.below hb17; have sq_17 := sq_16.below hb17; have Q_17 := Q_16.below hb17; have lL_17 := lL_16.below hb17; have N_17 := N_16.below hb17; have lX_17 := lX_16.below hb17; have lY_17 := lY_16.below hb17; have lE_17 := lE_16.below hb17; have hB_17 := zD hB_16 hb17; clear mr_16 ma_16 li_16 A_16 sp_16 P_16 sq_16 Q_16 lL_16 N_16 lX_16 lY_16 lE_16)
     | (go_at_call 20; refine (xJ _ E _ lE_17).mono ?_; rw [HQ.out]; rintro e w18 ⟨rfl, hb18⟩; have mr_18 := mr_17.below hb18; have ma_18 := ma_17.below hb18; have li_18 := li_17.below hb18; have A_18 := A_17.below hb18; have sp_18 := sp_17.below hb18; have P_18 := P_17.below hb18; have sq_18 := sq_17.below hb18; have Q_18 := Q_17.below hb18; have lL_18 := lL_17.below hb18; have N_18 := N_17.below hb18; have lX_18 := lX_17.below hb18; have lY_18 := lY_17.below hb18; have lE_18 := lE_17.below hb18; have hB_18 := zD hB_17 hb18; clear mr_17 ma_17 li_17 A_17 sp_17 P_17 sq_17 Q_17 lL_17 N_17 lX_17 lY_17 lE_17)
     | (go_at_call 21; refine (xU _ E _ lE_18).mono ?_; rw [HQ.out]; rintro e w19 ⟨rfl, hb19⟩; have mr_19 := mr_18.below hb19; have ma_19 := ma_18.below hb19; have li_19 := li_18.below hb19; have A_19 := A_18.below hb19; have sp_19 := sp_18.below hb19; have P_19 := P_18.below hb19; have sq_19 := sq_18.below hb19; have Q_19 := Q_18.below hb19; have lL_19 := lL_18.below hb19; have N_19 := N_18.below hb19; have lX_19 := lX_18.below hb19; have lY_19 := lY_18.below hb19; have lE_19 := lE_18.below hb19; have hB_19 := zD hB_18 hb19; clear mr_18 ma_18 li_18 A_18 sp_18 P_18 sq_18 Q_18 lL_18 N_18 lX_18 lY_18 lE_18))
    refine qD (by kernel_rfl) (by kernel_rfl) 0 (by decide) (by kernel_rfl) (fun _ W => Below w20.heap.size w20 W) [.int .i64 fin, pt w1.heap.size 24, .int .i64 M.k, .bool false, .bool false, .int .i64 fin, pt w1.heap.size 24, .int .i64 M.k, .int .i64 5, .int .i64 (M.k + 5), .bool false, .bool false, .bool false, pt w4.heap.size 0, pt w4.heap.size 14, pt w4.heap.size 14, .int .i64 fin, .int .i64 fin, .bool false, .bool false, .bool false, pt w4.heap.size 27, .int .i64 (j : Int), .slice al l.length cl, .int .i64 (l.length : Int), .bool false, .bool false] ((Below.refl _ _).drew) ?step ?done
    case step =>
     intro L ix o' A W hj hI hL hd
     have hin : ix < 27 := qB hj
     have hsz : A.tmps.size = 188 := hI.size
     have hg := hI.g
     rcases ix with _ | _ | _ | _ | _ | _ | _ | _ | _ | _ | _ | _ | _ | _ | _ | _ | _ | _ | _ | _ | _ | _ | _ | _ | _ | _ | _ | ix
     ·cases hj; exact am rfl rfl rfl (kv (hI.ol 16 rfl) hg)
     ·cases hj; exact zC rfl rfl (zH (x := .tmp 3) (hI.ol 3 rfl) rfl (by kernel_rfl) (kk hg))
     ·cases hj; exact zC rfl rfl (zN rfl Tryz.underlying2 (hI.vl hd 1 rfl) (cw (A_20.below hg)).k (kk hg))
     ·cases hj; exact zC rfl rfl (qP (v := .bool false) rfl (hI.vl hd 0 rfl) (hI.vl hd 2 rfl) (fun w => by simp [go_sem]; omega) (kk hg))
     ·cases hj; exact am rfl rfl rfl (kv (hI.vl hd 3 rfl) hg)
     ·cases hj; exact ag rfl rfl (hI.vl hd 4 rfl) (qR rfl (kv (hI.ol 16 rfl) hg))
     ·cases hj; exact ag rfl rfl (hI.vl hd 4 rfl) (zH (x := .tmp 3) (hI.ol 3 rfl) rfl (by kernel_rfl) (kk hg))
     ·cases hj; exact ag rfl rfl (hI.vl hd 4 rfl) (zN rfl Tryz.underlying2 (hI.vl hd 6 rfl) (cw (A_20.below hg)).k (kk hg))
     ·cases hj; have hgv : A.tmps.getD 117 undef = .bool false := hI.vl hd 4 rfl
      refine ag rfl rfl hgv (zS (args := []) rfl Tryz.func22 (by kernel_rfl) (by kernel_rfl) ?_)
      refine (zB9 W).mono ?_
      rintro e W1 ⟨rfl, rfl⟩
      exact ⟨_, rfl, _, rfl, rfl, hg⟩
     ·cases hj; exact ag rfl rfl (hI.vl hd 4 rfl) (qP rfl (hI.vl hd 7 rfl) (hI.vl hd 8 rfl) (fun w => addN (by kernel_rfl) _ _ _ _ w (by omega) (by omega)) (kk hg))
     ·cases hj; exact ag rfl rfl (hI.vl hd 4 rfl) (qP (v := .bool false) rfl (hI.vl hd 5 rfl) (hI.vl hd 9 rfl) (fun w => by simp [go_sem]; omega) (kk hg))
     ·cases hj; exact zC rfl rfl (xH rfl (hI.vl hd 4 rfl) (kv ((hI.vl hd 10 rfl)) hg))
     ·cases hj; exact am rfl rfl rfl (kv (hI.vl hd 11 rfl) hg)
     ·cases hj; exact ag rfl rfl (hI.vl hd 12 rfl) (zH (x := .tmp 5) (hI.ol 5 rfl) rfl (by kernel_rfl) (kk hg))
     ·cases hj; exact ag rfl rfl (hI.vl hd 12 rfl) (zH (hI.vl hd 13 rfl) rfl (by kernel_rfl) (kk hg))
     ·cases hj; exact ag rfl rfl (hI.vl hd 12 rfl) (zH (hI.vl hd 14 rfl) rfl (by kernel_rfl) (kk hg))
     ·cases hj; exact ag rfl rfl (hI.vl hd 12 rfl) (zN rfl Tryz.underlying2 (hI.vl hd 15 rfl) (by have : W.cell? ⟨w4.heap.size, 14, none⟩ = some (.int .i64 S.m.t.c) := (P_20.below hg).cell 14; rwa [HKC.out.2.1] at this) (kk hg))
     ·cases hj; exact ag rfl rfl (hI.vl hd 12 rfl) (qR rfl (kv (hI.ol 16 rfl) hg))
     ·cases hj; exact ag rfl rfl (hI.vl hd 12 rfl) (qP (v := .bool false) rfl (hI.vl hd 16 rfl) (hI.vl hd 17 rfl) (fun w => by simp [go_sem]) (kk hg))
     ·cases hj; exact zC rfl rfl (xH rfl (hI.vl hd 12 rfl) (kv ((hI.vl hd 18 rfl)) hg))
     ·cases hj; exact am rfl rfl rfl (kv (hI.vl hd 19 rfl) hg)
     ·cases hj; exact ag rfl rfl (hI.vl hd 20 rfl) (zH (x := .tmp 5) (hI.ol 5 rfl) rfl (by kernel_rfl) (kk hg))
     ·cases hj; exact ag rfl rfl (hI.vl hd 20 rfl) (zN rfl Tryz.underlying2 (hI.vl hd 21 rfl) (by have := (sw (P_20.below hg)).u; rwa [HKC.out.2.2] at this) (kk hg))
     ·cases hj; exact ag rfl rfl (hI.vl hd 20 rfl) (qR rfl (kv (hI.ol 4 rfl) hg))
     ·cases hj; exact ag rfl rfl (hI.vl hd 20 rfl) (zA7 rfl (hI.vl hd 23 rfl) (kk hg))
     ·cases hj; exact ag rfl rfl (hI.vl hd 20 rfl) (qP (v := .bool false) rfl (hI.vl hd 22 rfl) (hI.vl hd 24 rfl) (fun w => by simp [go_sem]; omega) (kk hg))
     ·cases hj; exact zC rfl rfl (xH rfl (hI.vl hd 20 rfl) (kv ((hI.vl hd 25 rfl)) hg))
     omega
    case done =>
     intro A W hI
     have hg := hI.g
     have s139 := hI.ls 26 rfl rfl
     have hA := hI.frame [113, 114, 115, 116, 117, 118, 119, 120, 121, 122, 123, 124, 125, 126, 127, 128, 129, 130, 131, 132, 133, 134, 135, 136, 137, 138, 139] (by kernel_rfl)
     rw [hA]
     simp only [qJ, List.foldl_cons, List.foldl_nil, s139, Act.put, List.setIfInBounds_toArray, List.set_cons_zero, List.set_cons_succ]
     clear hA hI s139
     have P_W := P_20.below hg
     have sp_W := sp_20.below hg
     have li_W := li_20.below hg
     have hB_W := zD hB_20 hg
     have k27 : W.cell? ⟨w4.heap.size, 27, none⟩ = some (.int .i64 (j : Int)) := by have := (sw P_W).u; rwa [HKC.out.2.2] at this
     have k25 : W.cell? ⟨w4.heap.size, 25, none⟩ = some (.slice aO S.o.length cO) := (sw P_W).o
     clear mr_20 ma_20 li_20 A_20 sp_20 P_20 sq_20 Q_20 lL_20 N_20 lX_20 lY_20 lE_20 hg
     by_cases hlt : j < l.length
     ·obtain ⟨bv, offv, cv, e, -, -, -⟩ := li_W.shape (by omega)
      simp only [Value.slice.injEq] at e
      obtain ⟨rfl, -, rfl⟩ := e
      obtain ⟨tt, htt⟩ : ∃ tt, (M3.at' l j).t = tt := ⟨_, rfl⟩
      have c0 : W.cell? ⟨bv, offv + j * 3, none⟩ = some (.int .i64 tt) := by rw [← htt]; exact li_W.cell okM (qM hlt) (j := 0) (by decide)
      have hnx := HNX.out hlt
      rw [htt] at hnx
      clear htt
      go_wp2_with fail
      clear hnx c0 hlt
      try simp only [Array.getD_eq_getD_getElem?]
      go_loopw [17] (fun iv wr => ∃ k : Nat, k ≤ S.o.length ∧ iv = .int .i64 (k : Int) ∧ wr = W) (fun iv _ => S.o.length - (intOf iv).toNat)
      case atStart => exact ⟨0, Nat.zero_le _, rfl, rfl⟩
      case round =>
       obtain ⟨k, hk, rfl, rfl⟩ := hrel
       by_cases hko : k < S.o.length
       ·obtain ⟨b2, off2, c2, e, -, -, -⟩ := sp_W.o.shape (by omega)
        simp only [Value.slice.injEq] at e
        obtain ⟨rfl, -, rfl⟩ := e
        obtain ⟨ot, ok', ov, hom⟩ : ∃ ot ok' ov, M3.at' S.o k = ⟨ot, ok', ov⟩ := ⟨_, _, _, rfl⟩
        have hob := HSO.out (M3.at' S.o k) (List.mem_of_getElem? (qM hko))
        have d0 := sp_W.o.cell okM (qM hko) (j := 0) (by decide)
        have d1 := sp_W.o.cell okM (qM hko) (j := 1) (by decide)
        rw [hom] at hob d0 d1
        have hot : ot ≤ fin + 8 := hob.1
        have hok3 : (ok' == 3) = false := by have : ok' ≠ 3 := hob.2; simpa using this
        have e0 : wr.cell? ⟨b2, off2 + k * fM.n, none⟩ = some (.int .i64 ot) := d0
        have e1 : wr.cell? ⟨b2, off2 + k * 3 + 1, none⟩ = some (.int .i64 ok') := d1
        clear hom hob d0 d1
        go_wp2_with (refine ixF okM (r := k) rfl rfl rfl rfl hko ?_)
        go_roundw
        case rel => exact ⟨k + 1, by omega, by go_num, by first | rfl | trivial⟩
        case measure => simp [intOf]; omega
       ·go_wp2_with (first
         | (refine zJ1 rfl rfl rfl P_W ?_)
         | (go_at_call 23; refine (zX _ S.m _ ⟨xg, yg, rfl, sp_W.x, sp_W.y⟩).mono ?_; rw [HOK.out]; rintro e w30 ⟨rfl, hb30⟩; have hB_30 := zD hB_W hb30)
         | (go_at_call 22; refine (zB9 _).mono ?_; rintro e w31 ⟨rfl, rfl⟩)
         | (go_at_call 24; refine (zEl _).mono ?_; rintro e w32 ⟨rfl, rfl⟩))
        go_ret
        exact ⟨by kernel_rfl, hB_30⟩
     ·go_wp2_with fail
      try simp only [Array.getD_eq_getD_getElem?]
      go_loopw [17] (fun iv wr => ∃ k : Nat, k ≤ S.o.length ∧ iv = .int .i64 (k : Int) ∧ wr = W) (fun iv _ => S.o.length - (intOf iv).toNat)
      case atStart => exact ⟨0, Nat.zero_le _, rfl, rfl⟩
      case round =>
       obtain ⟨k, hk, rfl, rfl⟩ := hrel
       by_cases hko : k < S.o.length
       ·obtain ⟨b2, off2, c2, e, -, -, -⟩ := sp_W.o.shape (by omega)
        simp only [Value.slice.injEq] at e
        obtain ⟨rfl, -, rfl⟩ := e
        obtain ⟨ot, ok', ov, hom⟩ : ∃ ot ok' ov, M3.at' S.o k = ⟨ot, ok', ov⟩ := ⟨_, _, _, rfl⟩
        have hob := HSO.out (M3.at' S.o k) (List.mem_of_getElem? (qM hko))
        have d0 := sp_W.o.cell okM (qM hko) (j := 0) (by decide)
        have d1 := sp_W.o.cell okM (qM hko) (j := 1) (by decide)
        rw [hom] at hob d0 d1
        have hot : ot ≤ fin + 8 := hob.1
        have hok3 : (ok' == 3) = false := by have : ok' ≠ 3 := hob.2; simpa using this
        have e0 : wr.cell? ⟨b2, off2 + k * fM.n, none⟩ = some (.int .i64 ot) := d0
        have e1 : wr.cell? ⟨b2, off2 + k * 3 + 1, none⟩ = some (.int .i64 ok') := d1
        clear hom hob d0 d1
        go_wp2_with (refine ixF okM (r := k) rfl rfl rfl rfl hko ?_)
        go_roundw
        case rel => exact ⟨k + 1, by omega, by go_num, by first | rfl | trivial⟩
        case measure => simp [intOf]; omega
       ·go_wp2_with (first
         | (refine zJ1 rfl rfl rfl P_W ?_)
         | (go_at_call 23; refine (zX _ S.m _ ⟨xg, yg, rfl, sp_W.x, sp_W.y⟩).mono ?_; rw [HOK.out]; rintro e w30 ⟨rfl, hb30⟩; have hB_30 := zD hB_W hb30)
         | (go_at_call 22; refine (zB9 _).mono ?_; rintro e w31 ⟨rfl, rfl⟩)
         | (go_at_call 24; refine (zEl _).mono ?_; rintro e w32 ⟨rfl, rfl⟩))
        go_ret
        exact ⟨by kernel_rfl, hB_30⟩
 ·have hs : decide ((4096 : Int) < (len : Int)) = true := by simp; omega
  go_enter Tryz.func3, Tryz.ntmps3
  go_wp2_with (go_at_call 10; refine (zUy _ _ _ _).mono ?_; rintro e w0 ⟨rfl, rfl⟩; rw [hs])
  go_ret
  exact ⟨rfl, Below.refl _ _⟩
end Go.Proofs.YtamldhflkfbdnaaGreatDoor.Mem
