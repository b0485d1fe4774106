/-
  What FnExactRunTo leans on: part 11.
-/
import Derived.OrdersIn
import Derived.ControlIn
import Derived.RangeFuncSeq
import Derived.RangeFuncNested
import Derived.RangeFuncCalls
import Derived.Shelf.Abstract
import Derived.Deep.LoopGhost
import Derived.RangeFuncWrites
import Derived.RangeFuncFrom
import Derived.Test.YtghmkacamabndaaGreatDoorRunP1
import Derived.Test.YtghmkacamabndaaGreatDoorRunP2
import Derived.Test.YtghmkacamabndaaGreatDoorRunP7
import Derived.Test.YtghmkacamabndaaGreatDoorRunP9
set_option linter.unusedVariables false
set_option linter.unusedSimpArgs false
set_option maxRecDepth 20000
namespace Go.Proofs.YtghmkacamabndaaGreatDoor.Reg
open Go.RowKit Base

section
variable {F : Fence} {n : Nat} {P : Program} {ops : Array Oper} {Q : Exit → Act → World → Prop} {s : Nat} {G : Bool → World → Prop} {T : Nat → (Nat → Value) → World → Prop} {R : Nat → (Nat → Value) → World → World → Prop} {a0 a : Act} {L : Nat → Bool} {w w' : World} {i : Nat} {o : Oper} {v : Value}
theorem any_genSin (hss : s < ops.size) (hac : acyc ops = true) (mono : MonoF ops T R)
  (step : ∀ (L : Nat → Bool) (i : Nat) (o : Oper) (a : Act) (w : World), ops[i]? = some o → InvS ops s G T a0 L a w → L i = false → (∀ d ∈ deps o, L d = true) →
   wpOpIn F n P ops Q i (fun a' w' => ∃ v, a' = a.put o.dst v ∧ T i (at_ (a.put o.dst v)) w' ∧ G (L s || s == i) w' ∧ R i (at_ (a.put o.dst v)) w w') a w)
  (done : ∀ a w, InvS ops s G T a0 (fun _ => true) a w → Q .normal a w) :
  ∀ (fuel : Nat) (listed : Array Bool) (a : Act) (w : World), listed.size = ops.size → left ops.size listed ≤ fuel → InvS ops s G T a0 (fun j => listed.getD j false) a w → wpAnyIn F n P .any ops Q fuel listed a w := by
 have fin : ∀ (listed : Array Bool) (a : Act) (w : World), listed.size = ops.size → Region.ready .any ops listed = [] → InvS ops s G T a0 (fun j => listed.getD j false) a w → Q .normal a w := fun listed a w hs hr hI => by
  refine done a w ?_
  have hall := all_listed hac hr hs
  have hL : ∀ j o, ops[j]? = some o → listed.getD j false = true := fun j o hj => by
   have hjs : j < ops.size := by
    by_cases hl : j < ops.size
    ·exact hl
    ·have e : ops[j]? = none := by simp; omega
     rw [e] at hj; cases hj
   have := hall j hjs
   have hjl : j < listed.size := by omega
   simpa [Array.getD_eq_getD_getElem?, Array.getElem?_eq_getElem hjl] using this
  have hg1 : G true w := by
   have hall' := hall s hss
   have h1 := hI.g
   have hjl : s < listed.size := by omega
   have e : listed.getD s false = true := by simpa [Array.getD_eq_getD_getElem?, Array.getElem?_eq_getElem hjl] using hall'
   rw [e] at h1; exact h1
  exact ⟨hg1, hI.defers, hI.size, fun j o hj _ => hI.told j o hj (hL j o hj), fun k hk => hI.rest k (fun j hj => hk j rfl), fun _ _ _ _ _ _ => rfl⟩
 intro fuel
 induction fuel with
 | zero =>
  intro listed a w hs hf hI
  have hr : Region.ready .any ops listed = [] := by
   refine List.eq_nil_iff_forall_not_mem.2 fun i hi => ?_
   obtain ⟨h1, h2, _⟩ := mem_ready.1 hi
   have h0 : left ops.size listed = 0 := by omega
   have := (List.countP_eq_zero.1 h0) i (List.mem_range.2 h1)
   simp [h2] at this
  exact ⟨hr, fin listed a w hs hr hI⟩
 | succ fuel ih =>
  intro listed a w hs hf hI
  refine ⟨fun hr => fin listed a w hs hr hI, fun i hi => ?_⟩
  obtain ⟨h1, h2, o, ho, h3⟩ := mem_ready.1 hi
  have hil : i < listed.size := by omega
  have hLi : listed.getD i false = false := by
   simpa [Array.getD_eq_getD_getElem?, Array.getElem?_eq_getElem hil] using h2
  refine wpOpIn_mono ?_ (step (fun j => listed.getD j false) i o a w ho hI hLi h3)
  rintro a' w' ⟨v, rfl, hT, hG, hR⟩
  refine ih _ _ _ (by simpa using hs) ?_ ?_
  ·have hlt : left ops.size (listed.setIfInBounds i true) < left ops.size listed := by
    refine countP_lt (x := i) (fun x hx => ?_) (List.mem_range.2 h1) (by simp [h2]) ?_
    ·by_cases hxi : x = i
     ·subst hxi; simp [h2]
     ·simpa [Array.getD_eq_getD_getElem?, Array.getElem?_setIfInBounds, Ne.symm hxi] using hx
    ·simp [Array.getD_eq_getD_getElem?, hil]
   omega
  ·have hI' := hI.nextS mono ho hLi h3 hT hG hR
   have e : (fun j => (listed.setIfInBounds i true).getD j false) = fun j => listed.getD j false || j == i := by
    funext j
    by_cases hj : j = i
    ·subst hj; simp [Array.getD_eq_getD_getElem?, hil]
    ·simp [Array.getD_eq_getD_getElem?, Ne.symm hj, hj]
   rw [e]
   exact hI'
theorem region_genSin {id : Nat} (hm : P.follows .mixedOrders = true) (hac : acyc ops = true) (s : Nat) (hss : s < ops.size) (G : Bool → World → Prop) (T : Nat → (Nat → Value) → World → Prop) (R : Nat → (Nat → Value) → World → World → Prop)
  (mono : MonoF ops T R) (hG : G false w.drew)
  (step : ∀ (L : Nat → Bool) (i : Nat) (o : Oper) (a : Act) (w : World), ops[i]? = some o → InvS ops s G T a0 L a w → L i = false → (∀ d ∈ deps o, L d = true) →
   wpOpIn F n P ops Q i (fun a' w' => ∃ v, a' = a.put o.dst v ∧ T i (at_ (a.put o.dst v)) w' ∧ G (L s || s == i) w' ∧ R i (at_ (a.put o.dst v)) w w') a w)
  (done : ∀ a w, InvS ops s G T a0 (fun _ => true) a w → Q .normal a w) : (Code.region id ops true).wpIn F n P Q a0 w := by
 have no : ∀ j, (Array.replicate ops.size false).getD j false = true → False := fun j hl => by
  by_cases hj : j < ops.size
  ·simp [Array.getD_eq_getD_getElem?, hj] at hl
  ·simp [Array.getD_eq_getD_getElem?, hj] at hl
 have hg0 : G ((Array.replicate ops.size false).getD s false) w.drew := by
  have e : (Array.replicate ops.size false).getD s false = false := by simp [Array.getD_eq_getD_getElem?, hss]
  rw [e]; exact hG
 exact wpIn_region_any hm (any_genSin hss hac mono step done ops.size _ a0 w.drew (by simp) (by
  refine Nat.le_trans List.countP_le_length ?_
  simp) ⟨hg0, rfl, rfl, fun j o _ hl => (no j hl).elim, fun _ _ => rfl, fun j o d _ hl _ => (no j hl).elim⟩)
end
section
variable {F : Fence} {n : Nat} {P : Program} {ops : Array Oper} {Q : Exit → Act → World → Prop} {s : Nat} {a0 a : Act} {L : Nat → Bool} {w w' : World} {i : Nat} {o : Oper} {v : Value} {vals : List Value}
theorem region_known_in {id : Nat} (hm : P.follows .mixedOrders = true) (hac : acyc ops = true) (s : Nat) (hss : s < ops.size) (hds : dstOk ops a0.tmps.size = true) (G : Bool → World → Prop) (vals : List Value) (hG : G false w.drew)
  (step : ∀ (L : Nat → Bool) (i : Nat) (o : Oper) (a : Act) (w : World), ops[i]? = some o → InvS ops s G (knownT ops vals) a0 L a w → L i = false → (∀ d ∈ deps o, L d = true) →
   wpOpIn F n P ops Q i (fun a' w' => ∃ v, a' = a.put o.dst v ∧ v = vals.getD i undef ∧ G (L s || s == i) w') a w)
  (done : ∀ a w, InvS ops s G (knownT ops vals) a0 (fun _ => true) a w → Q .normal a w) : (Code.region id ops true).wpIn F n P Q a0 w := by
 refine region_genSin hm hac s hss G (knownT ops vals) (fun _ _ _ _ => True) (mono_known hds) hG ?_ done
 intro L i o a w hi hI hL hd
 refine wpOpIn_mono ?_ (step L i o a w hi hI hL hd)
 rintro a' w' ⟨v, rfl, hv, hg⟩
 refine ⟨v, rfl, fun k hk => ?_, hg, trivial⟩
 rw [hi] at hk
 have hk' : o.dst = some k := hk
 have hlt : k < a0.tmps.size := dst_lt hds (i := i) (by rw [hi]; exact hk')
 rw [hk']
 show (a.put (some k) v).tmps.getD k undef = _
 rw [getD_put_same _ _ _ (by rw [hI.size]; exact hlt)]
 exact hv
theorem region_turn_in {id : Nat} (hm : P.follows .mixedOrders = true) (hac : acyc ops = true) (s : Nat) (hss : s < ops.size) (hds : dstOk ops a0.tmps.size = true) (G E : World → Prop) (vals : List Value) (hG : G w.drew)
  (step : ∀ (L : Nat → Bool) (i : Nat) (o : Oper) (a : Act) (w : World), i ≠ s → ops[i]? = some o → InvS ops s (ge G E) (knownT ops vals) a0 L a w → ((wider ops ops.size [s]).contains i = true → G w) → (∀ d ∈ deps o, L d = true) →
   wpOpIn F n P ops Q i (fun a' w' => ∃ v, a' = a.put o.dst v ∧ v = vals.getD i undef ∧ w' = w) a w)
  (turn : ∀ (L : Nat → Bool) (o : Oper) (a : Act) (w : World), ops[s]? = some o → InvS ops s (ge G E) (knownT ops vals) a0 L a w → G w → (∀ d ∈ deps o, L d = true) →
   wpOpIn F n P ops Q s (fun a' w' => ∃ v, a' = a.put o.dst v ∧ v = vals.getD s undef ∧ E w') a w)
  (done : ∀ a w, InvS ops s (ge G E) (knownT ops vals) a0 (fun _ => true) a w → E w → Q .normal a w) : (Code.region id ops true).wpIn F n P Q a0 w := by
 refine region_known_in hm hac s hss hds (ge G E) vals (by simpa [ge] using hG) ?_ (fun a w hI => done a w hI (by simpa [ge] using hI.g))
 intro L i o a w hi hI hL hd
 have hpre : (wider ops ops.size [s]).contains i = true → L s = false := fun h1 => by
  cases hq : L s with
  | false => rfl
  | true =>
   have := wider_listed (L := L) hI.closed ops.size [s] (fun j hj => by simp at hj; rw [hj]; exact hq) i (List.contains_iff_mem.1 h1)
   rw [this] at hL; cases hL
 by_cases e : i = s
 ·subst e
  have hg : G w := by have := hI.g; simpa [ge, hL] using this
  refine wpOpIn_mono ?_ (turn L o a w hi hI hg hd)
  rintro a' w' ⟨v, rfl, hv, he⟩
  exact ⟨v, rfl, hv, by simpa [ge] using he⟩
 ·refine wpOpIn_mono ?_ (step L i o a w e hi hI (fun h1 => by have := hI.g; simpa [ge, hpre h1] using this) hd)
  rintro a' w' ⟨v, rfl, hv, rfl⟩
  refine ⟨v, rfl, hv, ?_⟩
  have h1 : (L s || s == i) = L s := by simp [Ne.symm e]
  rw [h1]
  exact hI.g
theorem wp_in {K : Act → World → Prop} (h : o.wp P a w K Q) : o.wpIn Fence.wide n P a w K Q := by
 refine ⟨fun _ _ => trivial, ?_⟩
 show o.uponIn Fence.wide n P a K Q ((execOp a.eval o).run P w)
 unfold Oper.wp at h
 generalize (execOp a.eval o).run P w = r at *
 cases r with
 | ok x w' =>
  cases x <;> simp only [Oper.upon, Oper.uponIn] at h ⊢ <;> first
   | exact h
   | exact ⟨fun e => by simp [Fence.wide] at e, callsIn_wide.2 (h.mono fun e w he => by cases e <;> exact he)⟩
   | exact ⟨fun e => by simp [Fence.wide] at e, fun c cs _ => let ⟨v, w', r, s⟩ := h c cs; ⟨v, w', r, stepsIn_wide.2 s⟩⟩
 | halt x w' => cases x <;> simp only [Oper.upon, Oper.uponIn] at h ⊢ <;> exact h
theorem at_opIn {K : Act → World → Prop} (ho : ops[i]? = some o) (hg : o.guard = none) (h : o.wpIn F n P a w K Q) : wpOpIn F n P ops Q i K a w := by
 unfold wpOpIn
 rw [ho]
 have hw : Region.wanted o (yielded ops a.tmps) = true := by simp [Region.wanted, hg]
 simp only [hw, if_true]
 exact h
theorem at_guardIn {K : Act → World → Prop} (ho : ops[i]? = some o) {j k : Nat} {want : Bool} (hg : o.guard = some (j, want)) (hj : (ops[j]?).bind (·.dst) = some k) (hk : k < a.tmps.size) (hv : a.tmps.getD k undef = .bool want) (h : o.wpIn F n P a w K Q) : wpOpIn F n P ops Q i K a w := by
 unfold wpOpIn
 rw [ho]
 have e : a.tmps[k]? = some (.bool want) := by
  rw [Array.getD_eq_getD_getElem?, Array.getElem?_eq_getElem hk] at hv
  rw [Array.getElem?_eq_getElem hk]
  exact congrArg some hv
 have hy : yielded ops a.tmps j = some want := by
  unfold yielded
  rw [hj]
  simp [e]
 have hw : Region.wanted o (yielded ops a.tmps) = true := by simp [Region.wanted, hg, hy]
 simp only [hw, if_true]
 exact h
theorem at_opW {K : Act → World → Prop} (ho : ops[i]? = some o) (hg : o.guard = none) (h : o.wp P a w K Q) : wpOpIn Fence.wide n P ops Q i K a w := at_opIn ho hg (wp_in h)
theorem at_guardW {K : Act → World → Prop} (ho : ops[i]? = some o) {j k : Nat} {want : Bool} (hg : o.guard = some (j, want)) (hj : (ops[j]?).bind (·.dst) = some k) (hk : k < a.tmps.size) (hv : a.tmps.getD k undef = .bool want) (h : o.wp P a w K Q) : wpOpIn Fence.wide n P ops Q i K a w := at_guardIn ho hg hj hk hv (wp_in h)
theorem yield_op {x : Operand} {tys : Array TypeId} {args : List Operand} {K : Act → World → Prop} {l m : Nat} {av : Array Value} {Y : Ending → World → Prop} (ho : o.op = .call { callee := .value x, args := args.toArray, argTypes := tys }) (hx : a.eval x = .func (.yield l) #[] #[]) (ha : (args.map a.eval).toArray = av)
  (hy : YieldAt Fence.wide m P l av w Y) (hm : m = n - 1) (h : ∀ e w', Y e w' → ∃ v, e = .returned v ∧ K (a.put o.dst v) w') : o.wpIn Fence.wide n P a w K Q := by
 subst hm
 obtain ⟨fn, tmps, asg, body, hr, hR⟩ := hy
 refine ⟨fun _ _ => trivial, ?_⟩
 have e : (do let d ← resolve a.eval { callee := .value x, args := args.toArray, argTypes := tys } o.type; invoke d.target d.args : Sem Next).run P w = .ok (.round l fn tmps asg body) w := by
  have ha' : args.toArray.map a.eval = av := by rw [← ha]; simp
  simp [resolve, hx, Deferred.ofValue, invoke, ha, hr]
 show o.uponIn Fence.wide n P a K Q ((execOp a.eval o).run P w)
 have e2 : (execOp a.eval o).run P w = .ok (.round l fn tmps asg body) w := by
  unfold execOp
  rw [ho]
  exact e
 rw [e2]
 refine ⟨fun e => by simp [Fence.wide] at e, hR.mono ?_⟩
 intro e w' he
 obtain ⟨v, rfl, hk⟩ := h e w' he
 exact hk
end
end Go.Proofs.YtghmkacamabndaaGreatDoor.Reg
namespace Go.Proofs.YtghmkacamabndaaGreatDoor.Rng
open Go.RowKit Go.Shelf
section
variable {P : Program}
theorem calls_marks {f : FuncId} {fn : Func} {c : Code} {args : Array Value} {w : World} {R : Ending → World → Prop} (hf : P.funcs[f]? = some fn) (hb : fn.body = some c)
  (h : c.wp P (bodyPostM Fence.wide 0 P fn R) { tmps := args ++ Array.replicate (fn.ntmps - args.size) undef, defers := [] } w) : Calls P f args w R :=
 callsIn_wide.1 (callsIn_of_wp_marks (n := 0) hf hb trivial (wpIn_wide.2 h))
theorem leave0 {fn : Func} {a : Act} {w : World} {R : Ending → World → Prop} (h : bodyPost P fn R .ret a w) : bodyPostM Fence.wide 0 P fn R .ret a w := by
 obtain ⟨hd, h⟩ := h
 show LeavesInM _ _ _ _ _ _ a.defers _ _
 rw [hd]
 exact h
theorem leave1 {fn : Func} {a : Act} {w : World} {R : Ending → World → Prop} {D : Nat} (hd : a.defers = [{ target := .collected D, args := #[] }]) (hD : w.heap[D]? = some (.deferred (some [])))
  (h : bodyPost P fn R .ret { a with defers := [] } (w.putObj D (.deferred none))) : bodyPostM Fence.wide 0 P fn R .ret a w := by
 obtain ⟨-, h⟩ := h
 show LeavesInM _ _ _ _ _ _ a.defers _ _
 rw [hd]
 exact ⟨by simp, .inl ⟨D, _, rfl, run_takeDeferred hD, h⟩⟩
theorem wp_range {σ : Type} {g : Operand} {ps : Array Tmp} {assign body : Code} {Q : Exit → Act → World → Prop} {a : Act} {w : World} {gf : Nat} {lb : Array Value}
  (hg : a.eval g = .func (.func gf) #[] lb) (eg : ∀ args w, (callFunc gf args).run P w = .ok (.enter gf args) w)
  (I : σ → World → Prop) (more : σ → Prop) (nxt : σ → σ) (arg : σ → Array Value) (s0 : σ) (hps : ∀ s, (arg s).size = ps.size)
  (hI : OwnFrom w.heap.size I) (hIb : ∀ s W W', I s W → Below W.heap.size W W' → I s W') (h0 : I s0 w)
  (hit : ∀ (l : Nat) (J : σ → World → Prop), (∀ s W, J s W → I s W) → (∀ s W W', J s W → Below W.heap.size W W' → J s W') →
   (∀ s W, J s W → more s → YieldAt Fence.wide 0 P l (arg s) W fun e W' => e = .returned (.bool true) ∧ J (nxt s) W') →
   ∀ W, J s0 W → Calls P gf (#[.func (.yield l) #[] #[]] ++ lb) W fun e W' => (∃ v, e = .returned v) ∧ ∃ s, ¬ more s ∧ J s W')
  (Ax : σ → Act → World → Prop) (hAx : ∀ s a', OwnFrom w.heap.size (fun (_ : Unit) W => Ax s a' W))
  (hassign : ∀ (l : Nat) (s : σ) (W : World) (K : Act → World → Prop), I s W → (∀ a' W', Below W.heap.size W W' → Ax s a' W' → K a' W') →
   assign.wpIn (Fence.wide.inRound l) 0 P (Exit.then K (fun _ _ _ => False)) { tmps := (ps.zip (arg s)).foldl (fun t (p, v) => t.setIfInBounds p v) a.tmps, defers := [] } W)
  (hbody : ∀ (l : Nat) (s : σ) (a' : Act) (W : World), I s W → Ax s a' W → more s → body.wpIn (Fence.wide.inRound l) 0 P (fun e _ W' => e = .normal ∧ KeepsFrom w.heap.size W W' ∧ I (nxt s) W') a' W)
  (hdone : ∀ (D : Nat) (s : σ) (W : World), w.heap.size ≤ D → ¬ more s → I s W → W.heap[D]? = some (.deferred (some [])) → Q .normal { a with defers := { target := .collected D, args := #[] } :: a.defers } W) :
  (Code.rangeFunc g ps assign body).wp P Q a w := by
 refine (wpIn_wide (n := 0)).1 (wpIn_rangeFunc ?_)
 intro fn hfn
 obtain ⟨rec, hrec⟩ : ∃ rec : LoopState → Loop, rec = fun st => { state := st, pending := none, fn, tmps := a.tmps, params := ps, assign, body, defers := w.heap.size } := ⟨_, rfl⟩
 obtain ⟨W1, hW1⟩ : ∃ W1, (w.alloc (.deferred (some []))).alloc (.loop (rec .ready)) = W1 := ⟨_, rfl⟩
 have hL1 : W1.heap[w.heap.size + 1]? = some (.loop (rec .ready)) := by
  rw [← hW1]; have := World.alloc_heap_new (w.alloc (.deferred (some []))) (.loop (rec .ready)); rwa [World.size_alloc] at this
 have hK1 : W1.heap[w.heap.size]? = some (.deferred (some [])) := by
  rw [← hW1]; exact (Below.heap_alloc _ _ _ (by simp)).trans (World.alloc_heap_new w _)
 have hI1 : I s0 W1 := by rw [← hW1]; exact hI.alloc _ (hI.alloc _ h0)
 refine ⟨w.heap.size + 1, [{ target := .collected w.heap.size, args := #[] }], W1, { target := .fn (.func gf) lb, args := #[.func (.yield (w.heap.size + 1)) #[] #[]] }, W1, gf,
  #[.func (.yield (w.heap.size + 1)) #[] #[]] ++ lb, W1, ?_, ?_, fun _ _ => trivial, ?_, (fun h => (by cases h)), ?_⟩
 ·rw [← hW1, hrec]; exact run_enterLoop_outer _ _ _ _ _
 ·simp only [resolve, hg]
  simp [go_sem]
 ·simp [invoke, go_sem, eg]
 ·refine callsIn_wide.2 ((hit (w.heap.size + 1)
   (fun s W => I s W ∧ W.heap[w.heap.size + 1]? = some (.loop (rec .ready)) ∧ W.heap[w.heap.size]? = some (.deferred (some [])))
   (fun s W h => h.1)
   (fun s W W' h hb => ⟨hIb s W W' h.1 hb, (hb.block _ (Array.getElem?_eq_some_iff.1 h.2.1).1).trans h.2.1, (hb.block _ (Array.getElem?_eq_some_iff.1 h.2.2).1).trans h.2.2⟩)
   ?_ W1 ⟨hI1, hL1, hK1⟩).mono ?_)
  ·rintro s W ⟨hi, hl, hk⟩ hm
   have hlt : w.heap.size + 1 < W.heap.size := (Array.getElem?_eq_some_iff.1 hl).1
   have hy := run_yield (P := P) (args := arg s) hl (by rw [hrec]; exact hps s)
   rw [hrec] at hy
   refine ⟨fn, _, assign, body, hy, roundIn_of_wpIn hfn (hassign _ s W _ hi fun a' W' hb hax => ?_)⟩
   replace hi := hIb s W W' hi hb
   replace hl := (hb.block _ (Array.getElem?_eq_some_iff.1 hl).1).trans hl
   replace hk := (hb.block _ (Array.getElem?_eq_some_iff.1 hk).1).trans hk
   replace hlt := Nat.lt_of_lt_of_le hlt hb.size
   clear hb hy
   refine ⟨_, run_beginRound hl (by rw [hrec]), ?_⟩
   have hl2 : (W'.putObj (w.heap.size + 1) (.loop { rec .ready with state := .busy })).heap[w.heap.size + 1]? = some (.loop { rec .ready with state := .busy }) := World.putObj_heap_same hlt
   have hk2 : (W'.putObj (w.heap.size + 1) (.loop { rec .ready with state := .busy })).heap[w.heap.size]? = some (.deferred (some [])) := (World.putObj_heap_other (by omega)).trans hk
   refine wpIn_mono (hbody _ s a' _ (hI.putObj _ hi (by omega) hl rfl) ((hAx s a').putObj (s := ()) _ hax (by omega) hl rfl) hm) ?_
   ·rintro e a3 W3 ⟨rfl, hk3, hi3⟩
    have hl3 := hk3.same _ _ (by omega) hl2 rfl
    have hk4 := hk3.same _ _ (Nat.le_refl _) hk2 rfl
    have hr := run_endRound (P := P) none hl3
    refine ⟨_, _, hr, rfl, hI.putObj _ hi3 (by omega) hl3 rfl, ?_, ?_⟩
    ·rw [hrec]; exact World.putObj_heap_same (Array.getElem?_eq_some_iff.1 hl3).1
    ·exact (World.putObj_heap_other (by omega)).trans hk4
  ·rintro e W2 ⟨⟨v, rfl⟩, s, hm, hi, hl, hk⟩
   exact ⟨none, _, by have := run_endLoop (P := P) hl (by rw [hrec]; simp); rw [hrec] at this; exact this, hdone _ s _ (Nat.le_refl _) hm (hI.putObj _ hi (by omega) hl rfl) ((World.putObj_heap_other (by omega)).trans hk)⟩
end
end Go.Proofs.YtghmkacamabndaaGreatDoor.Rng
namespace Go.Proofs.YtghmkacamabndaaGreatDoor.Mem
open Go.ChangeShapes Go.WideShapes Go.RowKit Base Num Slc Slf Rw Tmr Srl Rom Opl Reg

theorem arrive_len (s : St) (m : M3) : (s.arrive m).o.length ≤ s.o.length + 1 ∧ (s.arrive m).e.length ≤ s.e.length + 1 := by
 unfold St.arrive
 repeat' split
 all_goals simp [St.through, St.sends, St.port]
theorem beats_len (s : St) (fin : Int) : (s.beats fin).o.length = s.o.length + 1 ∧ (s.beats fin).e = s.e ∧ (s.beats fin).u = s.u := by
 refine ⟨?_, rfl, rfl⟩
 simp [St.beats, St.sends, St.port]
theorem next_takes {s : St} {l : List M3} {fin : Int} (hl : inboxOk l = true) (hu : 0 ≤ s.u) (h : s.takes l fin = true) : s.next l = M3.at' l s.u.toNat ∧ (M3.at' l s.u.toNat).t ≤ fin := by
 simp only [St.takes, Bool.and_eq_true, decide_eq_true_eq, Bool.or_eq_true, beq_iff_eq] at h
 obtain ⟨⟨h1, h2⟩, h3⟩ := h
 have hok := inbox_at hl (i := s.u.toNat) (by omega)
 simp only [M3.ok, Bool.and_eq_true] at hok
 have ht := inn_true hok.1
 have hx : (M3.at' l s.u.toNat).t ≤ s.nextAt := by
  unfold St.nextAt
  split
  ·omega
  ·rename_i hx
   rcases h3 with (h3 | h3) | h3
   ·exact absurd h3 hx
   ·omega
   ·exact h3
 refine ⟨?_, h2⟩
 unfold St.next
 rw [if_pos ⟨h1, hx⟩]
theorem next_beats {s : St} {l : List M3} {fin : Int} (h1 : s.takes l fin = false) (h2 : s.idle fin = false) : s.next l = ⟨s.m.p.x, 0, 0⟩ ∧ s.m.p.x ≤ fin := by
 simp only [St.idle, Bool.or_eq_false_iff, beq_eq_false_iff_ne, ne_eq, decide_eq_false_iff_not] at h2
 obtain ⟨hx, hf⟩ := h2
 have e : s.nextAt = s.m.p.x := by unfold St.nextAt; rw [if_neg hx]
 refine ⟨?_, by omega⟩
 unfold St.next
 rw [e, if_neg]
 rintro ⟨h3, h4⟩
 have : s.takes l fin = true := by
  simp only [St.takes, Bool.and_eq_true, decide_eq_true_eq, Bool.or_eq_true, beq_iff_eq]
  exact ⟨⟨h3, by omega⟩, .inr h4⟩
 rw [this] at h1; cases h1
theorem next_none {s : St} {l : List M3} {fin : Int} (hf : fin ≤ 999999900) (h1 : s.takes l fin = false) (h2 : s.idle fin = true) : ¬ (s.next l).t ≤ fin := by
 simp only [St.idle, Bool.or_eq_true, beq_iff_eq, decide_eq_true_eq] at h2
 unfold St.next
 split
 ·rename_i h
  intro h3
  have : s.takes l fin = true := by
   simp only [St.takes, Bool.and_eq_true, decide_eq_true_eq, Bool.or_eq_true, beq_iff_eq]
   exact ⟨⟨h.1, h3⟩, .inl h2⟩
  rw [this] at h1; cases h1
 ·show ¬ s.nextAt ≤ fin
  unfold St.nextAt
  split
  ·omega
  ·rename_i hx
   rcases h2 with h2 | h2
   ·exact absurd h2 hx
   ·omega
structure Run (l : List M3) (fin : Int) (F : St) (n : Nat) (s : St) : Prop where
 u0 : 0 ≤ s.u
 un : s.u + n ≤ 10000
 on : s.o.length + n ≤ 10000
 en : s.e.length + n ≤ 10000
 mn : s.meas l ≤ n
 ev : s.events l fin n = F
theorem Run.step {l : List M3} {fin : Int} {F : St} {n : Nat} {s : St} (h : Run l fin F n s) (hl : inboxOk l = true) (hf : fin ≤ 999999900) (hm : (s.next l).t ≤ fin) : Run l fin F (n - 1) (s.met (s.next l) fin) ∧ 1 ≤ n ∧ (0 ≤ (s.next l).t ∧ (s.next l).t ≤ 1000000100 ∨ (s.next l).k = 0) := by
 cases ht : s.takes l fin
 ·cases hi : s.idle fin
  ·obtain ⟨e, hx⟩ := next_beats ht hi
   obtain ⟨e1, e2⟩ := events_beat ht hi h.mn
   have hlt := meas_beats (l := l) hi
   have hmn := h.mn
   have hb := beats_len s fin
   rw [e]
   have em : s.met ⟨s.m.p.x, 0, 0⟩ fin = s.beats fin := by unfold St.met; rw [if_pos rfl]
   rw [em]
   have hn : 1 ≤ n := by omega
   have h1 := h.un
   have h2 := h.on
   have h3 := h.en
   exact ⟨⟨by rw [hb.2.2]; exact h.u0, by rw [hb.2.2]; omega, by rw [hb.1]; omega, by rw [hb.2.1]; omega, e2, by rw [← e1]; exact h.ev⟩, hn, .inr rfl⟩
  ·exact absurd hm (next_none hf ht hi)
 ·obtain ⟨e, hx⟩ := next_takes hl h.u0 ht
  obtain ⟨e1, e2⟩ := events_take ht h.u0 h.mn
  have hlt := meas_taken ht h.u0
  have hmn := h.mn
  have hu : s.u < l.length := by
   simp only [St.takes, Bool.and_eq_true, decide_eq_true_eq] at ht
   exact ht.1.1
  have hu0 := h.u0
  have hok := inbox_at hl (i := s.u.toNat) (by omega)
  simp only [M3.ok, Bool.and_eq_true] at hok
  have hk : (M3.at' l s.u.toNat).k ≠ 0 := by
   intro hk
   have := hok.2
   rw [hk] at this
   simp at this
  have hal := arrive_len s (M3.at' l s.u.toNat)
  rw [e]
  have em : s.met (M3.at' l s.u.toNat) fin = s.taken l := by unfold St.met; rw [if_neg hk]; rfl
  rw [em]
  have hn : 1 ≤ n := by omega
  have h1 := h.un
  have h2 := h.on
  have h3 := h.en
  exact ⟨⟨by show 0 ≤ s.u + 1; omega, by show s.u + 1 + _ ≤ _; omega, by show (s.arrive _).o.length + _ ≤ _; omega, by show (s.arrive _).e.length + _ ≤ _; omega, e2, by rw [← e1]; exact h.ev⟩, hn, .inl (inn_true hok.1)⟩
theorem Run.done {l : List M3} {fin : Int} {F : St} {n : Nat} {s : St} (h : Run l fin F n s) (hl : inboxOk l = true) (hm : ¬ (s.next l).t ≤ fin) : s = F := by
 cases ht : s.takes l fin
 ·cases hi : s.idle fin
  ·obtain ⟨e, hx⟩ := next_beats ht hi
   exact absurd (by rw [e]; exact hx) hm
  ·rw [← h.ev, events_done ht hi]
 ·obtain ⟨e, hx⟩ := next_takes hl h.u0 ht
  exact absurd (by rw [e]; exact hx) hm
structure Its (base g bl : Nat) (x y vi : Value) (co fin : Int) (l : List M3) (F : St) (p : St × Nat) (W : World) : Prop where
 row : ∃ vo ve, GRow W g x y vo ve vi p.1 co fin ∧ So base W x y vo ve p.1
 sl : SlF fM W vi l
 cell : W.cell? ⟨bl, 0, none⟩ = some (.pointer (some ⟨g, 0, none⟩))
 lt : bl < W.heap.size
 run : Run l fin F p.2 p.1
def more (l : List M3) (fin : Int) (p : St × Nat) : Prop := (p.1.next l).t ≤ fin
def nxt (l : List M3) (fin : Int) (p : St × Nat) : St × Nat := (p.1.met (p.1.next l) fin, p.2 - 1)
section
variable {op : Oper} {a : Act} {w : World} {K : Act → World → Prop} {Q : Exit → Act → World → Prop} {p : Operand}
theorem ldm_op {g : Nat} {m : M3} (ho : op.op = .load 40 p) (hx : a.eval p = .pointer (some ⟨g, 0, none⟩)) (hr : M3Row w g m) (h : K (a.put op.dst m.val) w) : op.wp Tryz.prog a w K Q :=
 lw_in (cs' := #[.int .i64 m.t, .int .i64 m.k, .int .i64 m.v]) ho hx hr Tryz.underlying40 rfl (by kernel_rfl) info_m3 h
end
section
variable {base g bl : Nat} {x y vi : Value} {co fin : Int} {l : List M3} {F : St}
set_option maxHeartbeats 2000000 in
theorem meanwhile_it (hl : inboxOk l = true) (hf : fin ≤ 999999900) (lr : Nat) (J : St × Nat → World → Prop) (hJI : ∀ p W, J p W → Its base g bl x y vi co fin l F p W) (hJb : ∀ p W W', J p W → Below W.heap.size W W' → J p W')
  (hY : ∀ p W, J p W → more l fin p → YieldAt Fence.wide 0 Tryz.prog lr #[(p.1.next l).val] W fun e W' => e = .returned (.bool true) ∧ J (nxt l fin p) W') (p0 : St × Nat) (W0 : World) (h0 : J p0 W0) :
  Calls Tryz.prog 114 #[.func (.yield lr) #[] #[], .pointer (some ⟨bl, 0, none⟩)] W0 fun e W' => (∃ v, e = .returned v) ∧ ∃ p, ¬ more l fin p ∧ J p W' := by
 go_enter Tryz.func114, Tryz.ntmps114
 go_wp2
 go_loopg [] p0.2 (fun n wr => ∃ p, p.2 = n ∧ J p wr)
 case atStart => exact ⟨p0, rfl, h0⟩
 case round =>
  obtain ⟨p, hpn, hJ⟩ := hrel
  have hI := hJI p wr hJ
  obtain ⟨vo, ve, hg, hs⟩ := hI.row
  have hsl := hI.sl
  have hc := hI.cell
  have hu0 := hI.run.u0
  obtain ⟨q, hq⟩ : ∃ q, p.1.next l = q := ⟨_, rfl⟩
  have HQ : Hid (p.1.next l = q) := hq
  obtain ⟨qt, hqt⟩ : ∃ qt, q.t = qt := ⟨_, rfl⟩
  have HT : Hid (q.t = qt) := hqt
  have HP : Hid (p.2 = gk) := hpn
  by_cases hm : qt ≤ fin
  ·have hmore : more l fin p := by unfold more; rw [hq, hqt]; exact hm
   have HYp : Hid (∀ W, J p W → YieldAt Fence.wide 0 Tryz.prog lr #[q.val] W fun e W' => e = .returned (.bool true) ∧ J (nxt l fin p) W') := show ∀ W, J p W → _ from fun W hW => by have := hY p W hW hmore; rw [hq] at this; exact this
   have hn1 : 1 ≤ gk := by have := (hI.run.step hl hf (by rw [hq, hqt]; exact hm)).2.1; omega
   clear hq hqt hpn hI hmore
   go_wp2_with (first
    | (go_at_call 115; refine (next_impl hu0 hg hsl).mono ?_; rw [HQ.out]; rintro e w1 ⟨rfl, hb1⟩; have J1 := hJb _ _ _ hJ hb1; have lw1 : w1.heap.size ≤ w1.heap.size := Nat.le_refl _)
    | (refine al_m3 rfl rfl ?_; intro w2 q2 hb2)
    | (refine st_m3 rfl rfl rfl rfl q2 ?_; rintro w3 q3 o3; have J3 := hJb _ _ _ J1 (below_onto hb2 o3 (Nat.le_refl _))))
   have hG : J p w3 ∧ M3Row w3 w1.heap.size q := ⟨J3, q3⟩
   have hG' : J p w3.drew ∧ M3Row w3.drew w1.heap.size q := ⟨hJb _ _ _ J3 (drew_below (n := 1) rfl), q3.below (drew_below (n := 1) rfl)⟩
   obtain ⟨b3, hb3⟩ : ∃ b3, w1.heap.size = b3 := ⟨_, rfl⟩
   rw [hb3] at hG'
   rw [hb3]
   clear hG J3 q3 o3 q2 hb2 J1 lw1 hb1 hb3 hc hg hs hsl hJ
   simp only [Act.put, List.setIfInBounds_toArray, List.set_cons_zero, List.set_cons_succ]
   refine (wpIn_wide (n := 0)).1 ?_
   refine region_turn_in (by kernel_rfl) (by kernel_rfl) 10 (by decide) (by kernel_rfl) (fun W => J p W ∧ M3Row W b3 q) (fun W => J (nxt l fin p) W) [.pointer (some ⟨b3, 0, none⟩), .int .i64 qt, .pointer (some ⟨g, 0, none⟩), .pointer (some ⟨g, 0, none⟩), .pointer (some ⟨g, 30, none⟩), .int .i64 fin, .bool false, .bool false, .func (.yield lr) #[] #[], q.val, .bool true, .bool false, .bool false] hG' ?step ?turn ?done
   case step =>
    intro L ix o' A W hne hj hI hg0 hd
    have hin : ix < 13 := by
     by_cases hl : ix < 13
     ·exact hl
     ·simp [hl] at hj
    have hsz : A.tmps.size = 19 := hI.size
    rcases ix with _ | _ | _ | _ | _ | _ | _ | _ | _ | _ | _ | _ | _ | ix
    ·cases hj; exact at_opW rfl rfl (one_op (x := .tmp 3) (hI.old 3 (by kernel_rfl)) rfl (by kernel_rfl) ⟨_, rfl, rfl, rfl⟩)
    ·cases hj
     have e0 : A.eval (.tmp 6) = .pointer (some ⟨b3, 0, none⟩) := hI.val hd 0 6 rfl rfl (by kernel_rfl)
     have hg := hg0 (by kernel_rfl)
     exact at_opW rfl rfl (load_op rfl Tryz.underlying2 e0 (by have := hg.2.cell 0; rw [← HT.out]; exact this) ⟨_, rfl, rfl, rfl⟩)
    ·cases hj
     have e0 : A.eval (.tmp 1) = .pointer (some ⟨bl, 0, none⟩) := hI.old 1 (by kernel_rfl)
     have hg := hg0 (by kernel_rfl)
     exact at_opW rfl rfl (ldv_op rfl Tryz.underlying136 rfl e0 (hJI _ _ hg.1).cell ⟨_, rfl, rfl, rfl⟩)
    ·cases hj; exact at_opW rfl rfl (nil_op rfl (hI.val hd 2 8 rfl rfl (by kernel_rfl)) ⟨_, rfl, rfl, rfl⟩)
    ·cases hj; exact at_opW rfl rfl (one_op (hI.val hd 3 9 rfl rfl (by kernel_rfl)) rfl (by kernel_rfl) ⟨_, rfl, rfl, rfl⟩)
    ·cases hj
     have e0 : A.eval (.tmp 10) = .pointer (some ⟨g, 30, none⟩) := hI.val hd 4 10 rfl rfl (by kernel_rfl)
     have hg := hg0 (by kernel_rfl)
     obtain ⟨vo', ve', hgr, -⟩ := (hJI _ _ hg.1).row
     exact at_opW rfl rfl (load_op rfl Tryz.underlying2 e0 (gc hgr).fin ⟨_, rfl, rfl, rfl⟩)
    ·cases hj
     have e0 : A.eval (.tmp 7) = .int .i64 qt := hI.val hd 1 7 rfl rfl (by kernel_rfl)
     have e1 : A.eval (.tmp 11) = .int .i64 fin := hI.val hd 5 11 rfl rfl (by kernel_rfl)
     have hg := hg0 (by kernel_rfl)
     exact at_opW rfl rfl (bin_op rfl e0 e1 (fun w => by first | (simp [go_sem]; done) | (simp [go_sem]; omega)) ⟨_, rfl, rfl, rfl⟩)
    ·cases hj; exact at_opW rfl rfl (move_op rfl ⟨_, rfl, hI.val hd 6 12 rfl rfl (by kernel_rfl), rfl⟩)
    ·cases hj; exact at_guardW rfl rfl (j := 7) (k := 13) rfl (by omega) (hI.val hd 7 13 rfl rfl (by kernel_rfl)) (move_op rfl ⟨_, rfl, hI.old 0 (by kernel_rfl), rfl⟩)
    ·cases hj
     have hgv : A.tmps.getD 13 undef = .bool false := hI.val hd 7 13 rfl rfl (by kernel_rfl)
     have e0 : A.eval (.tmp 3) = .pointer (some ⟨b3, 0, none⟩) := hI.old 3 (by kernel_rfl)
     have hg := hg0 (by kernel_rfl)
     exact at_guardW rfl rfl (j := 7) (k := 13) rfl (by omega) hgv (ldm_op rfl e0 hg.2 ⟨_, rfl, rfl, rfl⟩)
    ·exact absurd rfl hne
    ·cases hj; exact at_guardW rfl rfl (j := 7) (k := 13) rfl (by omega) (hI.val hd 7 13 rfl rfl (by kernel_rfl)) (one_op (hI.val hd 10 16 rfl rfl (by kernel_rfl)) rfl (by kernel_rfl) ⟨_, rfl, rfl, rfl⟩)
    ·cases hj
     have e0 : A.eval (.tmp 13) = .bool false := hI.val hd 7 13 rfl rfl (by kernel_rfl)
     have e1 : A.eval (.tmp 17) = .bool false := hI.val hd 11 17 rfl rfl (by kernel_rfl)
     exact at_opW rfl rfl (pick_op rfl e0 ⟨_, rfl, e1, rfl⟩)
    omega
   case turn =>
    intro L o' A W hj hI hg hd
    cases hj
    have hsz : A.tmps.size = 19 := hI.size
    have hgv : A.tmps.getD 13 undef = .bool false := hI.val hd 7 13 rfl rfl (by kernel_rfl)
    have e0 : A.eval (.tmp 14) = .func (.yield lr) #[] #[] := hI.val hd 8 14 rfl rfl (by kernel_rfl)
    have e1 : A.eval (.tmp 15) = q.val := hI.val hd 9 15 rfl rfl (by kernel_rfl)
    refine at_guardIn rfl rfl (j := 7) (k := 13) rfl (by omega) hgv (yield_op (args := [.tmp 15]) rfl e0 (by simp only [List.map_cons, List.map_nil, e1]) (HYp.out _ hg.1) rfl ?_)
    rintro e W' ⟨rfl, hJ'⟩
    exact ⟨_, rfl, _, rfl, rfl, hJ'⟩
   case done =>
    intro A W hI hE
    have s18 : A.tmps.getD 18 undef = .bool false := hI.last 12 18 rfl
    have hA := hI.frame [6, 7, 8, 9, 10, 11, 12, 13, 14, 15, 16, 17, 18] (by kernel_rfl)
    rw [hA]
    simp only [putAll, List.foldl_cons, List.foldl_nil, s18, Act.put, List.setIfInBounds_toArray, List.set_cons_zero, List.set_cons_succ]
    clear hA hI s18
    go_wp2_with fail
    go_roundg (gk - 1)
    case measure => omega
    case rel => exact ⟨nxt l fin p, by show p.2 - 1 = _; rw [HP.out], hE⟩
  ·have hmore : ¬ more l fin p := by unfold more; rw [hq, hqt]; exact hm
   have hgt : fin < qt := by omega
   clear hq hqt hpn hI
   go_wp2_with (first
    | (go_at_call 115; refine (next_impl hu0 hg hsl).mono ?_; rw [HQ.out]; rintro e w1 ⟨rfl, hb1⟩; have J1 := hJb _ _ _ hJ hb1; have lw1 : w1.heap.size ≤ w1.heap.size := Nat.le_refl _)
    | (refine al_m3 rfl rfl ?_; intro w2 q2 hb2)
    | (refine st_m3 rfl rfl rfl rfl q2 ?_; rintro w3 q3 o3; have J3 := hJb _ _ _ J1 (below_onto hb2 o3 (Nat.le_refl _))))
   have hG' : J p w3.drew ∧ M3Row w3.drew w1.heap.size q := ⟨hJb _ _ _ J3 (drew_below (n := 1) rfl), q3.below (drew_below (n := 1) rfl)⟩
   obtain ⟨b3, hb3⟩ : ∃ b3, w1.heap.size = b3 := ⟨_, rfl⟩
   rw [hb3] at hG'
   rw [hb3]
   clear J3 q3 o3 q2 hb2 J1 lw1 hb1 hb3 hc hg hs hsl hJ
   simp only [Act.put, List.setIfInBounds_toArray, List.set_cons_zero, List.set_cons_succ]
   refine region_known (by kernel_rfl) (by kernel_rfl) 0 (by decide) (by kernel_rfl) (fun _ W => J p W ∧ M3Row W b3 q) [.pointer (some ⟨b3, 0, none⟩), .int .i64 qt, .pointer (some ⟨g, 0, none⟩), .pointer (some ⟨g, 0, none⟩), .pointer (some ⟨g, 30, none⟩), .int .i64 fin, .bool true, .bool true, undef, undef, undef, undef, .bool true] hG' ?step ?done
   case step =>
    intro L ix o' A W hj hI hL hd
    have hin : ix < 13 := by
     by_cases hl : ix < 13
     ·exact hl
     ·simp [hl] at hj
    have hsz : A.tmps.size = 19 := hI.size
    have hg := hI.g
    rcases ix with _ | _ | _ | _ | _ | _ | _ | _ | _ | _ | _ | _ | _ | ix
    ·cases hj; exact at_op rfl rfl (one_op (x := .tmp 3) (hI.old 3 (by kernel_rfl)) rfl (by kernel_rfl) ⟨_, rfl, rfl, hg⟩)
    ·cases hj
     have e0 : A.eval (.tmp 6) = .pointer (some ⟨b3, 0, none⟩) := hI.val hd 0 6 rfl rfl (by kernel_rfl)
     exact at_op rfl rfl (load_op rfl Tryz.underlying2 e0 (by have := hg.2.cell 0; rw [← HT.out]; exact this) ⟨_, rfl, rfl, hg⟩)
    ·cases hj
     have e0 : A.eval (.tmp 1) = .pointer (some ⟨bl, 0, none⟩) := hI.old 1 (by kernel_rfl)
     exact at_op rfl rfl (ldv_op rfl Tryz.underlying136 rfl e0 (hJI _ _ hg.1).cell ⟨_, rfl, rfl, hg⟩)
    ·cases hj; exact at_op rfl rfl (nil_op rfl (hI.val hd 2 8 rfl rfl (by kernel_rfl)) ⟨_, rfl, rfl, hg⟩)
    ·cases hj; exact at_op rfl rfl (one_op (hI.val hd 3 9 rfl rfl (by kernel_rfl)) rfl (by kernel_rfl) ⟨_, rfl, rfl, hg⟩)
    ·cases hj
     have e0 : A.eval (.tmp 10) = .pointer (some ⟨g, 30, none⟩) := hI.val hd 4 10 rfl rfl (by kernel_rfl)
     obtain ⟨vo', ve', hgr, -⟩ := (hJI _ _ hg.1).row
     exact at_op rfl rfl (load_op rfl Tryz.underlying2 e0 (gc hgr).fin ⟨_, rfl, rfl, hg⟩)
    ·cases hj
     have e0 : A.eval (.tmp 7) = .int .i64 qt := hI.val hd 1 7 rfl rfl (by kernel_rfl)
     have e1 : A.eval (.tmp 11) = .int .i64 fin := hI.val hd 5 11 rfl rfl (by kernel_rfl)
     exact at_op rfl rfl (bin_op rfl e0 e1 (fun w => by first | (simp [go_sem]; done) | (simp [go_sem]; omega)) ⟨_, rfl, rfl, hg⟩)
    ·cases hj; exact at_op rfl rfl (move_op rfl ⟨_, rfl, hI.val hd 6 12 rfl rfl (by kernel_rfl), hg⟩)
    ·cases hj
     have hgv : A.tmps.getD 13 undef = .bool true := hI.val hd 7 13 rfl rfl (by kernel_rfl)
     exact at_skip rfl rfl (j := 7) (k := 13) rfl (by rw [hgv]; simp [undef]) ⟨_, rfl, rfl, hg⟩
    ·cases hj
     have hgv : A.tmps.getD 13 undef = .bool true := hI.val hd 7 13 rfl rfl (by kernel_rfl)
     exact at_skip rfl rfl (j := 7) (k := 13) rfl (by rw [hgv]; simp [undef]) ⟨_, rfl, rfl, hg⟩
    ·cases hj
     have hgv : A.tmps.getD 13 undef = .bool true := hI.val hd 7 13 rfl rfl (by kernel_rfl)
     exact at_skip rfl rfl (j := 7) (k := 13) rfl (by rw [hgv]; simp [undef]) ⟨_, rfl, rfl, hg⟩
    ·cases hj
     have hgv : A.tmps.getD 13 undef = .bool true := hI.val hd 7 13 rfl rfl (by kernel_rfl)
     exact at_skip rfl rfl (j := 7) (k := 13) rfl (by rw [hgv]; simp [undef]) ⟨_, rfl, rfl, hg⟩
    ·cases hj
     have e0 : A.eval (.tmp 13) = .bool true := hI.val hd 7 13 rfl rfl (by kernel_rfl)
     have e1 : A.eval (.tmp 17) = undef := hI.val hd 11 17 rfl rfl (by kernel_rfl)
     exact at_op rfl rfl (pick_op rfl e0 ⟨_, rfl, rfl, hg⟩)
    omega
   case done =>
    intro A W hI
    have hg := hI.g
    have s18 : A.tmps.getD 18 undef = .bool true := hI.last 12 18 rfl
    have hA := hI.frame [6, 7, 8, 9, 10, 11, 12, 13, 14, 15, 16, 17, 18] (by kernel_rfl)
    rw [hA]
    simp only [putAll, List.foldl_cons, List.foldl_nil, s18, Act.put, List.setIfInBounds_toArray, List.set_cons_zero, List.set_cons_succ]
    clear hA hI s18
    go_wp2_with fail
    refine ret_unitR rfl rfl ?_
    exact ⟨⟨_, rfl⟩, p, hmore, hg.1⟩
end
end Go.Proofs.YtghmkacamabndaaGreatDoor.Mem
namespace Go.Proofs.YtghmkacamabndaaGreatDoor.Mem
open Go.ChangeShapes Go.WideShapes Go.RowKit Base Num Slc Slf Rw Tmr Srl Rom Opl Reg

theorem meanwhile_impl (g : Nat) (w : World) :
  Calls Tryz.prog 52 #[.pointer (some ⟨g, 0, none⟩)] w fun e w' => e = .returned (.func (.func 114) #[] #[.pointer (some ⟨w.heap.size, 0, none⟩)]) ∧ Row w' w.heap.size #[.pointer (some ⟨g, 0, none⟩)] 136 ∧ Below w.heap.size w w' := by
 go_enter Tryz.func52, Tryz.ntmps52
 go_wp2
 refine bodyPost_ret (results_tmp rfl _ _ _) rfl ?_
 exact ⟨rfl, Row.new _ _ _, (Below.refl _ _).alloc (Nat.le_refl _) _⟩
/-! What a turn of a block that is no cells leaves. -/
section
variable {w w' : World} {base g : Nat} {row : Option Nat} {x y vo ve vi : Value} {s : St} {co fin : Int}
theorem row_kept {b : Nat} {cs : Array Value} {T : TypeId} (h : Row w b cs T) (hg : w.grownBy w' row) (hr : ∀ r, row = some r → ∃ o : Obj, w.heap[r]? = some o ∧ o.isCells = false) : Row w' b cs T :=
 h.keep (hg.block b h.lt (fun e => by
  obtain ⟨o, ho, hc⟩ := hr b e.symm
  rw [h.row] at ho
  cases ho
  cases hc))
theorem ownF_cells {α : Type} {f : Fl α} {v : Value} {l : List α} (h : OwnF f base w v l) {k : Nat} (hk : v.ownBlock = some k) : ∃ o : Obj, w.heap[k]? = some o ∧ o.isCells = true := by
 rcases h.2 with ⟨rfl, _⟩ | ⟨g', cap, cur, rfl, _, hb, _⟩
 ·cases hk
 ·have e' : g' = k := Option.some.inj hk
  subst e'
  exact ⟨_, hb, rfl⟩
theorem own_cells {v : Value} {l : List Int} (h : Slc.Own base w v l) {k : Nat} (hk : v.ownBlock = some k) : ∃ o : Obj, w.heap[k]? = some o ∧ o.isCells = true := by
 rcases h.2 with ⟨rfl, _⟩ | ⟨g', cap, cur, rfl, _, hb, _⟩
 ·cases hk
 ·have e' : g' = k := Option.some.inj hk
  subst e'
  exact ⟨_, hb, rfl⟩
theorem ownF_kept {α : Type} {f : Fl α} {v : Value} {l : List α} (h : OwnF f base w v l) (hg : w.grownBy w' row) (hr : ∀ r, row = some r → ∃ o : Obj, w.heap[r]? = some o ∧ o.isCells = false) : OwnF f base w' v l :=
 h.grown hg (fun k hk e => by
  obtain ⟨o, ho, hc⟩ := hr k hk
  obtain ⟨o', ho', hc'⟩ := ownF_cells h e
  rw [ho] at ho'
  cases ho'
  rw [hc] at hc'; cases hc')
theorem own_kept {v : Value} {l : List Int} (h : Slc.Own base w v l) (hg : w.grownBy w' row) (hr : ∀ r, row = some r → ∃ o : Obj, w.heap[r]? = some o ∧ o.isCells = false) : Slc.Own base w' v l :=
 h.grown hg (fun k hk e => by
  obtain ⟨o, ho, hc⟩ := hr k hk
  obtain ⟨o', ho', hc'⟩ := own_cells h e
  rw [ho] at ho'
  cases ho'
  rw [hc] at hc'; cases hc')
theorem so_kept (h : So base w x y vo ve s) (hg : w.grownBy w' row) (hr : ∀ r, row = some r → ∃ o : Obj, w.heap[r]? = some o ∧ o.isCells = false) : So base w' x y vo ve s :=
 ⟨⟨own_kept h.ow.hx hg hr, own_kept h.ow.hy hg hr, h.ow.ap, Nat.le_trans h.ow.le hg.size⟩, ownF_kept h.o hg hr, ownF_kept h.e hg hr⟩
theorem Mid.keeps {B : Nat} {cs : Array Value} {T : TypeId} (h : Mid base g w w') (hr : Row w g cs T) : KeepsFrom B w w' :=
 ⟨h.size, fun k o hB hk hc => (h.block k (Array.getElem?_eq_some_iff.1 hk).1 (fun e => by subst e; rw [hr.row] at hk; cases hk; cases hc) (.inr fun cs T fz e => by rw [hk] at e; cases e; cases hc)).trans hk⟩
end
structure Sth (base g bl gz : Nat) (x y vi : Value) (co fin : Int) (l : List M3) (F : St) (w : World) (p : St × Nat) (W : World) : Prop where
 its : Its base g bl x y vi co fin l F p W
 box : Row W bl #[.pointer (some ⟨g, 0, none⟩)] 136
 res : SRow W gz nil64 nil64 nil64 nil64 St.nul
 bel : Below base w W
section
variable {w W W' : World} {base g bl gz : Nat} {x y vi : Value} {co fin : Int} {l : List M3} {F : St} {p : St × Nat}
theorem Sth.kept (h : Sth base g bl gz x y vi co fin l F w p W) (hb : base ≤ w.heap.size) (hvi : 0 < l.length → ∀ k, vi.ownBlock = some k → k < base) {row : Option Nat} (hg : W.grownBy W' row) (hr : ∀ r, row = some r → base ≤ r ∧ ∃ o : Obj, W.heap[r]? = some o ∧ o.isCells = false) : Sth base g bl gz x y vi co fin l F w p W' := by
 have hr' : ∀ r, row = some r → ∃ o : Obj, W.heap[r]? = some o ∧ o.isCells = false := fun r e => (hr r e).2
 obtain ⟨vo, ve, h1, h2⟩ := h.its.row
 have hbx := row_kept h.box hg hr'
 exact ⟨⟨⟨vo, ve, row_kept h1 hg hr', so_kept h2 hg hr'⟩, h.its.sl.grown hg (fun h0 k hk e => by have := hvi h0 k e; have := (hr k hk).1; omega), hbx.cell 0, hbx.lt, h.its.run⟩, hbx, row_kept h.res hg hr', h.bel.grown hg (Nat.le_trans hb h.bel.size) (fun k e => (hr k e).1)⟩
theorem Sth.below (h : Sth base g bl gz x y vi co fin l F w p W) (hb : base ≤ w.heap.size) (hB : Below W.heap.size W W') : Sth base g bl gz x y vi co fin l F w p W' := by
 obtain ⟨vo, ve, h1, h2⟩ := h.its.row
 have hbx := h.box.below hB
 exact ⟨⟨⟨vo, ve, h1.below hB, h2.below hB⟩, h.its.sl.below hB, hbx.cell 0, hbx.lt, h.its.run⟩, hbx, h.res.below hB, h.bel.trans (hB.mono (Nat.le_trans hb h.bel.size))⟩
theorem Sth.met (h : Sth base g bl gz x y vi co fin l F w p W) (hb : base ≤ w.heap.size) (hbg : base ≤ g) (hne : bl ≠ g ∧ gz ≠ g) (hvi : 0 < l.length → ∀ k, vi.ownBlock = some k → k < base) (hl : inboxOk l = true) (hf : fin ≤ 999999900) (hm : more l fin p)
  (hG : Gd base g W W' x y vi co fin (p.1.met (p.1.next l) fin)) : Sth base g bl gz x y vi co fin l F w (nxt l fin p) W' := by
 obtain ⟨vo, ve, h1, h2, M⟩ := hG
 have hbx := M.row h.box ⟨by decide, by decide⟩ hne.1
 have hB := M.below hbg (Nat.le_trans hb h.bel.size)
 exact ⟨⟨⟨vo, ve, h1, h2⟩, M.old hbg h.its.sl hvi, hbx.cell 0, hbx.lt, (h.its.run.step hl hf hm).1⟩, hbx, M.row h.res plain_st hne.2, h.bel.trans hB⟩
end
theorem run_first {m : Mc} {l : List M3} {fin : Int} (hl : inboxOk l = true) : Run l fin ((St.first m).evs l fin) ((St.first m).meas l) (St.first m) := by
 have h1 := inboxOk_few hl
 have h2 : (St.first m).meas l ≤ 2 * l.length + 1 := by
  unfold St.meas
  have : (St.first m).u.toNat = 0 := rfl
  rw [this]
  split <;> omega
 have h3 : m.turn.2.2.length ≤ 1 := by
  unfold Mc.turn
  split
  ·split <;> simp
  ·simp
 exact ⟨by show (0 : Int) ≤ 0; omega, by show (0 : Int) + _ ≤ _; omega, by show 0 + _ ≤ _; omega, by show m.turn.2.2.length + _ ≤ _; omega, Nat.le_refl _, rfl⟩
section
variable {P : Program} {o : Oper} {a : Act} {w : World} {K : Act → World → Prop} {Q : Exit → Act → World → Prop} {n lr : Nat} {p q : Operand} {g : Nat}
theorem wp_round (hd : ∀ c, o.op ≠ .defer c) (h : o.wp P a w K Q) : o.wpIn (Fence.wide.inRound lr) n P a w K Q := by
 refine ⟨fun _ _ => trivial, ?_⟩
 have h2 : o.uponIn Fence.wide n P a K Q ((execOp a.eval o).run P w) := (wp_in (n := n) h).2
 rw [Oper.semAt_eq _ _ _ hd]
 exact h2
theorem alM_op (ho : o.op = .alloc 40) (h : ∀ w', M3Row w' w.heap.size M3.nul → Below w.heap.size w w' → K (a.put o.dst (.pointer (some ⟨w.heap.size, 0, none⟩))) w') : o.wp Tryz.prog a w K Q := by
 have e : (execOp a.eval o).run Tryz.prog w = .ok (.value (.pointer (some ⟨w.heap.size, 0, none⟩))) (w.alloc (.cells #[.int .i64 0, .int .i64 0, .int .i64 0] 40)) := by
  unfold execOp
  rw [ho]
  kernel_rfl
 unfold Oper.wp
 rw [e]
 exact h _ (Row.new _ _ _) ((Below.refl _ _).alloc (Nat.le_refl _) _)
theorem stM_op {m m0 : M3} (ho : o.op = .store 40 p q) (hx : a.eval p = .pointer (some ⟨g, 0, none⟩)) (hy : a.eval q = m.val) (hr : M3Row w g m0)
  (h : ∀ w', M3Row w' g m → Onto g w w' → K (a.put o.dst undef) w') : o.wp Tryz.prog a w K Q :=
 stRow_op (cells := #[.int .i64 m.t, .int .i64 m.k, .int .i64 m.v]) ho hx hy hr info_m3 rfl (by simp [Value.oneCell']) h
end
def Axm (g : Nat) (l : List M3) (p : St × Nat) (a' : Act) (W : World) : Prop := ∃ b, M3Row W b (p.1.next l) ∧ a'.tmps.getD 6 undef = .pointer (some ⟨g, 0, none⟩) ∧ a'.tmps.getD 7 undef = .pointer (some ⟨b, 0, none⟩) ∧ a'.tmps.size = 32
open Rng in
set_option maxHeartbeats 4000000 in
theorem stepOf_impl (v vi : Value) (m : Mc) (l : List M3) (w : World) (hm : MSl w v m) (hs : SlF fM w vi l) (ho : OpsAt w) :
  Calls Tryz.prog 9 #[v, vi] w fun e w' => AnsT w.heap.size w' e (stepOf m l) ∧ Below w.heap.size w w' := by
 obtain ⟨x, y, hv, hr, ha⟩ := hm
 obtain ⟨r, HX⟩ : ∃ r, Hid (r = stepOf m l) := ⟨_, show _ = _ from rfl⟩
 rw [← HX.out]
 cases hok : m.ok
 ·have HX' : Hid (r = (St.nul, false)) := show _ = _ by rw [HX.out]; exact stepOf_no (by rw [hok]; simp)
  refine calls_marks Tryz.func9 rfl ?_
  simp only [Tryz.ntmps9, List.size_toArray, List.length_cons, List.length_nil, Nat.reduceAdd, Nat.reduceSub, Array.replicate_succ, Array.replicate_zero, List.push_toArray, List.append_toArray, List.nil_append, List.cons_append]
  go_wp2_with (first
   | (refine box_m rfl rfl hv ?_; intro w0 r0 hb0; have hr0 := hr.below hb0; have ha0 := ha.below hb0)
   | (refine al_st rfl rfl ?_; intro w1 z1 hb1; have r1 := r0.below hb1; have hB1 := below_more hb0 hb1; have hr1 := hr0.below hb1; have ha1 := ha0.below hb1)
   | (refine ld_mc rfl rfl rfl r1 ?_)
   | (go_at_call 20; refine (machineOk_impl _ m _ ⟨x, y, rfl, hr1, ha1⟩).mono ?_; rw [hok]; rintro e w2 ⟨rfl, hb2⟩; have z2 := z1.below hb2; have hB2 := below_more hB1 hb2; have lz := z1.lt; have s2 := hB2.size; have s0 := hb0.size)
   | (refine bd_s0 rfl rfl ?_)
   | (refine st_s rfl rfl rfl rfl z2 rfl rfl rfl rfl ?_; rintro w3 z3 o3 -; have hB3 := below_onto hB2 o3 (by omega)))
  refine leave0 (ret_s2 rfl rfl z3 rfl rfl ?_)
  rw [HX'.out]
  exact ⟨⟨_, _, _, _, rfl, own_nul _ _ hB3.size⟩, hB3⟩
 ·cases hio : inboxOk l
  ·have HX' : Hid (r = (St.nul, false)) := show _ = _ by rw [HX.out]; exact stepOf_no (by rw [hio]; simp)
   refine calls_marks Tryz.func9 rfl ?_
   simp only [Tryz.ntmps9, List.size_toArray, List.length_cons, List.length_nil, Nat.reduceAdd, Nat.reduceSub, Array.replicate_succ, Array.replicate_zero, List.push_toArray, List.append_toArray, List.nil_append, List.cons_append]
   go_wp2_with (first
    | (refine box_m rfl rfl hv ?_; intro w0 r0 hb0; have hr0 := hr.below hb0; have ha0 := ha.below hb0; have hs0 := hs.below hb0)
    | (refine al_st rfl rfl ?_; intro w1 z1 hb1; have r1 := r0.below hb1; have hB1 := below_more hb0 hb1; have hr1 := hr0.below hb1; have ha1 := ha0.below hb1; have hs1 := hs0.below hb1)
    | (refine ld_mc rfl rfl rfl r1 ?_)
    | (go_at_call 20; refine (machineOk_impl _ m _ ⟨x, y, rfl, hr1, ha1⟩).mono ?_; rw [hok]; rintro e w2 ⟨rfl, hb2⟩; have z2 := z1.below hb2; have hB2 := below_more hB1 hb2; have lz := z1.lt; have s2 := hB2.size; have s0 := hb0.size; have hs2 := hs1.below hb2)
    | (go_at_call 17; refine (inboxOk_impl _ l _ hs2).mono ?_; rw [hio]; rintro e w5 ⟨rfl, hb5⟩; have z5 := z2.below hb5; have hB5 := below_more hB2 hb5; have s5 := hb5.size)
    | (refine bd_s0 rfl rfl ?_)
    | (refine st_s rfl rfl rfl rfl z5 rfl rfl rfl rfl ?_; rintro w3 z3 o3 -; have hB3 := below_onto hB5 o3 (by omega)))
   refine leave0 (ret_s2 rfl rfl z3 rfl rfl ?_)
   rw [HX'.out]
   exact ⟨⟨_, _, _, _, rfl, own_nul _ _ hB3.size⟩, hB3⟩
  ·have HIO : Hid (inboxOk l = true) := hio
   have HOK : Hid (m.ok = true) := hok
   by_cases hf : m.fin ≤ 999999900
   ·have HX' : Hid (r = (m.stepped l, true)) := show _ = _ by rw [HX.out]; exact stepOf_yes hok hio hf
    have HF : Hid (m.fin ≤ 999999900) := hf
    obtain ⟨fin, hfin⟩ : ∃ fin, m.fin = fin := ⟨_, rfl⟩
    obtain ⟨co, hco⟩ : ∃ co, m.turn.2.1 = co := ⟨_, rfl⟩
    have HFC : Hid (m.fin = fin ∧ m.turn.2.1 = co) := ⟨hfin, hco⟩
    have hff : fin ≤ 999999900 := by omega
    have hgt : decide (999999900 < fin) = false := by simp; omega
    have hone := hs.one
    clear hf hfin hco
    refine calls_marks Tryz.func9 rfl ?_
    simp only [Tryz.ntmps9, List.size_toArray, List.length_cons, List.length_nil, Nat.reduceAdd, Nat.reduceSub, Array.replicate_succ, Array.replicate_zero, List.push_toArray, List.append_toArray, List.nil_append, List.cons_append]
    go_wp2_with (first
     | (refine box_m rfl rfl hv ?_; intro w0 r0 hb0; have hr0 := hr.below hb0; have ha0 := ha.below hb0; have hs0 := hs.below hb0; have oo0 := ho.below hb0)
     | (refine al_st rfl rfl ?_; intro w1 z1 hb1; have r1 := r0.below hb1; have hB1 := below_more hb0 hb1; have hr1 := hr0.below hb1; have ha1 := ha0.below hb1; have hs1 := hs0.below hb1; have oo1 := oo0.below hb1)
     | (refine ld_mc rfl rfl rfl r1 ?_)
     | (go_at_call 20; refine (machineOk_impl _ m _ ⟨x, y, rfl, hr1, ha1⟩).mono ?_; rw [hok]; rintro e w2 ⟨rfl, hb2⟩; have z2 := z1.below hb2; have r2 := r1.below hb2; have hB2 := below_more hB1 hb2; have lz := z1.lt; have s2 := hB2.size; have s0 := hb0.size; have hs2 := hs1.below hb2; have hr2 := hr1.below hb2; have ha2 := ha1.below hb2; have t2 := hb2.size; have oo2 := oo1.below hb2)
     | (go_at_call 17; refine (inboxOk_impl _ l _ hs2).mono ?_; rw [hio]; rintro e w5 ⟨rfl, hb5⟩; have z5 := z2.below hb5; have r5 := r2.below hb5; have hB5 := below_more hB2 hb5; have s5 := hb5.size; have hs5 := hs2.below hb5; have hr5 := hr2.below hb5; have ha5 := ha2.below hb5; have oo5 := oo2.below hb5)
     | (refine ld_mc rfl rfl rfl r5 ?_)
     | (go_at_call 51; refine (begun_impl _ m _ ⟨x, y, rfl, hr5, ha5⟩ HOK.out oo5).mono ?_; unfold Bgn; rw [HFC.out.1, HFC.out.2]; rintro e w6 ⟨x6, y6, vo6, ve6, rfl, Y6, hb6⟩; have z6 := z5.below hb6; have hB6 := below_more hB5 hb6; have s6 := hb6.size; have hs6 := hs5.below hb6)
     | (refine al_g rfl rfl ?_; intro w7 g7 hb7; have z7 := z6.below hb7; have Y7 := Y6.below hb7; have hB7 := below_more hB6 hb7; have s7 := hb7.size; have hs7 := hs6.below hb7; have lg7 := g7.lt)
     | (refine st_g rfl rfl rfl rfl g7 (one_own Y7.ow.hx) (one_own Y7.ow.hy) (Y7.o.one okM) (Y7.e.one okE) rfl ?_; rintro w8 g8 o8 -; have z8 := z7.onto o8 (by omega); have Y8 := Y7.row o8 g7 plain_g (by decide); have hB8 := below_onto hB7 o8 (by omega); have s8 := o8.size; have hs8 := slF_onto hs7 o8 (fun h0 k hk => by have := hs6.lt h0 k hk; omega); have kf := (gc g8).fin)
     | (refine st_gi (v := vi) rfl rfl rfl rfl g8 hone ?_; rintro w9 g9 o9 -; have z9 := z8.onto o9 (by omega); have Y9 := Y8.row o9 g8 plain_g (by decide); have hB9 := below_onto hB8 o9 (by omega); have s9 := o9.size; have hs9 := slF_onto hs8 o9 (fun h0 k hk => by have := hs6.lt h0 k hk; omega); have lg9 := g9.lt)
     | (go_at_call 52; refine (meanwhile_impl _ _).mono ?_; rintro e wa ⟨rfl, ba, hba⟩; have za := z9.below hba; have ga := g9.below hba; have Ya := Y9.below hba; have hBa := below_more hB9 hba; have sa := hba.size; have hsa := hs9.below hba))
    have hvi : 0 < l.length → ∀ k, vi.ownBlock = some k → k < w5.heap.size := fun h0 k hk => hs5.lt h0 k hk
    have HS : Hid (m.stepped l = ((St.first m).evs l fin).closed co fin) := show _ = _ by unfold Mc.stepped; rw [HFC.out.1, HFC.out.2]
    obtain ⟨g, hg⟩ : ∃ g, w6.heap.size = g := ⟨_, rfl⟩
    obtain ⟨gz, hgz⟩ : ∃ gz, w0.heap.size = gz := ⟨_, rfl⟩
    obtain ⟨bl, hbl⟩ : ∃ bl, w9.heap.size = bl := ⟨_, rfl⟩
    have hbg : w5.heap.size ≤ g := by omega
    have hne : bl ≠ g ∧ gz ≠ g := by have := z6.lt; omega
    have h5a : w5.heap.size ≤ wa.heap.size := by omega
    have h5 : w.heap.size ≤ w5.heap.size := hB5.size
    have hgz0 : w.heap.size ≤ gz := by omega
    have hgz1 : gz < w5.heap.size := by have := z5.lt; omega
    have B5a : Below w5.heap.size w5 wa := by
     have a1 := below_more hb6 hb7
     have a2 := below_onto a1 o8 (by omega)
     have a3 := below_onto a2 o9 (by omega)
     exact below_more a3 hba
    rw [hg] at ga ba
    rw [hgz] at za
    rw [hbl] at ba
    rw [hg, hgz, hbl]
    have H0 : Sth w5.heap.size g bl gz x6 y6 vi co fin l ((St.first m).evs l fin) w5 (St.first m, (St.first m).meas l) wa := ⟨⟨⟨vo6, ve6, ga, Ya⟩, hsa, ba.cell 0, ba.lt, run_first HIO.out⟩, ba, za, B5a⟩
    clear ga Ya ba za B5a hsa hba hBa Y9 g9 z9 hB9 hs9 o9 kf lg9 Y8 g8 z8 hB8 hs8 o8 Y7 g7 z7 hB7 hs7 hb7 lg7 Y6 z6 hB6 hs6 hb6 hbl hg hgz
    refine wp_range (gf := 114) (lb := #[.pointer (some ⟨bl, 0, none⟩)]) rfl (enters_of Tryz.func114 (by kernel_rfl) rfl) (Sth w5.heap.size g bl gz x6 y6 vi co fin l ((St.first m).evs l fin) w5) (more l fin) (nxt l fin) (fun p => #[(p.1.next l).val]) (St.first m, (St.first m).meas l) (fun _ => rfl) ?hI ?hIb H0 ?hit (Axm g l) ?hAx ?assign ?body ?done
    case hI => exact fun p W W' row h hg hr => h.kept (Nat.le_refl _) hvi hg (fun r e => ⟨by have := (hr r e).1; omega, (hr r e).2⟩)
    case hIb => exact fun p W W' h hB => h.below (Nat.le_refl _) hB
    case hit => exact fun lr J hJI hJb hY W hJ => meanwhile_it HIO.out hff lr J (fun p W h => (hJI p W h).its) hJb hY _ W hJ
    case hAx =>
     rintro p a' - W W' row ⟨b, hb, e⟩ hg hr
     exact ⟨b, row_kept hb hg (fun r e => (hr r e).2), e⟩
    case assign =>
     intro lr p W K hI hK
     have ez : (#[26].zip #[(p.1.next l).val] : Array (Nat × Value)) = #[(26, (p.1.next l).val)] := by simp
     rw [ez]
     simp only [List.foldl_toArray', List.foldl_toArray, List.foldl_cons, List.foldl_nil, List.size_toArray, List.length_cons, List.length_nil, List.setIfInBounds_toArray, List.set_cons_zero, List.set_cons_succ]
     refine wpIn_region_lit ?_
     refine wpListIn_plain rfl fun K1 hK1 => wp_round (by intro c h; cases h) (alM_op rfl ?_)
     intro W1 m1 hb1
     apply hK1
     refine wpListIn_plain rfl fun K2 hK2 => wp_round (by intro c h; cases h) (stM_op (m := p.1.next l) rfl rfl rfl m1 ?_)
     intro W2 m2 o2
     apply hK2
     refine wpListIn_nil ?_
     exact hK _ _ (below_onto hb1 o2 (Nat.le_refl _)) ⟨W.heap.size, m2, rfl, rfl, rfl⟩
    case body =>
     rintro lr p a' W hI ⟨b, hb, e6, e7, es⟩ hm
     obtain ⟨vo, ve, h1, h2⟩ := hI.its.row
     have hrn := hI.its.run
     have hst := hrn.step HIO.out hff hm
     refine wpIn_block (wpIn_region_lit ?_)
     refine wpListIn_plain rfl fun K1 hK1 => wp_round (by intro c h; cases h) (ldm_op rfl e7 hb ?_)
     apply hK1
     refine wpListIn_plain rfl fun K2 hK2 => wp_round (by intro c h; cases h) (call_op (args := [.tmp 6, .tmp 27]) rfl Tryz.func53 (by kernel_rfl) (by kernel_rfl) ?_)
     have e6' : (a'.put (some 27) (p.1.next l).val).eval (.tmp 6) = .pointer (some ⟨g, 0, none⟩) := (getD_put _ _ _ _ (by decide)).trans e6
     have e27 : (a'.put (some 27) (p.1.next l).val).eval (.tmp 27) = (p.1.next l).val := getD_put_same _ _ _ (by omega)
     simp only [List.map_cons, List.map_nil]
     rw [e6', e27]
     refine (meet_impl (p.1.next l) hst.2.2 ⟨hrn.u0, by have := hrn.un; omega⟩ h1 h2 (by have := hrn.on; omega) (by have := hrn.en; omega)).mono ?_
     rintro e W' ⟨rfl, hG⟩
     obtain ⟨vo', ve', -, -, M⟩ := id hG
     exact ⟨_, rfl, hK2 _ _ (wpListIn_nil ⟨rfl, M.keeps h1, hI.met (Nat.le_refl _) hbg hne hvi HIO.out hff hm hG⟩)⟩
    case done =>
     intro D p W hD hm hI hDw
     obtain ⟨vo, ve, h1, h2⟩ := hI.its.row
     have hpF := hI.its.run.done HIO.out hm
     rw [hpF] at h1 h2
     have hz := hI.res
     have hBW := hI.bel
     clear hI hpF H0
     have HD : Hid (wa.heap.size ≤ D) := hD
     clear hD
     go_wp2_with (first
      | (go_at_call 54; refine (passTime_impl h1 h2).mono ?_; rintro e Wa ⟨rfl, vo1, ve1, g1, Y1, M1⟩; have z1' := M1.row hz plain_st hne.2; have hD1 := (M1.keeps (B := 0) h1).same D _ (Nat.zero_le _) hDw rfl; have B1 := hB5.trans ((hBW.trans (M1.below hbg (by have := hBW.size; omega))).mono h5))
      | (refine ld_gs rfl rfl rfl g1 ?_)
      | (refine st_s rfl rfl rfl rfl z1' (one_own Y1.ow.hx) (one_own Y1.ow.hy) (Y1.o.one okM) (Y1.e.one okE) ?_; rintro Wb zb ob -; have Yb := Y1.row ob z1' plain_st (by decide); have Bb := below_onto B1 ob hgz0))
     have hDD := HD.out
     have Db : Wb.heap[D]? = some (.deferred (some [])) := (ob.block D (by omega) (Array.getElem?_eq_some_iff.1 hD1).1).trans hD1
     have hgr := grownBy_putObj' Wb D (.deferred none)
     have hrr : ∀ r, some D = some r → ∃ o : Obj, Wb.heap[r]? = some o ∧ o.isCells = false := fun r e => by cases e; exact ⟨_, Db, rfl⟩
     have zc := row_kept zb hgr hrr
     have Yc := so_kept Yb hgr hrr
     have Bc := Bb.grown hgr Bb.size (fun k e => by cases e; omega)
     refine leave1 rfl Db (ret_s2 rfl rfl zc rfl rfl ?_)
     rw [HX'.out, HS.out]
     exact ⟨⟨x6, y6, vo1, ve1, rfl, ⟨⟨Yc.ow.hx.mono h5, Yc.ow.hy.mono h5, Yc.ow.ap, Bc.size⟩, Yc.o.mono h5, Yc.e.mono h5⟩⟩, Bc⟩
   ·have HX' : Hid (r = (St.nul, false)) := show _ = _ by rw [HX.out]; exact stepOf_no (fun h => hf h.2.2)
    obtain ⟨fin, hfin⟩ : ∃ fin, m.fin = fin := ⟨_, rfl⟩
    obtain ⟨co, hco⟩ : ∃ co, m.turn.2.1 = co := ⟨_, rfl⟩
    have HFC : Hid (m.fin = fin ∧ m.turn.2.1 = co) := ⟨hfin, hco⟩
    have hgt : 999999900 < fin := by omega
    clear hf hfin hco
    refine calls_marks Tryz.func9 rfl ?_
    simp only [Tryz.ntmps9, List.size_toArray, List.length_cons, List.length_nil, Nat.reduceAdd, Nat.reduceSub, Array.replicate_succ, Array.replicate_zero, List.push_toArray, List.append_toArray, List.nil_append, List.cons_append]
    go_wp2_with (first
     | (refine box_m rfl rfl hv ?_; intro w0 r0 hb0; have hr0 := hr.below hb0; have ha0 := ha.below hb0; have hs0 := hs.below hb0; have oo0 := ho.below hb0)
     | (refine al_st rfl rfl ?_; intro w1 z1 hb1; have r1 := r0.below hb1; have hB1 := below_more hb0 hb1; have hr1 := hr0.below hb1; have ha1 := ha0.below hb1; have hs1 := hs0.below hb1; have oo1 := oo0.below hb1)
     | (refine ld_mc rfl rfl rfl r1 ?_)
     | (go_at_call 20; refine (machineOk_impl _ m _ ⟨x, y, rfl, hr1, ha1⟩).mono ?_; rw [hok]; rintro e w2 ⟨rfl, hb2⟩; have z2 := z1.below hb2; have r2 := r1.below hb2; have hB2 := below_more hB1 hb2; have lz := z1.lt; have s2 := hB2.size; have s0 := hb0.size; have hs2 := hs1.below hb2; have hr2 := hr1.below hb2; have ha2 := ha1.below hb2; have t2 := hb2.size; have oo2 := oo1.below hb2)
     | (go_at_call 17; refine (inboxOk_impl _ l _ hs2).mono ?_; rw [hio]; rintro e w5 ⟨rfl, hb5⟩; have z5 := z2.below hb5; have r5 := r2.below hb5; have hB5 := below_more hB2 hb5; have s5 := hb5.size; have hs5 := hs2.below hb5; have hr5 := hr2.below hb5; have ha5 := ha2.below hb5; have oo5 := oo2.below hb5)
     | (refine ld_mc rfl rfl rfl r5 ?_)
     | (go_at_call 51; refine (begun_impl _ m _ ⟨x, y, rfl, hr5, ha5⟩ HOK.out oo5).mono ?_; unfold Bgn; rw [HFC.out.1, HFC.out.2]; rintro e w6 ⟨x6, y6, vo6, ve6, rfl, Y6, hb6⟩; have z6 := z5.below hb6; have hB6 := below_more hB5 hb6; have s6 := hb6.size; have hs6 := hs5.below hb6)
     | (refine al_g rfl rfl ?_; intro w7 g7 hb7; have z7 := z6.below hb7; have Y7 := Y6.below hb7; have hB7 := below_more hB6 hb7; have s7 := hb7.size; have hs7 := hs6.below hb7; have lg7 := g7.lt)
     | (refine st_g rfl rfl rfl rfl g7 (one_own Y7.ow.hx) (one_own Y7.ow.hy) (Y7.o.one okM) (Y7.e.one okE) rfl ?_; rintro w8 g8 o8 -; have z8 := z7.onto o8 (by omega); have Y8 := Y7.row o8 g7 plain_g (by decide); have hB8 := below_onto hB7 o8 (by omega); have s8 := o8.size; have hs8 := slF_onto hs7 o8 (fun h0 k hk => by have := hs6.lt h0 k hk; omega); have kf := (gc g8).fin)
     | (refine bd_s0 rfl rfl ?_)
     | (refine st_s rfl rfl rfl rfl z8 rfl rfl rfl rfl ?_; rintro w3 z3 o3 -; have hB3 := below_onto hB8 o3 (by omega)))
    refine leave0 (ret_s2 rfl rfl z3 rfl rfl ?_)
    rw [HX'.out]
    exact ⟨⟨_, _, _, _, rfl, own_nul _ _ hB3.size⟩, hB3⟩
end Go.Proofs.YtghmkacamabndaaGreatDoor.Mem
namespace Go.Proofs.YtghmkacamabndaaGreatDoor.Mem
open Go.ChangeShapes Go.WideShapes Go.RowKit Base Num Slc Slf Rw Tmr Srl Rom Opl Reg Ex

section
variable {ops : Array Oper} {rest : List Oper} {op : Oper} {a : Act} {w : World} {Q : Exit → Act → World → Prop} {p : Operand} {g : Nat} {x y vo ve : Value} {s : St}
theorem ld_stg (hw : Region.wanted op (yielded ops a.tmps) = true) (ho : op.op = .load 36 p) (hx : a.eval p = .pointer (some ⟨g, 0, none⟩)) (hr : SRow w g x y vo ve s)
  (h : wpList Tryz.prog ops Q rest (a.put op.dst (s.val x y vo ve)) w) : wpList Tryz.prog ops Q (op :: rest) a w :=
 wpList_step fun K hK => by
  rw [if_pos hw]
  exact wp_load_row _ _ ho _ hx _ _ _ _ hr.row Tryz.underlying36 rfl info_st (hK _ _ h)
end
structure Ob (w : World) (gA gP : Nat) (m : Mc) (vr va vi : Value) (l : List M3) (xp yp op ep : Value) (S : St) (W : World) : Prop where
 A : Row W gA (m.cells vr va) 69
 ar : Sl W vr m.rom
 aa : Sl W va m.ram
 il : SlF fL W vi l
 P : SRow W gP xp yp op ep S
 ps : StSl W xp yp op ep S
 bel : Below w.heap.size w W
section
variable {w W W' : World} {gA gP base : Nat} {m : Mc} {vr va vi : Value} {l : List M3} {xp yp op ep : Value} {S : St}
theorem Ob.below (h : Ob w gA gP m vr va vi l xp yp op ep S W) (hb : Below W.heap.size W W') : Ob w gA gP m vr va vi l xp yp op ep S W' :=
 ⟨h.A.below hb, h.ar.below hb, h.aa.below hb, h.il.below hb, h.P.below hb, h.ps.below hb, below_more h.bel hb⟩
theorem So.turn {X : Nat → Prop} {x y vo ve : Value} {s : St} (h : So base W x y vo ve s) (t : Turn X W W') (hX : ∀ k, X k → k < base) : So base W' x y vo ve s :=
 ⟨⟨t.own h.ow.hx (fun k hk e => by have := (h.ow.hx.lt k hk).1; have := hX k e; omega), t.own h.ow.hy (fun k hk e => by have := (h.ow.hy.lt k hk).1; have := hX k e; omega), h.ow.ap, Nat.le_trans h.ow.le t.size⟩,
  h.o.kept fun k hk => t.block k (fun e => by have := (h.o.lt k hk).1; have := hX k e; omega) (h.o.lt k hk).2,
  h.e.kept fun k hk => t.block k (fun e => by have := (h.e.lt k hk).1; have := hX k e; omega) (h.e.lt k hk).2⟩
end
end Go.Proofs.YtghmkacamabndaaGreatDoor.Mem
namespace Go.Proofs.YtghmkacamabndaaGreatDoor.Mem
open Go.ChangeShapes Go.WideShapes Go.RowKit Base Num Slc Slf Rw Tmr Srl Rom Opl Reg

theorem So.down {base base' : Nat} {w : World} {x y vo ve : Value} {s : St} (h : So base w x y vo ve s) (hb : base' ≤ base) : So base' w x y vo ve s := ⟨h.ow.mono hb, h.o.mono hb, h.e.mono hb⟩
theorem until_spec (n : Int) (w : World) : Calls Tryz.prog 85 #[.int .i64 n] w fun e w' => e = .returned (.bool (inn n 0 100000)) ∧ w' = w := by
 go_enter Tryz.func85, Tryz.ntmps85
 go_wp2_with (go_at_call 123; refine (Tmr.in_any _ _ _ _).mono ?_; rintro e w2 ⟨rfl, rfl⟩)
 go_ret
 exact ⟨rfl, rfl⟩
theorem until_impl (n : Int) (w : World) : Calls Tryz.prog 82 #[.int .i64 n] w fun e w' => e = .returned (.bool (inn n 0 100000)) ∧ w' = w := by
 by_cases h0 : 0 ≤ n
 ·go_enter Tryz.func82, Tryz.ntmps82
  go_wp2
  go_ret
  exact ⟨ret_bool (by rw [Bool.eq_iff_iff]; simp [inn]; omega), rfl⟩
 ·go_enter Tryz.func82, Tryz.ntmps82
  go_wp2
  go_ret
  exact ⟨ret_bool (by rw [Bool.eq_iff_iff]; simp [inn]; omega), rfl⟩
set_option maxHeartbeats 2000000 in
theorem runTo_spec (v vi : Value) (m : Mc) (l : List M3) (til : Int) (w : World) (hm : MSl w v m) (hs : SlF fM w vi l) :
  Calls Tryz.prog 29 #[v, vi, .int .i64 til] w fun e w' => AnsT w.heap.size w' e (runTo m l til) ∧ Below w.heap.size w w' := by
 obtain ⟨x, y, hv, hr, ha⟩ := hm
 obtain ⟨r, HX⟩ : ∃ r, Hid (r = runTo m l til) := ⟨_, show _ = _ from rfl⟩
 rw [← HX.out]
 have hone := hs.one
 cases hok : m.ok
 ·have HX' : Hid (r = (St.nul, false)) := show _ = _ by rw [HX.out]; exact runTo_no (by rw [hok]; simp)
  go_enter Tryz.func29, Tryz.ntmps29
  go_wp2_with (first
  | (refine box_m rfl rfl hv ?_; intro w0 r0 hb0; have hr0 := hr.below hb0; have ha0 := ha.below hb0; have hs0 := hs.below hb0; have s0 := hb0.size; have l0 := r0.lt)
  | (refine al_st rfl rfl ?_; intro w1 z1 hb1; have r1 := r0.below hb1; have hB1 := below_more hb0 hb1; have hr1 := hr0.below hb1; have ha1 := ha0.below hb1; have hs1 := hs0.below hb1; have l1 := z1.lt; have s1 := hb1.size)
  | (refine ld_mc rfl rfl rfl r1 ?_)
  | (go_at_call 55; refine (machineOk_spec _ m _ ⟨x, y, rfl, hr1, ha1⟩).mono ?_; rw [hok]; rintro e w2 ⟨rfl, hb2⟩; have z2 := z1.below hb2; have r2 := r1.below hb2; have hB2 := below_more hB1 hb2; have s2 := hB2.size; have hs2 := hs1.below hb2; have hr2 := hr1.below hb2; have ha2 := ha1.below hb2; have t2 := hb2.size)
  | (refine bd_s0 rfl rfl ?_)
  | (refine st_s rfl rfl rfl rfl z2 rfl rfl rfl rfl ?_; rintro w9 z9 o9 -; have hB9 := below_onto hB2 o9 (by omega)))
  refine ret_s2 rfl rfl z9 rfl rfl ?_
  rw [HX'.out]
  exact ⟨⟨_, _, _, _, rfl, own_nul _ _ hB9.size⟩, hB9⟩
 ·cases hio : inboxOk l
  ·have HX' : Hid (r = (St.nul, false)) := show _ = _ by rw [HX.out]; exact runTo_no (by rw [hio]; simp)
   go_enter Tryz.func29, Tryz.ntmps29
   go_wp2_with (first
   | (refine box_m rfl rfl hv ?_; intro w0 r0 hb0; have hr0 := hr.below hb0; have ha0 := ha.below hb0; have hs0 := hs.below hb0; have s0 := hb0.size; have l0 := r0.lt)
   | (refine al_st rfl rfl ?_; intro w1 z1 hb1; have r1 := r0.below hb1; have hB1 := below_more hb0 hb1; have hr1 := hr0.below hb1; have ha1 := ha0.below hb1; have hs1 := hs0.below hb1; have l1 := z1.lt; have s1 := hb1.size)
   | (refine ld_mc rfl rfl rfl r1 ?_)
   | (go_at_call 55; refine (machineOk_spec _ m _ ⟨x, y, rfl, hr1, ha1⟩).mono ?_; rw [hok]; rintro e w2 ⟨rfl, hb2⟩; have z2 := z1.below hb2; have r2 := r1.below hb2; have hB2 := below_more hB1 hb2; have s2 := hB2.size; have hs2 := hs1.below hb2; have hr2 := hr1.below hb2; have ha2 := ha1.below hb2; have t2 := hb2.size)
   | (go_at_call 18; refine (inboxOk_spec _ l _ hs2).mono ?_; rw [hio]; rintro e w3 ⟨rfl, hb3⟩; have z3 := z2.below hb3; have r3 := r2.below hb3; have hB3 := below_more hB2 hb3; have t3 := hb3.size; have hs3 := hs2.below hb3; have hr3 := hr2.below hb3; have ha3 := ha2.below hb3)
   | (refine bd_s0 rfl rfl ?_)
   | (refine st_s rfl rfl rfl rfl z3 rfl rfl rfl rfl ?_; rintro w9 z9 o9 -; have hB9 := below_onto hB3 o9 (by omega)))
   refine ret_s2 rfl rfl z9 rfl rfl ?_
   rw [HX'.out]
   exact ⟨⟨_, _, _, _, rfl, own_nul _ _ hB9.size⟩, hB9⟩
  ·cases hti : inn til 0 100000
   ·have HX' : Hid (r = (St.nul, false)) := show _ = _ by rw [HX.out]; exact runTo_no (by rw [hti]; simp)
    go_enter Tryz.func29, Tryz.ntmps29
    go_wp2_with (first
    | (refine box_m rfl rfl hv ?_; intro w0 r0 hb0; have hr0 := hr.below hb0; have ha0 := ha.below hb0; have hs0 := hs.below hb0; have s0 := hb0.size; have l0 := r0.lt)
    | (refine al_st rfl rfl ?_; intro w1 z1 hb1; have r1 := r0.below hb1; have hB1 := below_more hb0 hb1; have hr1 := hr0.below hb1; have ha1 := ha0.below hb1; have hs1 := hs0.below hb1; have l1 := z1.lt; have s1 := hb1.size)
    | (refine ld_mc rfl rfl rfl r1 ?_)
    | (go_at_call 55; refine (machineOk_spec _ m _ ⟨x, y, rfl, hr1, ha1⟩).mono ?_; rw [hok]; rintro e w2 ⟨rfl, hb2⟩; have z2 := z1.below hb2; have r2 := r1.below hb2; have hB2 := below_more hB1 hb2; have s2 := hB2.size; have hs2 := hs1.below hb2; have hr2 := hr1.below hb2; have ha2 := ha1.below hb2; have t2 := hb2.size)
    | (go_at_call 18; refine (inboxOk_spec _ l _ hs2).mono ?_; rw [hio]; rintro e w3 ⟨rfl, hb3⟩; have z3 := z2.below hb3; have r3 := r2.below hb3; have hB3 := below_more hB2 hb3; have t3 := hb3.size; have hs3 := hs2.below hb3; have hr3 := hr2.below hb3; have ha3 := ha2.below hb3)
    | (go_at_call 85; refine (until_spec til _).mono ?_; rw [hti]; rintro e w4 ⟨rfl, rfl⟩)
    | (refine bd_s0 rfl rfl ?_)
    | (refine st_s rfl rfl rfl rfl z3 rfl rfl rfl rfl ?_; rintro w9 z9 o9 -; have hB9 := below_onto hB3 o9 (by omega)))
    refine ret_s2 rfl rfl z9 rfl rfl ?_
    rw [HX'.out]
    exact ⟨⟨_, _, _, _, rfl, own_nul _ _ hB9.size⟩, hB9⟩
   ·have HX' : Hid (r = ((St.at0 m).ran l til, true)) := show _ = _ by rw [HX.out]; exact runTo_yes hok hio hti
    have hti2 := (inn_true hti).2
    obtain ⟨R, hR⟩ : ∃ R, (St.at0 m).ran l til = R := ⟨_, rfl⟩
    have HF : Hid ((St.at0 m).ran l til = R) := hR
    rw [hR] at HX'
    clear hR
    go_enter Tryz.func29, Tryz.ntmps29
    go_wp2_with (first
     | (refine box_m rfl rfl hv ?_; intro w0 r0 hb0; have hr0 := hr.below hb0; have ha0 := ha.below hb0; have hs0 := hs.below hb0; have s0 := hb0.size; have l0 := r0.lt)
     | (refine al_st rfl rfl ?_; intro w1 z1 hb1; have r1 := r0.below hb1; have hB1 := below_more hb0 hb1; have hr1 := hr0.below hb1; have ha1 := ha0.below hb1; have hs1 := hs0.below hb1; have l1 := z1.lt; have s1 := hb1.size)
     | (refine ld_mc rfl rfl rfl r1 ?_)
     | (go_at_call 55; refine (machineOk_spec _ m _ ⟨x, y, rfl, hr1, ha1⟩).mono ?_; rw [hok]; rintro e w2 ⟨rfl, hb2⟩; have z2 := z1.below hb2; have r2 := r1.below hb2; have hB2 := below_more hB1 hb2; have s2 := hB2.size; have hs2 := hs1.below hb2; have hr2 := hr1.below hb2; have ha2 := ha1.below hb2; have t2 := hb2.size)
     | (go_at_call 18; refine (inboxOk_spec _ l _ hs2).mono ?_; rw [hio]; rintro e w3 ⟨rfl, hb3⟩; have z3 := z2.below hb3; have r3 := r2.below hb3; have hB3 := below_more hB2 hb3; have t3 := hb3.size; have hs3 := hs2.below hb3; have hr3 := hr2.below hb3; have ha3 := ha2.below hb3)
     | (go_at_call 85; refine (until_spec til _).mono ?_; rw [hti]; rintro e w4 ⟨rfl, rfl⟩)
     | (refine ld_mc rfl rfl rfl r3 ?_)
     | (go_at_call 86; refine (l10Run_spec _ _ m l til _ ⟨x, y, rfl, hr3, ha3⟩ hok hs3 hio hti2).mono ?_; rw [HF.out]; rintro e w5 ⟨x5, y5, vo5, ve5, rfl, Y5, hb5⟩; have z5 := z3.below hb5; have hB5 := below_more hB3 hb5; have hle := hB3.size)
     | (refine st_s rfl rfl rfl rfl z5 (one_own Y5.ow.hx) (one_own Y5.ow.hy) (Y5.o.one okM) (Y5.e.one okE) ?_; rintro w9 z9 o9 -; have Y9 := Y5.row o9 z5 plain_st (by decide); have hB9 := below_onto hB5 o9 (by omega)))
    refine ret_s2 rfl rfl z9 rfl rfl ?_
    rw [HX'.out]
    exact ⟨⟨x5, y5, vo5, ve5, rfl, Y9.down hle⟩, hB9⟩
set_option maxHeartbeats 4000000 in
theorem runTo_impl (v vi : Value) (m : Mc) (l : List M3) (til : Int) (w : World) (hm : MSl w v m) (hs : SlF fM w vi l) (ho : OpsAt w) :
  Calls Tryz.prog 28 #[v, vi, .int .i64 til] w fun e w' => AnsT w.heap.size w' e (runTo m l til) ∧ Below w.heap.size w w' := by
 obtain ⟨x, y, hv, hr, ha⟩ := hm
 obtain ⟨r, HX⟩ : ∃ r, Hid (r = runTo m l til) := ⟨_, show _ = _ from rfl⟩
 rw [← HX.out]
 have hone := hs.one
 cases hok : m.ok
 ·have HX' : Hid (r = (St.nul, false)) := show _ = _ by rw [HX.out]; exact runTo_no (by rw [hok]; simp)
  go_enter Tryz.func28, Tryz.ntmps28
  go_wp2_with (first
  | (refine box_m rfl rfl hv ?_; intro w0 r0 hb0; have hr0 := hr.below hb0; have ha0 := ha.below hb0; have hs0 := hs.below hb0; have s0 := hb0.size; have l0 := r0.lt)
  | (refine al_st rfl rfl ?_; intro w1 z1 hb1; have r1 := r0.below hb1; have hB1 := below_more hb0 hb1; have hr1 := hr0.below hb1; have ha1 := ha0.below hb1; have hs1 := hs0.below hb1; have l1 := z1.lt; have s1 := hb1.size)
  | (refine ld_mc rfl rfl rfl r1 ?_)
  | (go_at_call 20; refine (machineOk_impl _ m _ ⟨x, y, rfl, hr1, ha1⟩).mono ?_; rw [hok]; rintro e w2 ⟨rfl, hb2⟩; have z2 := z1.below hb2; have r2 := r1.below hb2; have hB2 := below_more hB1 hb2; have s2 := hB2.size; have hs2 := hs1.below hb2; have hr2 := hr1.below hb2; have ha2 := ha1.below hb2; have t2 := hb2.size)
  | (refine bd_s0 rfl rfl ?_)
  | (refine st_s rfl rfl rfl rfl z2 rfl rfl rfl rfl ?_; rintro w9 z9 o9 -; have hB9 := below_onto hB2 o9 (by omega)))
  refine ret_s2 rfl rfl z9 rfl rfl ?_
  rw [HX'.out]
  exact ⟨⟨_, _, _, _, rfl, own_nul _ _ hB9.size⟩, hB9⟩
 ·cases hio : inboxOk l
  ·have HX' : Hid (r = (St.nul, false)) := show _ = _ by rw [HX.out]; exact runTo_no (by rw [hio]; simp)
   go_enter Tryz.func28, Tryz.ntmps28
   go_wp2_with (first
   | (refine box_m rfl rfl hv ?_; intro w0 r0 hb0; have hr0 := hr.below hb0; have ha0 := ha.below hb0; have hs0 := hs.below hb0; have s0 := hb0.size; have l0 := r0.lt)
   | (refine al_st rfl rfl ?_; intro w1 z1 hb1; have r1 := r0.below hb1; have hB1 := below_more hb0 hb1; have hr1 := hr0.below hb1; have ha1 := ha0.below hb1; have hs1 := hs0.below hb1; have l1 := z1.lt; have s1 := hb1.size)
   | (refine ld_mc rfl rfl rfl r1 ?_)
   | (go_at_call 20; refine (machineOk_impl _ m _ ⟨x, y, rfl, hr1, ha1⟩).mono ?_; rw [hok]; rintro e w2 ⟨rfl, hb2⟩; have z2 := z1.below hb2; have r2 := r1.below hb2; have hB2 := below_more hB1 hb2; have s2 := hB2.size; have hs2 := hs1.below hb2; have hr2 := hr1.below hb2; have ha2 := ha1.below hb2; have t2 := hb2.size)
   | (go_at_call 17; refine (inboxOk_impl _ l _ hs2).mono ?_; rw [hio]; rintro e w3 ⟨rfl, hb3⟩; have z3 := z2.below hb3; have r3 := r2.below hb3; have hB3 := below_more hB2 hb3; have t3 := hb3.size; have hs3 := hs2.below hb3; have hr3 := hr2.below hb3; have ha3 := ha2.below hb3)
   | (refine bd_s0 rfl rfl ?_)
   | (refine st_s rfl rfl rfl rfl z3 rfl rfl rfl rfl ?_; rintro w9 z9 o9 -; have hB9 := below_onto hB3 o9 (by omega)))
   refine ret_s2 rfl rfl z9 rfl rfl ?_
   rw [HX'.out]
   exact ⟨⟨_, _, _, _, rfl, own_nul _ _ hB9.size⟩, hB9⟩
  ·cases hti : inn til 0 100000
   ·have HX' : Hid (r = (St.nul, false)) := show _ = _ by rw [HX.out]; exact runTo_no (by rw [hti]; simp)
    go_enter Tryz.func28, Tryz.ntmps28
    go_wp2_with (first
    | (refine box_m rfl rfl hv ?_; intro w0 r0 hb0; have hr0 := hr.below hb0; have ha0 := ha.below hb0; have hs0 := hs.below hb0; have s0 := hb0.size; have l0 := r0.lt)
    | (refine al_st rfl rfl ?_; intro w1 z1 hb1; have r1 := r0.below hb1; have hB1 := below_more hb0 hb1; have hr1 := hr0.below hb1; have ha1 := ha0.below hb1; have hs1 := hs0.below hb1; have l1 := z1.lt; have s1 := hb1.size)
    | (refine ld_mc rfl rfl rfl r1 ?_)
    | (go_at_call 20; refine (machineOk_impl _ m _ ⟨x, y, rfl, hr1, ha1⟩).mono ?_; rw [hok]; rintro e w2 ⟨rfl, hb2⟩; have z2 := z1.below hb2; have r2 := r1.below hb2; have hB2 := below_more hB1 hb2; have s2 := hB2.size; have hs2 := hs1.below hb2; have hr2 := hr1.below hb2; have ha2 := ha1.below hb2; have t2 := hb2.size)
    | (go_at_call 17; refine (inboxOk_impl _ l _ hs2).mono ?_; rw [hio]; rintro e w3 ⟨rfl, hb3⟩; have z3 := z2.below hb3; have r3 := r2.below hb3; have hB3 := below_more hB2 hb3; have t3 := hb3.size; have hs3 := hs2.below hb3; have hr3 := hr2.below hb3; have ha3 := ha2.below hb3)
    | (go_at_call 82; refine (until_impl til _).mono ?_; rw [hti]; rintro e w4 ⟨rfl, rfl⟩)
    | (refine bd_s0 rfl rfl ?_)
    | (refine st_s rfl rfl rfl rfl z3 rfl rfl rfl rfl ?_; rintro w9 z9 o9 -; have hB9 := below_onto hB3 o9 (by omega)))
    refine ret_s2 rfl rfl z9 rfl rfl ?_
    rw [HX'.out]
    exact ⟨⟨_, _, _, _, rfl, own_nul _ _ hB9.size⟩, hB9⟩
   ·have HX' : Hid (r = ((St.at0 m).ran l til, true)) := show _ = _ by rw [HX.out]; exact runTo_yes hok hio hti
    have hti2 := (inn_true hti).2
    have hlen := inboxOk_few hio
    have hl1 := romOk_len (okm.1 hok).rom
    have hl2 := (okm.1 hok).len
    obtain ⟨R, hR⟩ : ∃ R, (St.at0 m).ran l til = R := ⟨_, rfl⟩
    have HF : Hid ((St.at0 m).ran l til = R) := hR
    rw [hR] at HX'
    obtain ⟨N0, hN⟩ : ∃ N0, (til - m.k).toNat = N0 := ⟨_, rfl⟩
    have HN : Hid ((til - m.k).toNat = N0) := hN
    have HS : Hid (SlF fM w vi l) := hs
    have HIN : Hid (inboxOk l = true ∧ til ≤ 100000 ∧ m.ok = true) := ⟨hio, hti2, hok⟩
    have HO : Hid (OpsAt w) := ho
    clear hR hN ho
    go_enter Tryz.func28, Tryz.ntmps28
    go_wp2_with (first
     | (go_at_call 20; refine (machineOk_impl _ m _ ⟨x, y, rfl, hr1, ha1⟩).mono ?_; rw [hok]; rintro e w2 ⟨rfl, hb2⟩; have z2 := z1.below hb2; have r2 := r1.below hb2; have hB2 := below_more hB1 hb2; have s2 := hB2.size; have hs2 := hs1.below hb2; have hr2 := hr1.below hb2; have ha2 := ha1.below hb2; have t2 := hb2.size)
     | (go_at_call 17; refine (inboxOk_impl _ l _ hs2).mono ?_; rw [hio]; rintro e w3 ⟨rfl, hb3⟩; have z3 := z2.below hb3; have r3 := r2.below hb3; have hB3 := below_more hB2 hb3; have t3 := hb3.size; have hs3 := hs2.below hb3; have hr3 := hr2.below hb3; have ha3 := ha2.below hb3)
     | (go_at_call 82; refine (until_impl til _).mono ?_; rw [hti]; rintro e w4 ⟨rfl, rfl⟩)
     | (refine ld_mc rfl rfl rfl r3 ?_)
     | (go_at_call 83; refine (machineCopy_impl _ m _ ⟨x, y, rfl, hr3, ha3⟩ (by omega) (by omega) (by omega) (by omega)).mono ?_; rintro e w5 ⟨v5, rfl, ⟨x2, y2, rfl, hx2, hy2, hxy2⟩, hb5⟩; have z5 := z3.below hb5; have hB5 := below_more hB3 hb5; have s5 := hb5.size)
     | (refine bd_s1 (m := m) rfl rfl rfl ?_)
     | (refine al_st rfl rfl ?_; intro w6 q6 hb6; have z6 := z5.below hb6; have hB6 := below_more hB5 hb6; have s6 := hb6.size; have hx6 := hx2.below hb6; have hy6 := hy2.below hb6; have l6 := q6.lt)
     | (refine st_s rfl rfl rfl rfl q6 (one_own hx6) (one_own hy6) rfl rfl ?_; rintro w7 q7 o7 -; have z7 := z6.onto o7 (by omega); have hB7 := below_onto hB6 o7 (by omega); have s7 := o7.size; have O7 : Ow w.heap.size w7 x2 y2 m := ⟨(hx6.onto o7 (own_not_row hx6 q6 (by decide))).mono (by omega), (hy6.onto o7 (own_not_row hy6 q6 (by decide))).mono (by omega), hxy2, hB7.size⟩)
     | (refine box_m rfl rfl hv ?_; intro w0 r0 hb0; have hr0 := hr.below hb0; have ha0 := ha.below hb0; have hs0 := hs.below hb0; have s0 := hb0.size; have l0 := r0.lt)
     | (refine al_st rfl rfl ?_; intro w1 z1 hb1; have r1 := r0.below hb1; have hB1 := below_more hb0 hb1; have hr1 := hr0.below hb1; have ha1 := ha0.below hb1; have hs1 := hs0.below hb1; have l1 := z1.lt; have s1 := hb1.size)
     | (refine ld_mc rfl rfl rfl r1 ?_))
    have hG : Rl w w0.heap.size w5.heap.size x2 y2 nil64 nil64 (St.at0 m) w7 := ⟨q7, ⟨O7, OwnF.nil _ _ _, OwnF.nil _ _ _⟩, z7, hB7⟩
    obtain ⟨g8, hg8⟩ : ∃ g8, w5.heap.size = g8 := ⟨_, rfl⟩
    obtain ⟨g6, hg6⟩ : ∃ g6, w0.heap.size = g6 := ⟨_, rfl⟩
    have HG : Hid (g6 ≠ g8 ∧ w.heap.size ≤ g8 ∧ w.heap.size ≤ g6) := ⟨by omega, by omega, by omega⟩
    rw [hg8, hg6] at hG
    rw [hg8, hg6]
    clear hg8 hg6 q7 q6 z7 z6 z5 z3 z2 z1 r3 r2 r1 r0 hB7 hB6 hB5 hB3 hB2 hB1 O7 hx6 hy6 hx2 hy2 hxy2 hb0 hb1 hb2 hb3 hb5 hb6 o7 hr0 ha0 hr1 ha1 hr2 ha2 hr3 ha3 hs0 hs1 hs2 hs3 s0 s1 s2 s5 s6 s7 t2 t3 l0 l1 l6 hr ha hv hs hok hio hti hti2
    simp only [Act.put, List.setIfInBounds_toArray, List.set_cons_zero, List.set_cons_succ]
    go_loopg [] N0 (fun n wr => ∃ s x y vo ve, Rl w g6 g8 x y vo ve s wr ∧ Along l m.k til s ∧ s.ran l til = R ∧ (til - s.m.k).toNat ≤ n)
    case atStart => exact ⟨St.at0 m, x2, y2, nil64, nil64, hG, along_0 HIN.out.2.2 _ _, HF.out, Nat.le_of_eq HN.out⟩
    case round =>
     clear hG
     obtain ⟨s, x, y, vo, ve, hG, hA, hF, hn⟩ := hrel
     obtain ⟨K, hK⟩ : ∃ K, s.m.k = K := ⟨_, rfl⟩
     have kk : wr.cell? ⟨g8, 24, none⟩ = some (.int .i64 K) := by rw [← hK]; exact (sw hG.row).k
     have HA : Hid (Along l m.k til s ∧ s.ran l til = R ∧ (til - s.m.k).toNat ≤ gk ∧ s.m.k = K) := ⟨hA, hF, hn, hK⟩
     by_cases hlt : K < til
     ·obtain ⟨hst, hA2, hm2⟩ := hA.more HIN.out.1 HIN.out.2.1 (by omega)
      obtain ⟨j, hj⟩ : ∃ j : Nat, s.u = (j : Int) := ⟨s.u.toNat, by have := hA.u0; omega⟩
      have hju : s.u.toNat = j := by omega
      obtain ⟨X, hX⟩ : ∃ X, s.m.stepped (l.drop j) = X := ⟨_, rfl⟩
      have e2 : s.on l = s.join X := by unfold St.on; rw [hju, hX]
      rw [e2] at hA2 hm2
      rw [hju, hX] at hst
      have HA2 : Hid (Along l m.k til (s.join X) ∧ s.m.k < (s.join X).m.k ∧ (s.join X).ran l til = R) := ⟨hA2, hm2, by rw [← e2, ← ran_on HIN.out.1 HIN.out.2.1 hA (by omega)]; exact hF⟩
      have HR : Hid (stepOf s.m (l.drop j) = (X, true)) := hst
      have HU : Hid (s.u = (j : Int)) := hj
      have HU2 : Hid (j ≤ l.length) := show _ ≤ _ by have := hA.u1; omega
      have hfl := hA2.o
      have hfe := hA2.e
      have hku := hA2.hi
      have huu := hA2.u1
      have hkk0 := hA.k
      have hm0 : 0 ≤ m.k := by have h1 := (okm.1 HIN.out.2.2).k; have h2 := (Tm.ok_true (okm.1 HIN.out.2.2).t).1; omega
      have HBO : Hid (s.o.length + X.o.length ≤ 100000000) := show _ ≤ _ by
       have e3 : (s.join X).o.length = s.o.length + X.o.length := List.length_append
       have := HIN.out.2.1
       omega
      have HBE : Hid (s.e.length + X.e.length ≤ 100000000) := show _ ≤ _ by
       have e3 : (s.join X).e.length = s.e.length + X.e.length := List.length_append
       have := HIN.out.2.1
       omega
      have HG2 : Hid (w.heap.size ≤ wr.heap.size) := hG.bel.size
      have HUB : Hid (0 ≤ s.u ∧ s.u ≤ 1000000 ∧ 0 ≤ X.u ∧ X.u ≤ 1000000) := show _ ∧ _ by
       have := (stepped_done hA.ok (inbox_drop HIN.out.1 j) (by have := turn_cost s.m; have := HIN.out.2.1; unfold Mc.fin; omega)).u0
       rw [hX] at this
       have e3 : (s.join X).u = s.u + X.u := rfl
       omega
      have hp : 0 < gk := by omega
      clear hfl hfe hku huu hkk0 hm0 hst hA2 hm2 hj hju hX e2 hA hF hn hK
      go_wp2_with fail
      refine region_vart (by kernel_rfl) (by kernel_rfl) 10 11 9 (by decide) (by decide) rfl rfl (by kernel_rfl) (by decide) (by kernel_rfl) 36 (scells nil64 nil64 nil64 nil64 St.nul) (InVar wr.heap.size X) (InVar.below _ _) [KIs (.pointer (some ⟨g8, 0, none⟩)), KIs (s.m.val x y), KIs (vi), KIs (.pointer (some ⟨g8, 27, none⟩)), KIs (.int .i64 (j : Int)), KIs (dropV vi j), KStp wr.heap.size X, KStp wr.heap.size X, KSt wr.heap.size X, KIs (.bool true), KAny, KAny, KIs (.bool true)] ?keeps ?step ?alloc ?store ?done
      case keeps =>
       intro K hK
       simp only [List.mem_cons, List.not_mem_nil, or_false] at hK
       rcases hK with rfl | rfl | rfl | rfl | rfl | rfl | rfl | rfl | rfl | rfl | rfl | rfl | rfl
       all_goals first | exact keeps_is _ _ | exact keeps_any _ | exact keeps_stp _ _ | exact keeps_st _ _
      case step =>
       intro L ix o' A W hn1 hn2 hj hI hB hd
       have hin : ix < 13 := by
        by_cases hl : ix < 13
        ·exact hl
        ·simp [hl] at hj
       have hsz : A.tmps.size = 48 := hI.size
       have hg := hG.below hB
       rcases ix with _ | _ | _ | _ | _ | _ | _ | _ | _ | _ | _ | _ | _ | ix
       ·cases hj; exact at_op rfl rfl (one_op (x := .tmp 8) (hI.old 8 (by kernel_rfl)) rfl (by kernel_rfl) ⟨_, rfl, rfl, Below.refl _ _⟩)
       ·cases hj
        have e0 : A.eval (.tmp 34) = .pointer (some ⟨g8, 0, none⟩) := hI.valT hd 0 34 rfl rfl (by kernel_rfl) (by decide) (by decide)
        exact at_op rfl rfl (lw_in (cs' := s.m.cells x y) rfl e0 hg.row Tryz.underlying30 rfl (sm_cells x y vo ve s) info_mc ⟨_, rfl, rfl, Below.refl _ _⟩)
       ·cases hj; exact at_op rfl rfl (move_op rfl ⟨_, rfl, hI.old 1 (by kernel_rfl), Below.refl _ _⟩)
       ·cases hj; exact at_op rfl rfl (one_op (x := .tmp 8) (hI.old 8 (by kernel_rfl)) rfl (by kernel_rfl) ⟨_, rfl, rfl, Below.refl _ _⟩)
       ·cases hj
        have e0 : A.eval (.tmp 37) = .pointer (some ⟨g8, 27, none⟩) := hI.valT hd 3 37 rfl rfl (by kernel_rfl) (by decide) (by decide)
        exact at_op rfl rfl (load_op rfl Tryz.underlying2 e0 (by have := (sw hg.row).u; rwa [HU.out] at this) ⟨_, rfl, rfl, Below.refl _ _⟩)
       ·cases hj
        have e0 : A.eval (.tmp 36) = vi := hI.valT hd 2 36 rfl rfl (by kernel_rfl) (by decide) (by decide)
        have e1 : A.eval (.tmp 38) = .int .i64 (j : Int) := hI.valT hd 4 38 rfl rfl (by kernel_rfl) (by decide) (by decide)
        exact at_op rfl rfl (dropV_op rfl e0 e1 HU2.out (HS.out.below hg.bel) ⟨_, rfl, rfl, Below.refl _ _⟩)
       ·cases hj
        have e0 : A.eval (.tmp 35) = s.m.val x y := hI.valT hd 1 35 rfl rfl (by kernel_rfl) (by decide) (by decide)
        have e1 : A.eval (.tmp 39) = dropV vi j := hI.valT hd 5 39 rfl rfl (by kernel_rfl) (by decide) (by decide)
        have hg := hG.below hB
        refine at_op rfl rfl (call_op rfl Tryz.func9 (by kernel_rfl) (by kernel_rfl) ?_)
        simp only [List.map_cons, List.map_nil, e0, e1]
        refine (stepOf_impl _ _ s.m (l.drop j) _ ⟨x, y, rfl, hg.so.ow.hx.sl, hg.so.ow.hy.sl⟩ (dropV_sl HU2.out (HS.out.below hg.bel)) (HO.out.below hg.bel)).mono ?_
        rw [HR.out]
        rintro e W1 ⟨⟨x5, y5, vo5, ve5, rfl, Y5⟩, hb5⟩
        exact ⟨_, rfl, _, rfl, ⟨x5, y5, vo5, ve5, rfl, Y5.down hB.size⟩, hb5⟩
       ·cases hj
        have e0 : (KStp wr.heap.size X) (A.eval (.tmp 40)) W := hI.valT hd 6 40 rfl rfl (by kernel_rfl) (by decide) (by decide)
        exact at_op rfl rfl (move_op rfl ⟨_, rfl, e0, Below.refl _ _⟩)
       ·cases hj
        have e0 : (KStp wr.heap.size X) (A.eval (.tmp 33)) W := hI.valT hd 7 33 rfl rfl (by kernel_rfl) (by decide) (by decide)
        obtain ⟨x5, y5, vo5, ve5, e0, Y5⟩ := e0
        refine at_op rfl rfl (val_op (v := X.val x5 y5 vo5 ve5) ?_ ⟨_, rfl, ⟨_, _, _, _, rfl, Y5⟩, Below.refl _ _⟩)
        unfold execOp
        simp only [List.getElem_toArray, List.getElem_cons_zero, List.getElem_cons_succ, e0]
        simp [go_sem]
       ·cases hj
        have e0 : (KStp wr.heap.size X) (A.eval (.tmp 33)) W := hI.valT hd 7 33 rfl rfl (by kernel_rfl) (by decide) (by decide)
        obtain ⟨x5, y5, vo5, ve5, e0, Y5⟩ := e0
        refine at_op rfl rfl (val_op (v := .bool true) ?_ ⟨_, rfl, rfl, Below.refl _ _⟩)
        unfold execOp
        simp only [List.getElem_toArray, List.getElem_cons_zero, List.getElem_cons_succ, e0]
        simp [go_sem]
       ·exact absurd rfl hn1
       ·exact absurd rfl hn2
       ·cases hj; exact at_op rfl rfl (assign_op rfl ⟨_, rfl, hI.valT hd 9 42 rfl rfl (by kernel_rfl) (by decide) (by decide), Below.refl _ _⟩)
       omega
      case alloc =>
       intro o' A W hj
       cases hj
       exact at_op rfl rfl (alst_op rfl ⟨rfl, rfl⟩)
      case store =>
       intro L o' A W b cs hj hI hd eb hr hn
       cases hj
       have e0 : (KSt wr.heap.size X) (A.eval (.tmp 41)) W := hI.valT hd 8 41 rfl rfl (by kernel_rfl) (by decide) (by decide)
       obtain ⟨x5, y5, vo5, ve5, e0, Y5⟩ := e0
       refine at_op rfl rfl (stSt_op rfl eb e0 hr hn (one_own Y5.ow.hx) (one_own Y5.ow.hy) (Y5.o.one okM) (Y5.e.one okE) (fun W2 r2 o2 => ?_))
       exact ⟨rfl, _, r2, o2, rfl, _, _, _, _, rfl, Y5.row o2 hr plain_st (by decide)⟩
      case done =>
       intro A W b cs hI hB eb hr hE hb
       have s10 : A.tmps.getD 10 undef = .bool true := hI.lastT 12 10 rfl (by decide) (by decide)
       have hA := hI.frame [34, 35, 36, 37, 38, 39, 40, 33, 41, 42, 9, 10] (by kernel_rfl)
       rw [hA]
       simp only [putAll, List.foldl_cons, List.foldl_nil, eb, s10, Act.put, List.setIfInBounds_toArray, List.set_cons_zero, List.set_cons_succ]
       clear hA hI eb s10
       obtain ⟨x5, y5, vo5, ve5, rfl, Y5⟩ := hE
       have hg := hG.below hB
       have szw := hg.bel.size
       have r9 : SRow W b x5 y5 vo5 ve5 X := hr
       have hk8 := hg.row.lt
       have Y6 : So w.heap.size W x5 y5 vo5 ve5 X := Y5.down HG2.out
       clear hG hB Y5
       go_wp2_with (first
        | (refine ld_s' rfl rfl rfl r9 ?_)
        | (go_at_call 84; refine (collect_impl rfl hg.row hg.so Y6 HBO.out HBE.out HUB.out).mono ?_; rintro e w7 ⟨rfl, v3, v5, r7, S7, M7⟩; have z7 := M7.row hg.z plain_st HG.out.1; have B7 := hg.bel.trans ((M7.below HG.out.2.1 szw))))
       go_roundg (gk - 1)
       case measure => omega
       case rel => exact ⟨s.join X, x5, y5, v3, v5, ⟨r7, S7, z7, B7⟩, HA2.out.1, HA2.out.2.2, by have := HA2.out.2.1; have := HA.out.2.2.1; omega⟩
     ·have e : s = R := by rw [← hF]; exact (ran_stop (by omega)).symm
      clear hF hn hK HA hA HF HN
      subst e
      go_wp2_with (first
       | (refine ld_s' rfl rfl rfl hG.row ?_)
       | (refine st_s rfl rfl rfl rfl hG.z (one_own hG.so.ow.hx) (one_own hG.so.ow.hy) (hG.so.o.one okM) (hG.so.e.one okE) ?_; rintro w9 z9 o9 -))
      refine ret_s2 rfl rfl z9 rfl rfl ?_
      rw [HX'.out]
      exact ⟨⟨x, y, vo, ve, rfl, hG.so.row o9 hG.z plain_st (by decide)⟩, below_onto hG.bel o9 HG.out.2.2⟩
end Go.Proofs.YtghmkacamabndaaGreatDoor.Mem
namespace Go.Proofs.YtghmkacamabndaaGreatDoor.Mem
open Go.ChangeShapes Go.WideShapes Go.RowKit Base Num Slc Slf Rw Tmr Srl Rom Opl Reg Ex

theorem runTo_len {m : Mc} {l : List M3} {til : Int} {S : St} {b : Bool} (h : runTo m l til = (S, b)) : S.m.rom.length ≤ 4000000 ∧ S.m.ram.length ≤ 4000000 ∧ S.o.length ≤ 4000000 ∧ S.e.length ≤ 4000000 := by
 by_cases hc : m.ok = true ∧ inboxOk l = true ∧ inn til 0 100000 = true
 ·rw [runTo_yes hc.1 hc.2.1 hc.2.2] at h
  have e : S = (St.at0 m).ran l til := (congrArg Prod.fst h).symm
  have ht := inn_true hc.2.2
  have ha := (ran_all hc.2.1 ht.2 _ (St.at0 m) (Nat.le_refl _) (along_0 hc.1 l til)).1
  rw [← e] at ha
  have h1 := (romOk_len (okm.1 ha.ok).rom).2
  have h2 := (okm.1 ha.ok).len
  have h3 := inboxOk_few hc.2.1
  have hm0 : 0 ≤ m.k := by have h1 := (okm.1 hc.1).k; have h2 := (Tm.ok_true (okm.1 hc.1).t).1; omega
  have h5 := ha.o
  have h6 := ha.e
  have h7 := ha.hi
  have h8 := ha.u1
  refine ⟨by omega, by omega, by omega, by omega⟩
 ·rw [runTo_no hc] at h
  have e : S = St.nul := (congrArg Prod.fst h).symm
  rw [e]
  refine ⟨?_, ?_, ?_, ?_⟩ <;> simp [St.nul, Mc.nul]
set_option maxRecDepth 100000 in
set_option maxHeartbeats 8000000 in
theorem exRunTo (m : Mc) (vr va vi : Value) (l : List M3) (til : Int) (w : World) (ho : Opl.OpsAt w) (hr : Sl w vr m.rom) (ha : Sl w va m.ram) (hi : SlF fL w vi l) :
  Calls Tryz.prog 6 #[m.val vr va, vi, .int .i64 til] w fun e w' => e = .returned (.bool true) ∧ Below w.heap.size w w' := by
 obtain ⟨vv, hvv⟩ : ∃ vv, vv = m.val vr va := ⟨_, rfl⟩
 rw [← hvv]
 obtain ⟨z, hzz⟩ : ∃ z, szOf m = z := ⟨_, rfl⟩
 have HZ : Hid (szOf m = z) := hzz
 have hzr : z = -1 ∨ (0 ≤ z ∧ z ≤ 1048576 ∧ m.rom.length ≤ 4000000 ∧ m.ram.length ≤ 4000000) := by
  rw [← hzz]; unfold szOf
  split
  ·exact .inl rfl
  split
  ·exact .inl rfl
  ·exact .inr (by omega)
 by_cases hz : z = -1
 ·clear hzr hzz
  subst hz
  go_enter Tryz.func6, Tryz.ntmps6
  go_wp2_with (first
   | (refine box_l rfl rfl hvv ?_; intro w0 r0 hB0)
   | (refine ld_l rfl rfl rfl r0 ?_)
   | (go_at_call 36; refine (szMachine_any vr va m _ (hr.below hB0) (ha.below hB0)).mono ?_; rw [HZ.out]; rintro e w1 ⟨rfl, hb1⟩; have hB1 := below_more hB0 hb1))
  go_ret
  exact ⟨rfl, hB1⟩
 obtain ⟨hz0, hz1, hl1, hl2⟩ := hzr.resolve_left hz
 clear hzr hzz
 have hzn : ¬ z < 0 := by omega
 by_cases hzl : z < l.length
 ·go_enter Tryz.func6, Tryz.ntmps6
  go_wp2_with (first
   | (refine box_l rfl rfl hvv ?_; intro w0 r0 hB0)
   | (refine ld_l rfl rfl rfl r0 ?_)
   | (go_at_call 36; refine (szMachine_any vr va m _ (hr.below hB0) (ha.below hB0)).mono ?_; rw [HZ.out]; rintro e w1 ⟨rfl, hb1⟩; have hB1 := below_more hB0 hb1)
   | (go_at_call 37; refine (szMsgS_any _ l z _ (hi.below hB1) ⟨hz0, hz1⟩).mono ?_; rw [if_pos hzl]; rintro e w2 ⟨rfl, hw2⟩; subst hw2))
  go_ret
  exact ⟨rfl, hB1⟩
 have hll : l.length ≤ 4000000 := by omega
 have hzd : ¬ z - (l.length : Int) < 0 := by omega
 obtain ⟨S, b, hSb⟩ : ∃ S b, runTo m l til = (S, b) := ⟨_, _, rfl⟩
 have hlen := runTo_len hSb
 have HS : Hid (runTo m l til = (S, b)) := hSb
 have hnn : (b != b) = false := by simp
 clear hSb
 go_enter Tryz.func6, Tryz.ntmps6
 go_wp2_with (first
  | (refine box_l rfl rfl hvv ?_; intro w0 A0 hB0; have lA := A0.lt)
  | (refine ld_l rfl rfl rfl A0 ?_)
  | (go_at_call 36; refine (szMachine_any vr va m _ (hr.below hB0) (ha.below hB0)).mono ?_; rw [HZ.out]; rintro e w1 ⟨rfl, hb1⟩; have hB1 := below_more hB0 hb1; have A1 := A0.below hb1; clear A0))
 go_at_call 37
 refine (szMsgS_any _ l z _ (hi.below hB1) ⟨hz0, hz1⟩).mono ?_
 rintro e w1' ⟨rfl, rfl⟩
 rw [if_neg (show ¬ z < (l.length : Int) by omega)]
 go_wp2_with (refine ld_l rfl rfl rfl A1 ?_)
 go_at_call 38
 refine (toMachine_any vr va m _ (hr.below hB1) (ha.below hB1) hl1 hl2).mono ?_
 rintro e w2 ⟨v2, rfl, ho2, hb2⟩
 have hB2 := below_more hB1 hb2
 have A2 := A1.below hb2
 go_wp2_with fail
 go_at_call 39
 refine (toMsgS_any _ l _ (hi.below hB2) hll).mono ?_
 rintro e w3 ⟨t3, rfl, ht3, hb3⟩
 have hB3 := below_more hB2 hb3
 have A3 := A2.below hb3
 go_wp2_with fail
 go_at_call 29
 refine (runTo_spec _ _ m l til _ (ho2.below hb3).sl (ht3.sl okM)).mono ?_
 rw [HS.out]
 rintro e w4 ⟨⟨xp, yp, op, ep, rfl, Y4⟩, hb4⟩
 have hB4 := below_more hB3 hb4
 have A4 := A3.below hb4
 have sz4 := hB4.size
 clear A1 A2 A3 ho2 ht3
 go_wp2_with (first
  | (refine al_st rfl rfl ?_; intro w5 z5 hb5; have hB5 := below_more hB4 hb5; have A5 := A4.below hb5; have Y5 := Y4.below hb5; have lz5 := z5.lt; have sz5 := hb5.size; have lA4 := A4.lt)
  | (refine st_s rfl rfl rfl rfl z5 (one_own Y5.ow.hx) (one_own Y5.ow.hy) (Y5.o.one okM) (Y5.e.one okE) ?_; rintro w6 P6 o6 -; have hB6 := below_onto hB5 o6 (by omega); have oP : Ob w w.heap.size w4.heap.size m vr va vi l xp yp op ep S w6 := ⟨A5.onto o6 (by omega), hr.below hB6, ha.below hB6, hi.below hB6, P6, (Y5.row o6 z5 plain_st (by decide)).slt, hB6⟩; have A6 := oP.A; have sz6 := o6.size)
  | (refine ld_l rfl rfl rfl A6 ?_))
 clear A4 A5 Y4 Y5 z5 P6
 go_at_call 38
 refine (toMachine_any vr va m _ oP.ar oP.aa hl1 hl2).mono ?_
 rintro e w7 ⟨v7, rfl, ⟨xr, xa, rfl, hx1, hx2, hx3⟩, hb7⟩
 have lx1 := hx1.lt
 have lx2 := hx2.lt
 have sz7 := hb7.size
 go_wp2_with (first
  | (refine al_mc rfl rfl ?_; intro w8 z8 hb8; have lz8 := z8.lt; have sz8 := hb8.size)
  | (refine st_mc rfl rfl rfl rfl z8 (one_own hx1) (one_own hx2) ?_; rintro w9 X9 o9 -; have b79 := new_bb hb8 o9; have x19 := hx1.below b79; have x29 := hx2.below b79; have c9 := below_more hb7 b79; have sz9 := o9.size))
 clear z8
 go_at_call 39
 refine (toMsgS_any _ l _ (oP.il.below c9) hll).mono ?_
 rintro e wa ⟨xi, rfl, hxi, hba⟩
 have lxi := hxi.lt
 have Xa := X9.below hba
 have x1a := x19.below hba
 have x2a := x29.below hba
 have ca := below_more c9 hba
 have sza := hba.size
 clear X9 x19 x29
 go_wp2_with (refine ld_mc rfl rfl rfl Xa ?_)
 go_at_call 28
 refine (runTo_impl _ _ m l til _ ⟨xr, xa, rfl, x1a.sl, x2a.sl⟩ (hxi.sl okM) (ho.below (oP.below ca).bel)).mono ?_
 rw [HS.out]
 rintro e wb ⟨⟨xg, yg, og, eg, rfl, Yb⟩, hbb⟩
 have Xb := Xa.below hbb
 have x1b := x1a.below hbb
 have x2b := x2a.below hbb
 have xib := hxi.below hbb
 have cb := below_more ca hbb
 have szb := hbb.size
 clear Xa x1a x2a
 go_wp2_with (first
  | (refine al_st rfl rfl ?_; intro wc zc hbc; have lzc := zc.lt; have szc := hbc.size; have Yc := Yb.below hbc)
  | (refine st_s rfl rfl rfl rfl zc (one_own Yc.ow.hx) (one_own Yc.ow.hy) (Yc.o.one okM) (Yc.e.one okE) ?_; rintro wd Gd od -; have bbd := new_bb hbc od; have Yd := Yc.row od zc plain_st (by decide); have Xd := Xb.below bbd; have x1d := x1b.below bbd; have x2d := x2b.below bbd; have xid := xib.below bbd; have cd := below_more cb bbd; have Pd := (oP.below cd).P; have szd := od.size)
  | (refine ld_s' rfl rfl rfl Gd ?_)
  | (refine ld_s' rfl rfl rfl Pd ?_))
 clear zc Yc Yb Xb x1b x2b xib
 go_at_call 40
 refine (eqStep_same xg yg og eg xp yp op ep S _ Yd.slt (oP.below cd).ps).mono ?_
 rintro e we ⟨rfl, hbe⟩
 have Ge' := Gd.below hbe
 have Ye := Yd.below hbe
 have Xe := Xd.below hbe
 have x1e := x1d.below hbe
 have x2e := x2d.below hbe
 have xie := xid.below hbe
 have ce := below_more cd hbe
 have sze := hbe.size
 clear Gd Yd Xd x1d x2d xid Pd
 go_wp2_with fail
 have hG : Ge w m w.heap.size w7.heap.size xr xa vr va we := ⟨(oP.below ce).A, Xe, (oP.below ce).ar, (oP.below ce).aa, x1e.sl, x2e.sl, (oP.below ce).bel⟩
 refine region_gen (by kernel_rfl) (by kernel_rfl) (fun W => Ge w m w.heap.size w7.heap.size xr xa vr va W ∧ Below we.heap.size we W) (Te 58 m xr xa vr va) (fun _ W W' => Below W.heap.size W W') (mono_e (by kernel_rfl)) ⟨hG.drew, drew_below (n := 1) rfl⟩ ?step ?done
 case step =>
  intro L ix o A W hi hI hL hd
  have hin : ix < 5 := by
   by_cases hl : ix < 5
   ·exact hl
   ·simp [hl] at hi
  have hsz : A.tmps.size = 124 := hI.size
  obtain ⟨hg, hk⟩ := hI.g
  rcases ix with _ | _ | _ | _ | _ | ix
  ·cases hi
   have e : A.eval (.tmp 10) = .pointer (some ⟨w7.heap.size, 0, none⟩) := hI.old 10 (by kernel_rfl)
   exact at_op rfl rfl (wp_load_row _ _ rfl _ e _ _ _ _ hg.x.row Tryz.underlying30 rfl info_mc ⟨_, rfl, getD_put_same _ _ _ (by omega), ⟨hg, hk⟩, Below.refl _ _⟩)
  ·cases hi
   have e : A.eval (.tmp 3) = .pointer (some ⟨w.heap.size, 0, none⟩) := hI.old 3 (by kernel_rfl)
   exact at_op rfl rfl (wp_load_row _ _ rfl _ e _ _ _ _ hg.arg.row Tryz.underlying69 rfl info_l ⟨_, rfl, getD_put_same _ _ _ (by omega), ⟨hg, hk⟩, Below.refl _ _⟩)
  ·cases hi
   have e0 : A.eval (.tmp 59) = m.val vr va := hI.get hd 1 rfl (by kernel_rfl)
   refine at_op rfl rfl (call_op rfl Tryz.func38 (by kernel_rfl) (by kernel_rfl) ?_)
   simp only [List.map_cons, List.map_nil, e0]
   refine (toMachine_any vr va m W hg.ar hg.aa hl1 hl2).mono ?_
   rintro e w5 ⟨v5, rfl, ho5, hb5⟩
   refine ⟨_, rfl, _, rfl, ?_, ⟨hg.below hb5, below_more hk hb5⟩, hb5⟩
   have e' : at_ (A.put (some 60) v5) 60 = v5 := getD_put_same _ _ _ (by omega)
   show MSl w5 (at_ (A.put (some 60) v5) 60) m
   rw [e']; exact ho5.sl
  ·cases hi
   have e0 : A.eval (.tmp 58) = m.val xr xa := hI.get hd 0 rfl (by kernel_rfl)
   obtain ⟨ur, ua, e1, hu1, hu2⟩ : MSl W (at_ A 60) m := hI.get hd 2 rfl (by kernel_rfl)
   have e1' : A.eval (.tmp 60) = m.val ur ua := e1
   refine at_op rfl rfl (call_op rfl Tryz.func41 (by kernel_rfl) (by kernel_rfl) ?_)
   simp only [List.map_cons, List.map_nil, e0, e1']
   refine (eqMachine_same xr xa ur ua m W hg.xr hg.xa hu1 hu2).mono ?_
   rintro e w5 ⟨rfl, hb5⟩
   exact ⟨_, rfl, _, rfl, getD_put_same _ _ _ (by omega), ⟨hg.below hb5, below_more hk hb5⟩, hb5⟩
  ·cases hi
   have e : A.eval (.tmp 61) = .bool true := hI.get hd 3 rfl (by kernel_rfl)
   refine at_op rfl rfl (val_op (v := .bool false) ?_ ⟨_, rfl, getD_put_same _ _ _ (by omega), ⟨hg, hk⟩, Below.refl _ _⟩)
   unfold execOp
   simp only [List.getElem_toArray, List.getElem_cons_zero, List.getElem_cons_succ, e]
   simp [go_sem]
  omega
 case done =>
  intro A W hI
  obtain ⟨hg, cf⟩ := hI.g
  have es : A.tmps.getD 62 undef = .bool false := hI.told 4 _ rfl rfl
  have e1 : A.tmps.getD 1 undef = vi := hI.old 1 (by kernel_rfl)
  have e2 : A.tmps.getD 3 undef = .pointer (some ⟨w.heap.size, 0, none⟩) := hI.old 3 (by kernel_rfl)
  have e6 : A.tmps.getD 8 undef = .pointer (some ⟨w4.heap.size, 0, none⟩) := hI.old 8 (by kernel_rfl)
  have e7 : A.tmps.getD 9 undef = .bool b := hI.old 9 (by kernel_rfl)
  have e8 : A.tmps.getD 10 undef = .pointer (some ⟨w7.heap.size, 0, none⟩) := hI.old 10 (by kernel_rfl)
  have e9 : A.tmps.getD 11 undef = xi := hI.old 11 (by kernel_rfl)
  have e10 : A.tmps.getD 12 undef = .pointer (some ⟨wb.heap.size, 0, none⟩) := hI.old 12 (by kernel_rfl)
  have e11 : A.tmps.getD 13 undef = .bool b := hI.old 13 (by kernel_rfl)
  have e2u : A.tmps.getD 2 undef = .int .i64 til := hI.old 2 (by kernel_rfl)
  have hA := frame_lit A 124 hI.size
  have hde : A.defers = [] := hI.defers
  rw [hde, show List.range 124 = [0, 1, 2, 3, 4, 5, 6, 7, 8, 9, 10, 11, 12, 13, 14, 15, 16, 17, 18, 19, 20, 21, 22, 23, 24, 25, 26, 27, 28, 29, 30, 31, 32, 33, 34, 35, 36, 37, 38, 39, 40, 41, 42, 43, 44, 45, 46, 47, 48, 49, 50, 51, 52, 53, 54, 55, 56, 57, 58, 59, 60, 61, 62, 63, 64, 65, 66, 67, 68, 69, 70, 71, 72, 73, 74, 75, 76, 77, 78, 79, 80, 81, 82, 83, 84, 85, 86, 87, 88, 89, 90, 91, 92, 93, 94, 95, 96, 97, 98, 99, 100, 101, 102, 103, 104, 105, 106, 107, 108, 109, 110, 111, 112, 113, 114, 115, 116, 117, 118, 119, 120, 121, 122, 123] from by decide] at hA
  simp only [List.map_cons, List.map_nil, es, e2u, e1, e2, e6, e7, e8, e9, e10, e11] at hA
  rw [hA]
  clear hA es e2u e1 e2 e6 e7 e8 e9 e10 e11 hI hde hg hG
  have oW := oP.below (below_more ce cf)
  have Gf := Ge'.below cf
  have Yf := Ye.below cf
  have Xf := Xe.below cf
  have x1f := x1e.below cf
  have x2f := x2e.below cf
  have xif := xie.below cf
  have cff := below_more ce cf
  have szf := cf.size
  clear Ge' Ye Xe x1e x2e xie
  go_wp2_with fail
  go_at_call 39
  refine (toMsgS_any _ l _ oW.il hll).mono ?_
  rintro e wg ⟨yi, rfl, hyi, hbg⟩
  go_wp2_with fail
  go_at_call 42
  refine (eqMsgS_same _ _ l _ ((xif.below hbg).sl okM) (hyi.sl okM)).mono ?_
  rintro e wh ⟨rfl, hbh⟩
  have bgh := below_more hbg hbh
  have Gh := Gf.below bgh
  have Yh := Yf.below bgh
  have Xh := Xf.below bgh
  have x1h := x1f.below bgh
  have x2h := x2f.below bgh
  have xih := xif.below bgh
  have ch := below_more cff bgh
  have szh := bgh.size
  have lGh := Gh.lt
  clear Gf Yf Xf x1f x2f xif hyi oW
  go_wp2_with (refine ld_mc rfl rfl rfl Xh ?_)
  go_at_call 43
  refine (markMachine_any xr xa m _ _ 1 x1h x2h hx3 hl1 hl2 (by omega) (by omega)).mono ?_
  rintro e wi ⟨rfl, hm1, hm2, ti⟩
  have ci := ti.below ch (fun k e => by rcases e with e | e; have := lx1 _ e; omega; have := lx2 _ e; omega)
  have Gi := ti.row Gh (fun e => by rcases e with e | e; have := lx1 _ e; omega; have := lx2 _ e; omega)
  have Yi := Yh.turn ti (fun k e => by rcases e with e | e; have := lx1 _ e; omega; have := lx2 _ e; omega)
  have xii : OwnF fM w9.heap.size wi xi l := xih.kept fun k hk => ti.block k (fun e => by have := (lxi k hk).1; rcases e with e | e; have := lx1 _ e; omega; have := lx2 _ e; omega) (xih.lt k hk).2
  have szi := ti.size
  clear Gh Yh Xh x1h x2h xih hm1 hm2
  go_wp2_with fail
  go_at_call 44
  refine (markMsgS_any _ l _ _ (1 + m.rom.length + m.ram.length) xii hll (by omega)).mono ?_
  rintro e wj ⟨rfl, -, gj⟩
  have tj := Turn.grown (X := fun k => xi.ownBlock = some k) gj (fun k e => e)
  have cj := tj.below ci (fun k e => by have := lxi _ e; omega)
  have Gj := tj.row Gi (fun e => by have := lxi _ e; omega)
  have Yj := Yi.turn tj (fun k e => by have := lxi _ e; omega)
  have szj := tj.size
  have oj := oP.below cj
  have Pj := oj.P
  clear Gi Yi xii
  go_wp2_with (first
   | (refine ld_stg rfl rfl rfl Gj ?_)
   | (refine ld_stg rfl rfl rfl Pj ?_))
  go_at_call 40
  refine (eqStep_same xg yg og eg xp yp op ep S _ Yj.slt oj.ps).mono ?_
  rintro e wk ⟨rfl, hbk⟩
  have Gk := Gj.below hbk
  have Yk := Yj.below hbk
  have ck := below_more cj hbk
  have szk := hbk.size
  clear Gj Yj Pj oj
  go_wp2_with (refine ld_s' rfl rfl rfl Gk ?_)
  go_at_call 45
  refine (markStep_any xg yg og eg S _ _ 1 Yk hlen.1 hlen.2.1 hlen.2.2.1 hlen.2.2.2 (by omega)).mono ?_
  rintro e wl ⟨rfl, Ml, tl⟩
  have Gl := tl.row Gk (fun e => e.elim (own_not_row Yk.ow.hx Gk (by decide)) (fun e => e.elim (own_not_row Yk.ow.hy Gk (by decide)) (fun e => e.elim (OwnF.not_row Yk.o Gk (by decide)) (OwnF.not_row Yk.e Gk (by decide)))))
  have cl := tl.below ck (fun k e => by
   have h1 : wa.heap.size ≤ k := e.elim (fun e => (Yk.ow.hx.lt k e).1) (fun e => e.elim (fun e => (Yk.ow.hy.lt k e).1) (fun e => e.elim (fun e => (Yk.o.lt k e).1) (fun e => (Yk.e.lt k e).1)))
   omega)
  have szl := tl.size
  clear Gk Yk
  go_wp2_with (refine ld_s' rfl rfl rfl Gl ?_)
  go_at_call 46
  refine (heldStep_any xg yg og eg S _ 1 _ _ _ _ Ml.x.sl Ml.y.sl (Ml.o.sl okM) (Ml.e.sl okE) hlen.1 hlen.2.1 hlen.2.2.1 hlen.2.2.2 (by omega)).mono ?_
  rintro e wm ⟨rfl, hbm⟩
  have Gm := Gl.below hbm
  have Mm := Ml.below hbm
  have cm := below_more cl hbm
  have szm := hbm.size
  have om := oP.below cm
  have Am := om.A
  clear Gl Ml
  go_wp2_with (refine ld_l rfl rfl rfl Am ?_)
  go_at_call 38
  refine (toMachine_any vr va m _ om.ar om.aa hl1 hl2).mono ?_
  rintro e wn ⟨vn, rfl, hyn, hbn⟩
  go_wp2_with fail
  go_at_call 39
  refine (toMsgS_any _ l _ (om.below hbn).il hll).mono ?_
  rintro e wo ⟨zi, rfl, hzi, hbo⟩
  go_wp2_with fail
  go_at_call 28
  refine (runTo_impl _ _ m l til _ (hyn.below hbo).sl (hzi.sl okM) (ho.below ((om.below hbn).below hbo).bel)).mono ?_
  rw [HS.out]
  rintro e wp ⟨⟨xe, ye, oe, ee, rfl, Yp⟩, hbp⟩
  have bmp := below_more (below_more hbn hbo) hbp
  have Gp := Gm.below bmp
  have Mp := Mm.below bmp
  have cp := below_more cm bmp
  have szp := bmp.size
  clear Gm Mm om Am hyn hzi
  go_wp2_with (first
   | (refine al_st rfl rfl ?_; intro wq zq hbq; have lzq := zq.lt; have szq := hbq.size; have Yq := Yp.below hbq)
   | (refine st_s rfl rfl rfl rfl zq (one_own Yq.ow.hx) (one_own Yq.ow.hy) (Yq.o.one okM) (Yq.e.one okE) ?_; rintro wr Er or' -; have bbr := new_bb hbq or'; have Yr := Yq.row or' zq plain_st (by decide); have Gr := Gp.below bbr; have Mr := Mp.below bbr; have cr := below_more cp bbr; have Pr := (oP.below cr).P; have szr := or'.size)
   | (refine ld_s' rfl rfl rfl Er ?_)
   | (refine ld_s' rfl rfl rfl Pr ?_))
  clear zq Yq Yp Gp Mp
  go_at_call 40
  refine (eqStep_same xe ye oe ee xp yp op ep S _ Yr.slt (oP.below cr).ps).mono ?_
  rintro e wt ⟨rfl, hbt⟩
  have Gt := Gr.below hbt
  have Mt := Mr.below hbt
  have ct := below_more cr hbt
  clear Gr Mr Yr Er Pr
  go_wp2_with (refine ld_s' rfl rfl rfl Gt ?_)
  go_at_call 46
  refine (heldStep_any xg yg og eg S _ 1 _ _ _ _ Mt.x.sl Mt.y.sl (Mt.o.sl okM) (Mt.e.sl okE) hlen.1 hlen.2.1 hlen.2.2.1 hlen.2.2.2 (by omega)).mono ?_
  rintro e wu ⟨rfl, hbu⟩
  have cu := below_more ct hbu
  go_wp2
  go_ret
  exact ⟨rfl, (oP.below cu).bel⟩
end Go.Proofs.YtghmkacamabndaaGreatDoor.Mem
