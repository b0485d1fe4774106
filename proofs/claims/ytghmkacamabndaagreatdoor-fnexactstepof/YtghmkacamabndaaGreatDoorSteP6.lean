/-
  What FnExactStepOf leans on: part 6.
-/
import Derived.Lib.AppendZerosOnto
import Derived.Test.YtghmkacamabndaaGreatDoorSteP1
import Derived.Test.YtghmkacamabndaaGreatDoorSteP2
import Derived.Test.YtghmkacamabndaaGreatDoorSteP3
import Derived.Test.YtghmkacamabndaaGreatDoorSteP5
set_option linter.unusedVariables false
set_option linter.unusedSimpArgs false
set_option maxRecDepth 20000
namespace Go.Proofs.YtghmkacamabndaaGreatDoor.Mem
open Go.ChangeShapes Go.WideShapes Go.RowKit Base Num Slc Slf Rw Tmr Srl Rom Opl Reg Ex

structure StSl (w : World) (x y vo ve : Value) (s : St) : Prop where
  x : Sl w x s.m.rom
  y : Sl w y s.m.ram
  o : SlF fM w vo s.o
  e : SlF fE w ve s.e
section
variable {w w' : World} {base : Nat} {x y vo ve : Value} {s : St}
theorem StSl.below (h : StSl w x y vo ve s) (hb : Below w.heap.size w w') : StSl w' x y vo ve s := ⟨h.x.below hb, h.y.below hb, h.o.below hb, h.e.below hb⟩
theorem So.slt (h : So base w x y vo ve s) : StSl w x y vo ve s := ⟨h.ow.hx.sl, h.ow.hy.sl, h.o.sl okM, h.e.sl okE⟩
theorem So.mono {b' : Nat} (h : So base w x y vo ve s) (hb : b' ≤ base) : So b' w x y vo ve s := ⟨⟨h.ow.hx.mono hb, h.ow.hy.mono hb, h.ow.ap, Nat.le_trans hb h.ow.le⟩, h.o.mono hb, h.e.mono hb⟩
theorem own_apartF {α : Type} {f : Fl α} {v u : Value} {l : List Int} {l' : List α} (h : Own base w v l) (h' : OwnF f base w u l') (hT : f.T ≠ 2) : ∀ k, v.ownBlock = some k → u.ownBlock ≠ some k := by
  intro k hk hu
  rcases h.2 with ⟨rfl, _⟩ | ⟨g, cap, cur, rfl, _, hb, _⟩
  · cases hk
  rcases h'.2 with ⟨rfl, _⟩ | ⟨g', cap', cur', rfl, _, hb', _⟩
  · cases hu
  have e1 : g = k := Option.some.inj hk
  have e2 : g' = k := Option.some.inj hu
  subst e1
  subst e2
  rw [hb] at hb'
  simp only [Option.some.injEq, Obj.cells.injEq] at hb'
  exact hT hb'.2.1.symm
end
theorem eqStep_same (x y vo ve x' y' vo' ve' : Value) (s : St) (w : World) (h : StSl w x y vo ve s) (h' : StSl w x' y' vo' ve' s) :
    Calls Tryz.prog 40 #[s.val x y vo ve, s.val x' y' vo' ve'] w fun e w' => e = .returned (.bool true) ∧ Below w.heap.size w w' := by
  obtain ⟨v1, hv1⟩ : ∃ v1, v1 = s.val x y vo ve := ⟨_, rfl⟩
  obtain ⟨v2, hv2⟩ : ∃ v2, v2 = s.val x' y' vo' ve' := ⟨_, rfl⟩
  rw [← hv1, ← hv2]
  obtain ⟨U, hU⟩ : ∃ U, s.u = U := ⟨_, rfl⟩
  have HU : Hid (s.u = U) := hU
  clear hU
  go_enter Tryz.func40, Tryz.ntmps40
  go_wp2_with (first
    | (refine box_s rfl rfl hv1 ?_; intro w0 r0 hb0)
    | (refine box_s rfl rfl hv2 ?_; intro w1 q1 hb1; have r1 := r0.below hb1; have hB1 := below_more hb0 hb1; have a1 := h.below hB1; have c1 := h'.below hB1)
    | (refine ld_sm rfl rfl rfl r1 ?_)
    | (refine ld_sm rfl rfl rfl q1 ?_)
    | (go_at_call 41; refine (eqMachine_same x y x' y' s.m _ a1.x a1.y c1.x c1.y).mono ?_; rintro e w2 ⟨rfl, hb2⟩; have r2 := r1.below hb2; have q2 := q1.below hb2; have a2 := a1.below hb2; have c2 := c1.below hb2; have hB2 := below_more hB1 hb2; have ko := (sw r2).o; have ko' := (sw q2).o)
    | (go_at_call 42; refine (eqMsgS_same _ _ s.o _ a2.o c2.o).mono ?_; rintro e w3 ⟨rfl, hb3⟩; have r3 := r2.below hb3; have q3 := q2.below hb3; have a3 := a2.below hb3; have c3 := c2.below hb3; have hB3 := below_more hB2 hb3; have ke := (sw r3).e; have ke' := (sw q3).e)
    | (go_at_call 96; refine (eqEvS_same _ _ s.e _ a3.e c3.e).mono ?_; rintro e w4 ⟨rfl, hb4⟩; have r4 := r3.below hb4; have q4 := q3.below hb4; have hB4 := below_more hB3 hb4; have ku := (sw r4).u; have ku' := (sw q4).u; rw [HU.out] at ku ku'))
  go_ret
  exact ⟨rfl, hB4⟩
def Blk4 (x y vo ve : Value) (k : Nat) : Prop := x.ownBlock = some k ∨ y.ownBlock = some k ∨ vo.ownBlock = some k ∨ ve.ownBlock = some k
structure Mkd (base : Nat) (w' : World) (x y vo ve : Value) (k n1 n2 n3 n4 : Nat) : Prop where
  x : Own base w' x (marks k n1)
  y : Own base w' y (marks (k + n1) n2)
  o : OwnF fM base w' vo (marks3 (k + n1 + n2) n3)
  e : OwnF fE base w' ve (marks3 (k + n1 + n2 + 3 * n3) n4)
theorem Mkd.below {base : Nat} {w w' : World} {x y vo ve : Value} {k n1 n2 n3 n4 : Nat} (h : Mkd base w x y vo ve k n1 n2 n3 n4) (hb : Below w.heap.size w w') : Mkd base w' x y vo ve k n1 n2 n3 n4 := ⟨h.x.below hb, h.y.below hb, h.o.below hb, h.e.below hb⟩
theorem markStep_any (x y vo ve : Value) (s : St) (w : World) (base k : Nat) (h : So base w x y vo ve s) (l1 : s.m.rom.length ≤ 4000000) (l2 : s.m.ram.length ≤ 4000000) (l3 : s.o.length ≤ 4000000) (l4 : s.e.length ≤ 4000000) (hk : k ≤ 100) :
    Calls Tryz.prog 45 #[s.val x y vo ve, .int .i64 (k : Int)] w fun e w' => e = .returned (.int .i64 ((k + s.m.rom.length + s.m.ram.length + 3 * s.o.length + 3 * s.e.length : Nat) : Int)) ∧ Mkd base w' x y vo ve k s.m.rom.length s.m.ram.length s.o.length s.e.length ∧ Turn (Blk4 x y vo ve) w w' := by
  obtain ⟨v1, hv1⟩ : ∃ v1, v1 = s.val x y vo ve := ⟨_, rfl⟩
  rw [← hv1]
  have Axo := own_apartF h.ow.hx h.o (by decide)
  have Axe := own_apartF h.ow.hx h.e (by decide)
  have Ayo := own_apartF h.ow.hy h.o (by decide)
  have Aye := own_apartF h.ow.hy h.e (by decide)
  have Aeo : ∀ k, ve.ownBlock = some k → vo.ownBlock ≠ some k := fun k hk e => OwnF.apart h.e h.o (by decide) k hk e
  have lx := h.ow.hx.lt
  have ly := h.ow.hy.lt
  have lo := h.o.lt
  have le := h.e.lt
  go_enter Tryz.func45, Tryz.ntmps45
  go_wp2_with (first
    | (refine box_s rfl rfl hv1 ?_; intro w0 r0 hb0; have h0 := h.below hb0; have lr := r0.lt)
    | (refine ld_sm rfl rfl rfl r0 ?_)
    | (go_at_call 43; refine (markMachine_any x y s.m _ base k h0.ow.hx h0.ow.hy h0.ow.ap l1 l2 hk h0.ow.le).mono ?_; rintro e w1 ⟨rfl, X1, Y1, T1⟩
       have r1 := T1.row r0 (fun hb => hb.elim (fun e => by have := (lx _ e).2; omega) (fun e => by have := (ly _ e).2; omega))
       have O1 : OwnF fM base w1 vo s.o := h0.o.kept fun k hk => T1.block k (fun hb => hb.elim (fun e => Axo _ e hk) (fun e => Ayo _ e hk)) (h0.o.lt k hk).2
       have E1 : OwnF fE base w1 ve s.e := h0.e.kept fun k hk => T1.block k (fun hb => hb.elim (fun e => Axe _ e hk) (fun e => Aye _ e hk)) (h0.e.lt k hk).2
       have ko := (sw r1).o)
    | (go_at_call 44; refine (markMsgS_any _ s.o _ base (k + s.m.rom.length + s.m.ram.length) O1 l3 (by omega)).mono ?_; rintro e w2 ⟨rfl, O2, G2⟩
       have r2 := r1.keep (G2.block _ r1.lt (fun e => by have := (lo _ e.symm).2; omega))
       have X2 := X1.grown G2 (fun k hk e => Axo k e hk)
       have Y2 := Y1.grown G2 (fun k hk e => Ayo k e hk)
       have E2 := E1.grown G2 (fun k hk e => Aeo k e hk)
       have ke := (sw r2).e)
    | (go_at_call 102; refine (markEvS_any _ s.e _ base (k + s.m.rom.length + s.m.ram.length + 3 * s.o.length) E2 l4 (by omega)).mono ?_; rintro e w3 ⟨rfl, E3, G3⟩
       have X3 := X2.grown G3 (fun k hk e => Axe k e hk)
       have Y3 := Y2.grown G3 (fun k hk e => Aye k e hk)
       have O3 := O2.grown G3 (fun k hk e => Aeo k hk e)))
  go_ret
  refine ⟨rfl, ⟨X3, Y3, O3, E3⟩, ?_⟩
  have t1 : Turn (Blk4 x y vo ve) w w0 := Turn.of hb0
  have t2 : Turn (Blk4 x y vo ve) w0 w1 := ⟨T1.os, T1.tape, T1.output, T1.size, fun j hj hl => T1.block j (fun e => hj (e.elim .inl (fun e => .inr (.inl e)))) hl⟩
  have t3 : Turn (Blk4 x y vo ve) w1 w2 := Turn.grown G2 (fun j e => .inr (.inr (.inl e)))
  have t4 : Turn (Blk4 x y vo ve) w2 w3 := Turn.grown G3 (fun j e => .inr (.inr (.inr e)))
  exact ((t1.trans t2).trans t3).trans t4
theorem heldStep_any (x y vo ve : Value) (s : St) (w : World) (k n1 n2 n3 n4 : Nat) (h1 : Sl w x (marks k n1)) (h2 : Sl w y (marks (k + n1) n2)) (h3 : SlF fM w vo (marks3 (k + n1 + n2) n3)) (h4 : SlF fE w ve (marks3 (k + n1 + n2 + 3 * n3) n4)) (l1 : n1 ≤ 4000000) (l2 : n2 ≤ 4000000) (l3 : n3 ≤ 4000000) (l4 : n4 ≤ 4000000) (hk : k ≤ 100) :
    Calls Tryz.prog 46 #[s.val x y vo ve, .int .i64 (k : Int)] w fun e w' => e = .returned (.int .i64 ((k + n1 + n2 + 3 * n3 + 3 * n4 : Nat) : Int)) ∧ Below w.heap.size w w' := by
  obtain ⟨v1, hv1⟩ : ∃ v1, v1 = s.val x y vo ve := ⟨_, rfl⟩
  rw [← hv1]
  go_enter Tryz.func46, Tryz.ntmps46
  go_wp2_with (first
    | (refine box_s rfl rfl hv1 ?_; intro w0 r0 hb0; have a1 := h1.below hb0; have a2 := h2.below hb0; have a3 := h3.below hb0; have a4 := h4.below hb0)
    | (refine ld_sm rfl rfl rfl r0 ?_)
    | (go_at_call 103; refine (heldMachine_any x y s.m _ k n1 n2 a1 a2 l1 l2 hk).mono ?_; rintro e w1 ⟨rfl, hb1⟩; have r1 := r0.below hb1; have b3 := a3.below hb1; have b4 := a4.below hb1; have hB1 := below_more hb0 hb1; have ko := (sw r1).o; have ke := (sw r1).e)
    | (go_at_call 104; refine (heldMsgS_any _ n3 _ (k + n1 + n2) b3 l3 (by omega)).mono ?_; rintro e w2 ⟨rfl, hw2⟩; subst hw2)
    | (go_at_call 105; refine (heldEvS_any _ n4 _ (k + n1 + n2 + 3 * n3) b4 l4 (by omega)).mono ?_; rintro e w3 ⟨rfl, hw3⟩; subst hw3))
  go_ret
  exact ⟨rfl, hB1⟩
end Go.Proofs.YtghmkacamabndaaGreatDoor.Mem
namespace Go.Proofs.YtghmkacamabndaaGreatDoor.Reg
open Go.RowKit Base Rw

def varAt (w0 : World) (T : TypeId) (ka n : Nat) (f : Nat → Value) (W : World) : Prop := ∃ b cs, f ka = .pointer (some ⟨b, 0, none⟩) ∧ w0.heap.size ≤ b ∧ Row W b cs T ∧ cs.size = n
def varIs (w0 : World) (T : TypeId) (ka : Nat) (cs : Array Value) (f : Nat → Value) (W : World) : Prop := ∃ b, f ka = .pointer (some ⟨b, 0, none⟩) ∧ w0.heap.size ≤ b ∧ Row W b cs T
def varT (ops : Array Oper) (w0 : World) (T : TypeId) (sa ss ka : Nat) (csX : Array Value) (vals : List Value) (j : Nat) (f : Nat → Value) (W : World) : Prop :=
  if j = sa then varAt w0 T ka csX.size f W else if j = ss then varIs w0 T ka csX f W else knownT ops vals j f W
def varR (w0 : World) (T : TypeId) (ss ka : Nat) (csX : Array Value) (i : Nat) (f : Nat → Value) (W W' : World) : Prop :=
  if i = ss then varIs w0 T ka csX f W' else Below W.heap.size W W'
section
variable {P : Program} {ops : Array Oper} {Q : Exit → Act → World → Prop} {sa ss ka : Nat} {T : TypeId} {csX : Array Value} {a0 a : Act} {L : Nat → Bool} {w w' w0 : World} {i : Nat} {o : Oper} {v : Value} {vals : List Value}
theorem mono_var {n : Nat} (hds : dstOk ops n = true) (hka : (ops[sa]?).bind (·.dst) = some ka) (hdep : hasDep ops ss sa = true) (hne : sa ≠ ss) : MonoF ops (varT ops w0 T sa ss ka csX vals) (varR w0 T ss ka csX) := by
  intro L i j oi oj f f' w w' hi hj hLi hLj hd hf hT hR
  unfold varT at hT ⊢
  unfold varR at hR
  have hk : i ≠ sa → f' ka = f ka := fun i1 => hf ka (fun e => i1 (dst_one hds (by rw [hi]; exact e) hka))
  by_cases j1 : j = sa
  · rw [if_pos j1] at hT ⊢
    have i1 : i ≠ sa := fun e => by rw [e, ← j1, hLj] at hLi; cases hLi
    by_cases i2 : i = ss
    · rw [if_pos i2] at hR
      obtain ⟨b, e, hb, hr⟩ := hR
      exact ⟨b, csX, e, hb, hr, rfl⟩
    · rw [if_neg i2] at hR
      obtain ⟨b, cs, e, hb, hr, hn⟩ := hT
      exact ⟨b, cs, (hk i1).trans e, hb, hr.below hR, hn⟩
  · rw [if_neg j1] at hT ⊢
    by_cases j2 : j = ss
    · rw [if_pos j2] at hT ⊢
      have i1 : i ≠ sa := fun e => by
        have h1 := hdep
        unfold hasDep at h1
        rw [← j2, hj] at h1
        have := hd sa (List.contains_iff_mem.1 h1)
        rw [← e, hLi] at this; cases this
      have i2 : i ≠ ss := fun e => by rw [e, ← j2, hLj] at hLi; cases hLi
      rw [if_neg i2] at hR
      obtain ⟨b, e, hb, hr⟩ := hT
      exact ⟨b, (hk i1).trans e, hb, hr.below hR⟩
    · rw [if_neg j2] at hT ⊢
      intro k hk
      rw [hf k (fun e => ?_)]
      · exact hT k hk
      · have : i = j := dst_one hds (by rw [hi]; exact e) hk
        rw [this, hLj] at hLi; cases hLi
theorem InvG.valV {G : World → Prop} (h : InvG ops G (varT ops w0 T sa ss ka csX vals) a0 L a w) (hr : ∀ d ∈ deps o, L d = true) (j k : Nat) {oj : Oper} (hj : ops[j]? = some oj) (hk : oj.dst = some k) (hd : (deps o).contains j = true) (h1 : j ≠ sa) (h2 : j ≠ ss) : a.eval (.tmp k) = vals.getD j undef := by
  have := h.get hr j hj hd
  unfold varT at this
  rw [if_neg h1, if_neg h2] at this
  exact this k (by rw [hj]; exact hk)
theorem InvG.lastV {G : World → Prop} (h : InvG ops G (varT ops w0 T sa ss ka csX vals) a0 (fun _ => true) a w) (j k : Nat) (hj : (ops[j]?).bind (·.dst) = some k) (h1 : j ≠ sa) (h2 : j ≠ ss) : a.tmps.getD k undef = vals.getD j undef := by
  cases hq : ops[j]? with
  | none => simp [hq] at hj
  | some oj =>
    have := h.told j oj hq rfl
    unfold varT at this
    rw [if_neg h1, if_neg h2] at this
    exact this k hj
theorem region_var {id : Nat} (hm : P.follows .mixedOrders = true) (hac : acyc ops = true) (sa ss ka : Nat) (hsa : sa < ops.size) (hss : ss < ops.size) (hka : (ops[sa]?).bind (·.dst) = some ka) (hn2 : (ops[ss]?).bind (·.dst) = none) (hdep : hasDep ops ss sa = true) (hne : sa ≠ ss) (hds : dstOk ops a0.tmps.size = true)
    (T : TypeId) (cs0 csX : Array Value) (h0 : cs0.size = csX.size) (vals : List Value)
    (step : ∀ (L : Nat → Bool) (i : Nat) (o : Oper) (a : Act) (W : World), i ≠ sa → i ≠ ss → ops[i]? = some o → InvG ops (fun W => Below w.heap.size w W) (varT ops w T sa ss ka csX vals) a0 L a W → Below w.heap.size w W → (∀ d ∈ deps o, L d = true) →
      wpOp P ops Q i (fun a' W' => ∃ v, a' = a.put o.dst v ∧ v = vals.getD i undef ∧ Below W.heap.size W W') a W)
    (alloc : ∀ (o : Oper) (a : Act) (W : World), ops[sa]? = some o → wpOp P ops Q sa (fun a' W' => a' = a.put o.dst (.pointer (some ⟨W.heap.size, 0, none⟩)) ∧ W' = W.alloc (.cells cs0 T)) a W)
    (store : ∀ (L : Nat → Bool) (o : Oper) (a : Act) (W : World) (b : Nat) (cs : Array Value), ops[ss]? = some o → InvG ops (fun W => Below w.heap.size w W) (varT ops w T sa ss ka csX vals) a0 L a W → (∀ d ∈ deps o, L d = true) → a.eval (.tmp ka) = .pointer (some ⟨b, 0, none⟩) → Row W b cs T → cs.size = csX.size →
      wpOp P ops Q ss (fun a' W' => a' = a.put o.dst undef ∧ Row W' b csX T ∧ Onto b W W') a W)
    (done : ∀ a W b, InvG ops (fun W => Below w.heap.size w W) (varT ops w T sa ss ka csX vals) a0 (fun _ => true) a W → Below w.heap.size w W → a.tmps.getD ka undef = .pointer (some ⟨b, 0, none⟩) → Row W b csX T → w.heap.size ≤ b → Q .normal a W) : (Code.region id ops true).wp P Q a0 w := by
  refine region_genF hm hac (fun W => Below w.heap.size w W) (varT ops w T sa ss ka csX vals) (varR w T ss ka csX) (mono_var hds hka hdep hne) ((Below.refl _ w).drew) ?_ ?_
  · intro L i o a W hi hI hL hd
    have hB : Below w.heap.size w W := hI.g
    by_cases i1 : i = sa
    · subst i1
      have hk' : o.dst = some ka := by rw [hi] at hka; exact hka
      refine wpOp_mono ?_ (alloc o a W hi)
      rintro a' W' ⟨rfl, rfl⟩
      have hb1 : Below W.heap.size W (W.alloc (.cells cs0 T)) := (Below.refl _ _).alloc (Nat.le_refl _) _
      refine ⟨_, rfl, ?_, below_more hB hb1, ?_⟩
      · unfold varT
        rw [if_pos rfl, hk']
        refine ⟨W.heap.size, cs0, ?_, hB.size, Row.new W cs0 T, h0⟩
        show (a.put (some ka) _).tmps.getD ka undef = _
        rw [getD_put_same _ _ _ (by rw [hI.size]; exact dst_lt hds (i := i) (by rw [hi]; exact hk'))]
      · unfold varR
        rw [if_neg hne]; exact hb1
    · by_cases i2 : i = ss
      · subst i2
        have hd1 : L sa = true := hd sa (by
          have h1 := hdep
          unfold hasDep at h1
          rw [hi] at h1
          exact List.contains_iff_mem.1 h1)
        obtain ⟨o1, ho1⟩ : ∃ o1, ops[sa]? = some o1 := ⟨_, Array.getElem?_eq_getElem hsa⟩
        have hT := hI.told sa o1 ho1 hd1
        unfold varT at hT
        rw [if_pos rfl] at hT
        obtain ⟨b, cs, e, hb, hr, hn⟩ := hT
        have hnd : o.dst = none := by rw [hi] at hn2; exact hn2
        refine wpOp_mono ?_ (store L o a W b cs hi hI hd e hr hn)
        rintro a' W' ⟨rfl, hr', hon⟩
        have hv : varIs w T ka csX (at_ (a.put o.dst undef)) W' := by rw [hnd]; exact ⟨b, e, hb, hr'⟩
        refine ⟨undef, rfl, ?_, below_onto hB hon hb, ?_⟩
        · unfold varT
          rw [if_neg (Ne.symm hne), if_pos rfl]; exact hv
        · unfold varR
          rw [if_pos rfl]; exact hv
      · refine wpOp_mono ?_ (step L i o a W i1 i2 hi hI hB hd)
        rintro a' W' ⟨v, rfl, hv, hb⟩
        refine ⟨v, rfl, ?_, below_more hB hb, ?_⟩
        · unfold varT
          rw [if_neg i1, if_neg i2]
          intro k hk
          rw [hi] at hk
          have hk' : o.dst = some k := hk
          rw [hk']
          show (a.put (some k) v).tmps.getD k undef = _
          rw [getD_put_same _ _ _ (by rw [hI.size]; exact dst_lt hds (i := i) (by rw [hi]; exact hk')), hv]
        · unfold varR
          rw [if_neg i2]; exact hb
  · intro a W hI
    obtain ⟨o2, ho2⟩ : ∃ o2, ops[ss]? = some o2 := ⟨_, Array.getElem?_eq_getElem hss⟩
    have hT2 := hI.told ss o2 ho2 rfl
    unfold varT at hT2
    rw [if_neg (Ne.symm hne), if_pos rfl] at hT2
    obtain ⟨b, e, hb, hr⟩ := hT2
    exact done a W b hI hI.g e hr hb
end
end Go.Proofs.YtghmkacamabndaaGreatDoor.Reg
namespace Go.Proofs.YtghmkacamabndaaGreatDoor.Mem
open Go.ChangeShapes Go.WideShapes Go.RowKit Base Num Slc Slf Rw Tmr Srl Rom Opl Reg

def gcells (x y vo ve vi : Value) (s : St) (co fin : Int) : Array Value := #[x, y, .int .i64 s.m.a, .int .i64 s.m.b, .int .i64 s.m.pc, .int .i64 s.m.sp, .bool s.m.z, .bool s.m.c, .bool s.m.e, .bool s.m.h, .bool s.m.s, .int .i64 s.m.fl, .int .i64 s.m.ms, .int .i64 s.m.ky,
  .int .i64 s.m.t.c, .int .i64 s.m.t.v, .int .i64 s.m.t.s, .int .i64 s.m.t.m, .int .i64 s.m.p.d, .bool s.m.p.b, .bool s.m.p.l, .int .i64 s.m.p.n, .int .i64 s.m.p.x, .bool s.m.p.t, .int .i64 s.m.k, vo, ve, .int .i64 s.u, vi, .int .i64 co, .int .i64 fin]
def gval (x y vo ve vi : Value) (s : St) (co fin : Int) : Value := .agg (gcells x y vo ve vi s co fin)
abbrev GRow (w : World) (g : Nat) (x y vo ve vi : Value) (s : St) (co fin : Int) : Prop := Row w g (gcells x y vo ve vi s co fin) 86
theorem info_g : (Tryz.prog.info? 86).map (·.size) = some 31 := by kernel_rfl
structure Gcs (w : World) (g : Nat) (vo ve vi : Value) (s : St) (co fin : Int) : Prop where
  fl : w.cell? ⟨g, 11, none⟩ = some (.int .i64 s.m.fl)
  pd : w.cell? ⟨g, 18, none⟩ = some (.int .i64 s.m.p.d)
  px : w.cell? ⟨g, 22, none⟩ = some (.int .i64 s.m.p.x)
  o : w.cell? ⟨g, 25, none⟩ = some vo
  e : w.cell? ⟨g, 26, none⟩ = some ve
  u : w.cell? ⟨g, 27, none⟩ = some (.int .i64 s.u)
  vi : w.cell? ⟨g, 28, none⟩ = some vi
  co : w.cell? ⟨g, 29, none⟩ = some (.int .i64 co)
  fin : w.cell? ⟨g, 30, none⟩ = some (.int .i64 fin)
theorem gc {w : World} {g : Nat} {x y vo ve vi : Value} {s : St} {co fin : Int} (h : GRow w g x y vo ve vi s co fin) : Gcs w g vo ve vi s co fin := ⟨h.cell 11, h.cell 18, h.cell 22, h.cell 25, h.cell 26, h.cell 27, h.cell 28, h.cell 29, h.cell 30⟩
theorem gs_cells (x y vo ve vi : Value) (s : St) (co fin : Int) : (gcells x y vo ve vi s co fin).extract 0 (0 + (scells x y vo ve s).size) = scells x y vo ve s := by kernel_rfl
theorem gp_cells (x y vo ve vi : Value) (s : St) (co fin : Int) : (gcells x y vo ve vi s co fin).extract 18 (18 + 6) = #[.int .i64 s.m.p.d, .bool s.m.p.b, .bool s.m.p.l, .int .i64 s.m.p.n, .int .i64 s.m.p.x, .bool s.m.p.t] := by kernel_rfl
theorem gt_cells (x y vo ve vi : Value) (s : St) (co fin : Int) : (gcells x y vo ve vi s co fin).extract 14 (14 + 4) = #[.int .i64 s.m.t.c, .int .i64 s.m.t.v, .int .i64 s.m.t.s, .int .i64 s.m.t.m] := by kernel_rfl
theorem gall_one {x y vo ve vi : Value} (hx : x.oneCell' = true) (hy : y.oneCell' = true) (ho : vo.oneCell' = true) (he : ve.oneCell' = true) (hi : vi.oneCell' = true) (s : St) (co fin : Int) : (gcells x y vo ve vi s co fin).all (·.oneCell') = true := by
  unfold Value.oneCell' at hx hy ho he hi
  simp only [gcells, List.all_toArray, List.all_cons, List.all_nil, Value.oneCell', hx, hy, ho, he, hi, Bool.and_true]
theorem built_g (x y vo ve : Value) (s : St) (co fin : Int) : Tryz.prog.built 86 [(0, s.val x y vo ve), (2, .int .i64 co), (3, .int .i64 fin)] = some (gcells x y vo ve nil64 s co fin) := by kernel_rfl
section
variable {ops : Array Oper} {rest : List Oper} {op : Oper} {a : Act} {w : World} {K : Act → World → Prop} {Q : Exit → Act → World → Prop} {p q r1 r2 : Operand} {g k : Nat} {T : TypeId} {v x y vo ve vi : Value} {s : St} {co fin : Int}
theorem al_g (hgd : op.guard = none) (ho : op.op = .alloc 86)
    (h : ∀ w', GRow w' w.heap.size nil64 nil64 nil64 nil64 nil64 St.nul 0 0 → Below w.heap.size w w' → wpList Tryz.prog ops Q rest (a.put op.dst (.pointer (some ⟨w.heap.size, 0, none⟩))) w') : wpList Tryz.prog ops Q (op :: rest) a w :=
  wpList_plain hgd fun _ hK => by
    have e : (execOp a.eval op).run Tryz.prog w = .ok (.value (.pointer (some ⟨w.heap.size, 0, none⟩))) (w.alloc (.cells (gcells nil64 nil64 nil64 nil64 nil64 St.nul 0 0) 86)) := by
      unfold execOp
      rw [ho]
      kernel_rfl
    unfold Oper.wp
    rw [e]
    exact hK _ _ (h _ (Row.new _ _ _) ((Below.refl _ _).alloc (Nat.le_refl _) _))
theorem bd_g (hgd : op.guard = none) (ho : op.op = .build 86 #[(0, p), (2, q), (3, r1)]) (hp : a.eval p = s.val x y vo ve) (hq : a.eval q = .int .i64 co) (hr : a.eval r1 = .int .i64 fin) (h : wpList Tryz.prog ops Q rest (a.put op.dst (gval x y vo ve nil64 s co fin)) w) : wpList Tryz.prog ops Q (op :: rest) a w :=
  wpList_plain hgd fun _ hK => build_op (parts := [(0, p), (2, q), (3, r1)]) (vals := [(0, s.val x y vo ve), (2, .int .i64 co), (3, .int .i64 fin)]) ho (by simp only [List.map_cons, List.map_nil, hp, hq, hr]) (built_g x y vo ve s co fin) (hK _ _ h)
theorem ld_g (hgd : op.guard = none) (ho : op.op = .load 86 p) (hx : a.eval p = .pointer (some ⟨g, 0, none⟩)) (hr : GRow w g x y vo ve vi s co fin)
    (h : wpList Tryz.prog ops Q rest (a.put op.dst (gval x y vo ve vi s co fin)) w) : wpList Tryz.prog ops Q (op :: rest) a w :=
  ld_row hgd _ p ho hx hr Tryz.underlying86 rfl info_g h
theorem st_g {x0 y0 o0 e0 i0 : Value} {s0 : St} {c0 f0 : Int} (hgd : op.guard = none) (ho : op.op = .store 86 p q) (hx : a.eval p = .pointer (some ⟨g, 0, none⟩)) (hy : a.eval q = gval x y vo ve vi s co fin) (hr : GRow w g x0 y0 o0 e0 i0 s0 c0 f0) (h1 : x.oneCell' = true) (h2 : y.oneCell' = true) (h3 : vo.oneCell' = true) (h4 : ve.oneCell' = true) (h5 : vi.oneCell' = true)
    (h : ∀ w', GRow w' g x y vo ve vi s co fin → Onto g w w' → w'.heap.size = w.heap.size → wpList Tryz.prog ops Q rest (a.put op.dst undef) w') : wpList Tryz.prog ops Q (op :: rest) a w :=
  st_row hgd _ p q ho hx hy hr info_g rfl (gall_one h1 h2 h3 h4 h5 s co fin) h
theorem ld_gs (hgd : op.guard = none) (ho : op.op = .load 36 p) (hx : a.eval p = .pointer (some ⟨g, 0, none⟩)) (hr : GRow w g x y vo ve vi s co fin)
    (h : wpList Tryz.prog ops Q rest (a.put op.dst (s.val x y vo ve)) w) : wpList Tryz.prog ops Q (op :: rest) a w :=
  ld_in (cs' := scells x y vo ve s) hgd ho hx hr Tryz.underlying36 rfl (gs_cells x y vo ve vi s co fin) info_st h
theorem ldP_op (ho : op.op = .load 28 p) (hx : a.eval p = .pointer (some ⟨g, 18, none⟩)) (hr : GRow w g x y vo ve vi s co fin) (h : K (a.put op.dst s.m.p.val) w) : op.wp Tryz.prog a w K Q :=
  lw_in (cs' := #[.int .i64 s.m.p.d, .bool s.m.p.b, .bool s.m.p.l, .int .i64 s.m.p.n, .int .i64 s.m.p.x, .bool s.m.p.t]) ho hx hr Tryz.underlying28 rfl (gp_cells x y vo ve vi s co fin) (by kernel_rfl) h
theorem ldT_op (ho : op.op = .load 26 p) (hx : a.eval p = .pointer (some ⟨g, 14, none⟩)) (hr : GRow w g x y vo ve vi s co fin) (h : K (a.put op.dst s.m.t.val) w) : op.wp Tryz.prog a w K Q :=
  lw_in (cs' := #[.int .i64 s.m.t.c, .int .i64 s.m.t.v, .int .i64 s.m.t.s, .int .i64 s.m.t.m]) ho hx hr Tryz.underlying26 rfl (gt_cells x y vo ve vi s co fin) (by kernel_rfl) h
theorem st_gp {r : Sr} (hgd : op.guard = none) (ho : op.op = .store 28 p q) (hx : a.eval p = .pointer (some ⟨g, 18, none⟩)) (hy : a.eval q = r.val) (hr : GRow w g x y vo ve vi s co fin)
    (h : ∀ w', GRow w' g x y vo ve vi (s.port r) co fin → Onto g w w' → w'.heap.size = w.heap.size → wpList Tryz.prog ops Q rest (a.put op.dst undef) w') : wpList Tryz.prog ops Q (op :: rest) a w :=
  st_in (vs := [.int .i64 r.d, .bool r.b, .bool r.l, .int .i64 r.n, .int .i64 r.x, .bool r.t]) (cs' := gcells x y vo ve vi (s.port r) co fin) hgd ho hx hy hr rfl info_p rfl rfl (by kernel_rfl) h
theorem st_gt {t : Tm} (hgd : op.guard = none) (ho : op.op = .store 26 p q) (hx : a.eval p = .pointer (some ⟨g, 14, none⟩)) (hy : a.eval q = t.val) (hr : GRow w g x y vo ve vi s co fin)
    (h : ∀ w', GRow w' g x y vo ve vi { s with m := { s.m with t := t } } co fin → Onto g w w' → w'.heap.size = w.heap.size → wpList Tryz.prog ops Q rest (a.put op.dst undef) w') : wpList Tryz.prog ops Q (op :: rest) a w :=
  st_in (vs := [.int .i64 t.c, .int .i64 t.v, .int .i64 t.s, .int .i64 t.m]) (cs' := gcells x y vo ve vi { s with m := { s.m with t := t } } co fin) hgd ho hx hy hr rfl info_t rfl rfl (by kernel_rfl) h
theorem st_gn {z : Int} {s' : St} (hgd : op.guard = none) (ho : op.op = .store 2 p q) (hx : a.eval p = .pointer (some ⟨g, k, none⟩)) (hy : a.eval q = .int .i64 z) (hr : GRow w g x y vo ve vi s co fin) (hk : decide (k < 31) = true)
    (hcs : (gcells x y vo ve vi s co fin).setIfInBounds k (.int .i64 z) = gcells x y vo ve vi s' co fin)
    (h : ∀ w', GRow w' g x y vo ve vi s' co fin → Onto g w w' → w'.heap.size = w.heap.size → wpList Tryz.prog ops Q rest (a.put op.dst undef) w') : wpList Tryz.prog ops Q (op :: rest) a w :=
  st_in (vs := [.int .i64 z]) hgd ho hx hy hr rfl info_i hk rfl hcs h
theorem st_go {l : List M3} (hgd : op.guard = none) (ho : op.op = .store 31 p q) (hx : a.eval p = .pointer (some ⟨g, 25, none⟩)) (hy : a.eval q = v) (hr : GRow w g x y vo ve vi s co fin) (h1 : v.oneCell' = true)
    (h : ∀ w', GRow w' g x y v ve vi { s with o := l } co fin → Onto g w w' → w'.heap.size = w.heap.size → wpList Tryz.prog ops Q rest (a.put op.dst undef) w') : wpList Tryz.prog ops Q (op :: rest) a w :=
  st_in (vs := [v]) (cs' := gcells x y v ve vi { s with o := l } co fin) hgd ho hx hy hr (cells_one h1) (by kernel_rfl) rfl (by simp [h1]) rfl h
theorem st_ge {l : List M3} (hgd : op.guard = none) (ho : op.op = .store 34 p q) (hx : a.eval p = .pointer (some ⟨g, 26, none⟩)) (hy : a.eval q = v) (hr : GRow w g x y vo ve vi s co fin) (h1 : v.oneCell' = true)
    (h : ∀ w', GRow w' g x y vo v vi { s with e := l } co fin → Onto g w w' → w'.heap.size = w.heap.size → wpList Tryz.prog ops Q rest (a.put op.dst undef) w') : wpList Tryz.prog ops Q (op :: rest) a w :=
  st_in (vs := [v]) (cs' := gcells x y vo v vi { s with e := l } co fin) hgd ho hx hy hr (cells_one h1) (by kernel_rfl) rfl (by simp [h1]) rfl h
theorem st_gi (hgd : op.guard = none) (ho : op.op = .store 31 p q) (hx : a.eval p = .pointer (some ⟨g, 28, none⟩)) (hy : a.eval q = v) (hr : GRow w g x y vo ve vi s co fin) (h1 : v.oneCell' = true)
    (h : ∀ w', GRow w' g x y vo ve v s co fin → Onto g w w' → w'.heap.size = w.heap.size → wpList Tryz.prog ops Q rest (a.put op.dst undef) w') : wpList Tryz.prog ops Q (op :: rest) a w :=
  st_in (vs := [v]) (cs' := gcells x y vo ve v s co fin) hgd ho hx hy hr (cells_one h1) (by kernel_rfl) rfl (by simp [h1]) rfl h
theorem stN_op {z : Int} {cs : Array Value} (ho : op.op = .store 2 p q) (hx : a.eval p = .pointer (some ⟨g, k, none⟩)) (hy : a.eval q = .int .i64 z) (hr : Row w g cs T) (hk : k < cs.size)
    (h : ∀ w', Row w' g (cs.setIfInBounds k (.int .i64 z)) T → Onto g w w' → K (a.put op.dst undef) w') : op.wp Tryz.prog a w K Q := by
  have ht : w.there g k [Value.int .i64 z].length := hr.there k 1 (by omega)
  unfold Oper.wp execOp
  simp only [ho, hx, hy, Instr.storeAt, Instr.sureAddr, Sem.run_bind, Sem.run_pure, Result.andThen_ok, run_store_in (P := Tryz.prog) w g k 2 (.int .i64 z) [.int .i64 z] rfl ht (by kernel_rfl) rfl]
  exact h _ (hr.cells [.int .i64 z] k) (onto_cells _ k _ _ (Onto.refl _ _))
theorem alP_op (ho : op.op = .alloc 28) (h : K (a.put op.dst (.pointer (some ⟨w.heap.size, 0, none⟩))) (w.alloc (.cells #[.int .i64 0, .bool false, .bool false, .int .i64 0, .int .i64 0, .bool false] 28))) : op.wp Tryz.prog a w K Q := by
  have e : (execOp a.eval op).run Tryz.prog w = .ok (.value (.pointer (some ⟨w.heap.size, 0, none⟩))) (w.alloc (.cells #[.int .i64 0, .bool false, .bool false, .int .i64 0, .int .i64 0, .bool false] 28)) := by
    unfold execOp
    rw [ho]
    kernel_rfl
  unfold Oper.wp
  rw [e]
  exact h
theorem alT_op (ho : op.op = .alloc 26) (h : K (a.put op.dst (.pointer (some ⟨w.heap.size, 0, none⟩))) (w.alloc (.cells #[.int .i64 0, .int .i64 0, .int .i64 0, .int .i64 0] 26))) : op.wp Tryz.prog a w K Q := by
  have e : (execOp a.eval op).run Tryz.prog w = .ok (.value (.pointer (some ⟨w.heap.size, 0, none⟩))) (w.alloc (.cells #[.int .i64 0, .int .i64 0, .int .i64 0, .int .i64 0] 26)) := by
    unfold execOp
    rw [ho]
    kernel_rfl
  unfold Oper.wp
  rw [e]
  exact h
theorem stRow_op {ty : TypeId} {cells cs : Array Value} (ho : op.op = .store ty p q) (hx : a.eval p = .pointer (some ⟨g, 0, none⟩)) (hy : a.eval q = .agg cells) (hr : Row w g cs T) (hi : (Tryz.prog.info? ty).map (·.size) = some cells.size) (hold : cs.size = cells.size) (h1 : cells.all (·.oneCell') = true)
    (h : ∀ w', Row w' g cells T → Onto g w w' → K (a.put op.dst undef) w') : op.wp Tryz.prog a w K Q :=
  wp_store_row _ _ _ ho g cells hx hy _ _ hr.row hi hold h1
    (h _ (Row.of (setRow_heap w g cs cells _ _ hr.row)) ⟨rfl, rfl, rfl, by simp, fun k hk _ => setRow_other w g k _ hk⟩)
end
structure Mid (base g : Nat) (w w' : World) : Prop where
  os : w'.os = w.os
  tape : w'.tape = w.tape
  output : w'.output = w.output
  size : w.heap.size ≤ w'.heap.size
  block : ∀ k, k < w.heap.size → k ≠ g → (k < base ∨ ∀ cs T fz, w.heap[k]? = some (.cells cs T fz) → Plain T) → w'.heap[k]? = w.heap[k]?
section
variable {base g : Nat} {w w' w'' : World}
theorem Mid.of (h : Below w.heap.size w w') : Mid base g w w' := ⟨h.os, h.tape, h.output, h.size, fun k hk _ _ => h.block k hk⟩
theorem Mid.refl (base g : Nat) (w : World) : Mid base g w w := .of (Below.refl _ _)
theorem Mid.mild (h : Mild base w w') : Mid base g w w' := ⟨h.os, h.tape, h.output, h.size, fun k hk _ hp => h.block k hk hp⟩
theorem Mid.onto (h : Onto g w w') : Mid base g w w' := ⟨h.os, h.tape, h.output, h.size, fun k hk hg _ => h.block k hg hk⟩
theorem Mid.trans (h : Mid base g w w') (k : Mid base g w' w'') : Mid base g w w'' :=
  ⟨k.os.trans h.os, k.tape.trans h.tape, k.output.trans h.output, Nat.le_trans h.size k.size, fun j hj hg hp => by
    have e := h.block j hj hg hp
    refine (k.block j (Nat.lt_of_lt_of_le hj h.size) hg ?_).trans e
    rw [e]; exact hp⟩
theorem Mid.new {p : Nat} (h : Mid base g w w') (ho : Onto p w' w'') (hp : w.heap.size ≤ p) : Mid base g w w'' :=
  ⟨ho.os.trans h.os, ho.tape.trans h.tape, ho.output.trans h.output, Nat.le_trans h.size ho.size, fun k hk hg hq => by
    have := h.size
    rw [ho.block k (by omega) (by omega)]; exact h.block k hk hg hq⟩
theorem Mid.row (h : Mid base g w w') {b : Nat} {cs : Array Value} {T : TypeId} (hr : Row w b cs T) (hT : Plain T) (hb : b ≠ g) : Row w' b cs T :=
  hr.keep (h.block b hr.lt hb (.inr fun cs' T' fz e => by
    rw [hr.row] at e
    simp only [Option.some.injEq, Obj.cells.injEq] at e
    exact e.2.1 ▸ hT))
theorem Mid.old (h : Mid base g w w') (hbg : base ≤ g) {α : Type} {f : Fl α} {v : Value} {l : List α} (hs : SlF f w v l) (hv : 0 < l.length → ∀ k, v.ownBlock = some k → k < base) : SlF f w' v l := by
  obtain ⟨a, cap, rfl, h1, h2⟩ := hs
  exact ⟨a, cap, rfl, h1.keep h.size (fun h0 x hx => h.block _ (h1.lt h0 x hx) (by have := hv h0 _ (by subst hx; rfl); omega) (.inl (hv h0 _ (by subst hx; rfl)))), h2⟩
theorem Mid.below (h : Mid base g w w') (hbg : base ≤ g) (hs : base ≤ w.heap.size) : Below base w w' := ⟨h.os, h.tape, h.output, h.size, fun k hk => h.block k (by omega) (by omega) (.inl hk)⟩
end
theorem plain_g : Plain 86 := ⟨by decide, by decide⟩
def Gd (base g : Nat) (w w' : World) (x y vi : Value) (co fin : Int) (s : St) : Prop := ∃ vo ve, GRow w' g x y vo ve vi s co fin ∧ So base w' x y vo ve s ∧ Mid base g w w'
end Go.Proofs.YtghmkacamabndaaGreatDoor.Mem
namespace Go.Proofs.YtghmkacamabndaaGreatDoor.Srl
open Go.ChangeShapes Go.WideShapes Go.RowKit Base Num Slc Rw Reg Tmr

def AnswerSays (s : Sr) (bit at_ : Int) (r : Sr × Bool) (w : World) : Prop :=
    Calls Tryz.prog 165 #[s.val, .int .i64 bit, .int .i64 at_] w fun e w' => e = .returned (.tuple #[r.1.val, .bool r.2]) ∧ Below w.heap.size w w'
set_option maxHeartbeats 2000000 in
theorem ans_wrong (s : Sr) (bit at_ : Int) (w : World) (hok : s.ok = false) : AnswerSays s bit at_ (Sr.nul, false) w := by
  unfold AnswerSays
  rw [Sr.eta s]
  go_enter Tryz.func165, Tryz.ntmps165
  go_wp2_with (first
    | (go_at_call 78; refine (serialOk_impl s _).mono ?_; rintro e w1 ⟨rfl, hb⟩; rw [hok]; obtain ⟨r1, r2, hB⟩ := box2 hb)
    | (refine st_sr rfl rfl rfl rfl r2 rfl ?_; intro w2 r3 ho2 hs2))
  refine ret_row_tmp rfl rfl r3 und_sr rfl info_sr rfl rfl ?_
  exact ⟨rfl, below_onto hB ho2 (by omega)⟩
set_option maxHeartbeats 2000000 in
theorem ans_bit (s : Sr) (bit at_ : Int) (w : World) (hok : s.ok = true) (hbit : inn bit 0 1 = false) : AnswerSays s bit at_ (Sr.nul, false) w := by
  unfold AnswerSays
  rw [Sr.eta s]
  go_enter Tryz.func165, Tryz.ntmps165
  go_wp2_with (first
    | (go_at_call 78; refine (serialOk_impl s _).mono ?_; rintro e w1 ⟨rfl, hb⟩; rw [hok]; obtain ⟨r1, r2, hB⟩ := box2 hb)
    | (go_at_call 134; refine (bitOk_impl _ _).mono ?_; rintro e w1 ⟨rfl, rfl⟩; rw [hbit])
    | (refine st_sr rfl rfl rfl rfl r2 rfl ?_; intro w2 r3 ho2 hs2))
  refine ret_row_tmp rfl rfl r3 und_sr rfl info_sr rfl rfl ?_
  exact ⟨rfl, below_onto hB ho2 (by omega)⟩
set_option maxHeartbeats 2000000 in
theorem ans_early (s : Sr) (bit at_ : Int) (w : World) (hok : s.ok = true) (hbit : inn bit 0 1 = true) (h0 : at_ < 0) : AnswerSays s bit at_ (Sr.nul, false) w := by
  unfold AnswerSays
  rw [Sr.eta s]
  · go_enter Tryz.func165, Tryz.ntmps165
    go_wp2_with (first
      | (go_at_call 78; refine (serialOk_impl s _).mono ?_; rintro e w1 ⟨rfl, hb⟩; rw [hok]; obtain ⟨r1, r2, hB⟩ := box2 hb)
      | (go_at_call 134; refine (bitOk_impl _ _).mono ?_; rintro e w1 ⟨rfl, rfl⟩; rw [hbit])
      | (refine st_sr rfl rfl rfl rfl r2 rfl ?_; intro w2 r3 ho2 hs2))
    refine ret_row_tmp rfl rfl r3 und_sr rfl info_sr rfl rfl ?_
    exact ⟨rfl, below_onto hB ho2 (by omega)⟩
set_option maxHeartbeats 2000000 in
theorem ans_late (s : Sr) (bit at_ : Int) (w : World) (hok : s.ok = true) (hbit : inn bit 0 1 = true) (h0 : ¬ at_ < 0) (h1 : 999999968 < at_) : AnswerSays s bit at_ (Sr.nul, false) w := by
  unfold AnswerSays
  rw [Sr.eta s]
  go_enter Tryz.func165, Tryz.ntmps165
  go_wp2_with (first
    | (go_at_call 78; refine (serialOk_impl s _).mono ?_; rintro e w1 ⟨rfl, hb⟩; rw [hok]; obtain ⟨r1, r2, hB⟩ := box2 hb)
    | (go_at_call 134; refine (bitOk_impl _ _).mono ?_; rintro e w1 ⟨rfl, rfl⟩; rw [hbit])
    | (refine st_sr rfl rfl rfl rfl r2 rfl ?_; intro w2 r3 ho2 hs2))
  refine ret_row_tmp rfl rfl r3 und_sr rfl info_sr rfl rfl ?_
  exact ⟨rfl, below_onto hB ho2 (by omega)⟩
set_option maxHeartbeats 2000000 in
theorem ans_none (d n x : Int) (b l : Bool) (bit at_ : Int) (w : World) (hok : (Sr.mk d b l n x false).ok = true) (hbit : inn bit 0 1 = true) (ha' : 0 ≤ at_ ∧ at_ ≤ 999999968) : AnswerSays ⟨d, b, l, n, x, false⟩ bit at_ (⟨d, b, l, n, x, false⟩, false) w := by
  unfold AnswerSays
  rw [Sr.eta]
  go_enter Tryz.func165, Tryz.ntmps165
  go_wp2_with (first
    | (go_at_call 78; refine (serialOk_impl ⟨d, b, l, n, x, false⟩ _).mono ?_; rintro e w1 ⟨rfl, hb⟩; rw [hok]; obtain ⟨r1, r2, hB⟩ := box2 hb; clear hb; have c1 := r1.cell)
    | (go_at_call 134; refine (bitOk_impl _ _).mono ?_; rintro e w1 ⟨rfl, rfl⟩; rw [hbit])
    | (go_at_call 141; refine (portOf_impl ⟨d, b, l, n, x, false⟩ _).mono ?_; rintro e w3 ⟨rfl, hb3⟩; replace r1 := r1.below hb3; replace r2 := r2.below hb3; replace hB := below_more hB hb3; clear hb3; rw [Sr.eta_port])
    | (refine st_port rfl rfl rfl rfl (Row.new _ _ _) rfl ?_; intro w2 r4 ho2 hs2; replace r1 := (r1.alloc _).onto ho2 (Nat.ne_of_lt r1.lt); replace r2 := (r2.alloc _).onto ho2 (Nat.ne_of_lt r2.lt); replace hB := below_onto (hB.alloc hB.size _) ho2 hB.size; have c4 := r4.cell; have c1 := r1.cell; clear ho2 hs2)
    | (refine st_sr rfl rfl rfl rfl r2 rfl ?_; intro w2 r3 ho2 hs2))
  refine ret_row_tmp rfl rfl r3 und_sr rfl info_sr rfl rfl ?_
  exact ⟨rfl, below_onto hB ho2 (by omega)⟩
set_option maxHeartbeats 2000000 in
theorem ans_last (d bit at_ : Int) (w : World) (hok : (Sr.mk d true true 1 0 true).ok = true) (hbit : inn bit 0 1 = true) (hb' : 0 ≤ bit ∧ bit ≤ 1) (ha' : 0 ≤ at_ ∧ at_ ≤ 999999968) (hd : 0 ≤ d ∧ d ≤ 255) : AnswerSays ⟨d, true, true, 1, 0, true⟩ bit at_ (⟨2 * d % 256 + bit, false, false, 0, 0, false⟩, true) w := by
  unfold AnswerSays
  rw [Sr.eta]
  go_enter Tryz.func165, Tryz.ntmps165
  go_wp2_with (first
    | (go_at_call 78; refine (serialOk_impl ⟨d, true, true, 1, 0, true⟩ _).mono ?_; rintro e w1 ⟨rfl, hb⟩; rw [hok]; obtain ⟨r1, r2, hB⟩ := box2 hb; clear hb; have c1 := r1.cell)
    | (go_at_call 134; refine (bitOk_impl _ _).mono ?_; rintro e w1 ⟨rfl, rfl⟩; rw [hbit])
    | (go_at_call 141; refine (portOf_impl ⟨d, true, true, 1, 0, true⟩ _).mono ?_; rintro e w3 ⟨rfl, hb3⟩; replace r2 := r2.below hb3; replace hB := below_more hB hb3; clear hb3; rw [Sr.eta_port])
    | (refine st_port rfl rfl rfl rfl (Row.new _ _ _) rfl ?_; intro w2 r4 ho2 hs2; have n5 : w.heap.size + 1 ≠ _ := Nat.ne_of_lt r2.lt; have hB0 := hB.size; replace r2 := (r2.alloc _).onto ho2 (Nat.ne_of_lt r2.lt); replace hB := below_onto (hB.alloc hB.size _) ho2 hB.size; have c4 := r4.cell; clear ho2 hs2)
    | (go_at_call 231; refine (shifted_impl _ _ _ _ hd hb' (by omega)).mono ?_; rintro e w5 ⟨rfl, hb5⟩; replace r2 := r2.below hb5; replace r4 := r4.below hb5; replace hB := below_more hB hb5; clear hb5)
    | (refine st_two rfl rfl rfl rfl r4 info_shift rfl ?_; intro w6 r7 ho6 hs6; simp only [List.setIfInBounds_toArray, List.set_cons_succ, List.set_cons_zero, Nat.zero_add] at r7; replace r2 := r2.onto ho6 n5; replace hB := below_onto hB ho6 hB0; have c7 := r7.cell; clear ho6 hs6)
    | (go_at_call 232; refine (through_impl _ _ _).mono ?_; rintro e w8 ⟨rfl, hb8⟩; replace r2 := r2.below hb8; replace r7 := r7.below hb8; have c7 := r7.cell; replace hB := below_more hB hb8; clear hb8)
    | (refine st_sr rfl rfl rfl rfl r2 rfl ?_; intro w2 r3 ho2 hs2))
  refine ret_row_tmp rfl rfl r3 und_sr rfl info_sr rfl rfl ?_
  exact ⟨rfl, below_onto hB ho2 (by omega)⟩
set_option maxHeartbeats 2000000 in
theorem ans_more (d n bit at_ : Int) (w : World) (hok : (Sr.mk d true true n 0 true).ok = true) (hbit : inn bit 0 1 = true) (hb' : 0 ≤ bit ∧ bit ≤ 1) (ha' : 0 ≤ at_ ∧ at_ ≤ 999999968) (hd : 0 ≤ d ∧ d ≤ 255) (hn : 1 ≤ n ∧ n ≤ 8) (h0 : decide (n - 1 = 0) = false) : AnswerSays ⟨d, true, true, n, 0, true⟩ bit at_ (⟨2 * d % 256 + bit, true, true, n - 1, at_ + 32, false⟩, false) w := by
  unfold AnswerSays
  rw [Sr.eta]
  go_enter Tryz.func165, Tryz.ntmps165
  go_wp2_with (first
    | (go_at_call 78; refine (serialOk_impl ⟨d, true, true, n, 0, true⟩ _).mono ?_; rintro e w1 ⟨rfl, hb⟩; rw [hok]; obtain ⟨r1, r2, hB⟩ := box2 hb; clear hb; have c1 := r1.cell)
    | (go_at_call 134; refine (bitOk_impl _ _).mono ?_; rintro e w1 ⟨rfl, rfl⟩; rw [hbit])
    | (go_at_call 141; refine (portOf_impl ⟨d, true, true, n, 0, true⟩ _).mono ?_; rintro e w3 ⟨rfl, hb3⟩; replace r2 := r2.below hb3; replace hB := below_more hB hb3; clear hb3; rw [Sr.eta_port])
    | (refine st_port rfl rfl rfl rfl (Row.new _ _ _) rfl ?_; intro w2 r4 ho2 hs2; have n5 : w.heap.size + 1 ≠ _ := Nat.ne_of_lt r2.lt; have hB0 := hB.size; replace r2 := (r2.alloc _).onto ho2 (Nat.ne_of_lt r2.lt); replace hB := below_onto (hB.alloc hB.size _) ho2 hB.size; have c4 := r4.cell; clear ho2 hs2)
    | (go_at_call 231; refine (shifted_impl _ _ _ _ hd hb' hn).mono ?_; rintro e w5 ⟨rfl, hb5⟩; replace r2 := r2.below hb5; replace r4 := r4.below hb5; replace hB := below_more hB hb5; clear hb5)
    | (refine st_two rfl rfl rfl rfl r4 info_shift rfl ?_; intro w6 r7 ho6 hs6; simp only [List.setIfInBounds_toArray, List.set_cons_succ, List.set_cons_zero, Nat.zero_add] at r7; replace r2 := r2.onto ho6 n5; replace hB := below_onto hB ho6 hB0; have c7 := r7.cell; clear ho6 hs6)
    | (go_at_call 232; refine (through_impl _ _ _).mono ?_; rintro e w8 ⟨rfl, hb8⟩; rw [h0]; replace r2 := r2.below hb8; replace r7 := r7.below hb8; have c7 := r7.cell; replace hB := below_more hB hb8; clear hb8)
    | (refine st_flag rfl rfl rfl rfl r7 info_bool rfl ?_; intro w9 r9 ho9 hs9; simp only [List.setIfInBounds_toArray, List.set_cons_succ, List.set_cons_zero] at r9; replace r2 := r2.onto ho9 n5; replace hB := below_onto hB ho9 hB0; have c9 := r9.cell; clear ho9 hs9)
    | (refine st_int rfl rfl rfl rfl r9 info_i64 rfl ?_; intro w10 r10 ho10 hs10; simp only [List.setIfInBounds_toArray, List.set_cons_succ, List.set_cons_zero] at r10; replace r2 := r2.onto ho10 n5; replace hB := below_onto hB ho10 hB0; have c10 := r10.cell; clear ho10 hs10)
    | (go_at_call 229; refine (serial_impl ⟨2 * d % 256 + bit, true, true, n - 1, at_ + 32, false⟩ _).mono ?_; rintro e w3 ⟨rfl, hb3⟩; replace r2 := r2.below hb3; replace hB := below_more hB hb3; rw [Sr.eta])
    | (refine st_sr rfl rfl rfl rfl r2 rfl ?_; intro w2 r3 ho2 hs2))
  refine ret_row_tmp rfl rfl r3 und_sr rfl info_sr rfl rfl ?_
  exact ⟨rfl, below_onto hB ho2 (by omega)⟩
theorem serialAnswer_impl (s : Sr) (bit at_ : Int) (w : World) :
    Calls Tryz.prog 165 #[s.val, .int .i64 bit, .int .i64 at_] w fun e w' => e = .returned (.tuple #[(s.answer bit at_).1.val, .bool (s.answer bit at_).2]) ∧ Below w.heap.size w w' := by
  show AnswerSays s bit at_ (s.answer bit at_) w
  cases hok : s.ok
  · rw [show s.answer bit at_ = (Sr.nul, false) by simp [Sr.answer, hok]]
    exact ans_wrong s bit at_ w hok
  cases hbit : inn bit 0 1
  · rw [show s.answer bit at_ = (Sr.nul, false) by simp [Sr.answer, hbit]]
    exact ans_bit s bit at_ w hok hbit
  cases hat : inn at_ 0 999999968
  · rw [show s.answer bit at_ = (Sr.nul, false) by simp [Sr.answer, hat]]
    have hat' := inn_false hat
    by_cases h0 : at_ < 0
    · exact ans_early s bit at_ w hok hbit h0
    · exact ans_late s bit at_ w hok hbit h0 (by omega)
  have ha' := inn_true hat
  have hb' := inn_true hbit
  cases ht : s.t
  · rw [show s.answer bit at_ = (s, false) by simp [Sr.answer, hok, hbit, hat, ht]]
    obtain ⟨d, b, l, n, x, t⟩ := s
    simp only at ht
    subst ht
    exact ans_none d n x b l bit at_ w hok hbit ha'
  · obtain ⟨hl, hbu, hx⟩ := Sr.ok_wait hok ht
    have hn := Sr.ok_busy hok hbu
    have hd := (Sr.ok_true hok).1
    obtain ⟨d, b, l, n, x, t⟩ := s
    simp only at ht hl hbu hx hn hd
    subst ht hl hbu hx
    by_cases h1 : n = 1
    · subst h1
      rw [show (Sr.mk d true true 1 0 true).answer bit at_ = (⟨2 * d % 256 + bit, false, false, 0, 0, false⟩, true) by simp [Sr.answer, hok, hbit, hat]]
      exact ans_last d bit at_ w hok hbit hb' ha' hd
    · rw [show (Sr.mk d true true n 0 true).answer bit at_ = (⟨2 * d % 256 + bit, true, true, n - 1, at_ + 32, false⟩, false) by simp [Sr.answer, hok, hbit, hat, h1]]
      exact ans_more d n bit at_ w hok hbit hb' ha' hd hn (by simp; omega)
end Go.Proofs.YtghmkacamabndaaGreatDoor.Srl
namespace Go.Proofs.YtghmkacamabndaaGreatDoor.Srl
open Go.ChangeShapes Go.WideShapes Go.RowKit Base Num Slc Rw Reg Tmr

structure Gp (w : World) (b4 b7 : Nat) (o : Sr) (W : World) : Prop where
  r7 : Row W b7 #[.int .i64 o.d, .int .i64 o.n, .bool o.b, .bool o.l, .int .i64 o.x, .bool o.t] 153
  r4 : ∃ cs : Array Value, cs.size = 6 ∧ Row W b4 cs 28
  bel : Below w.heap.size w W
theorem Gp.drew {w W : World} {b4 b7 : Nat} {o : Sr} (h : Gp w b4 b7 o W) : Gp w b4 b7 o W.drew := ⟨h.r7.drewN 1, h.r4.imp fun _ ⟨e, r⟩ => ⟨e, r.drewN 1⟩, h.bel.drew⟩
theorem Gp.below {w W W' : World} {b4 b7 : Nat} {o : Sr} (h : Gp w b4 b7 o W) (hb : Below W.heap.size W W') : Gp w b4 b7 o W' := ⟨h.r7.below hb, h.r4.imp fun _ ⟨e, r⟩ => ⟨e, r.below hb⟩, below_more h.bel hb⟩
theorem Gp.store {w W : World} {b4 b7 : Nat} {o : Sr} (h : Gp w b4 b7 o W) (h7 : b7 ≠ b4) (hw : w.heap.size ≤ b4) (cs : Array Value) (hcs : cs.size = 6) : Gp w b4 b7 o (W.setRow b4 cs) := by
  obtain ⟨old, e, r⟩ := h.r4
  exact ⟨h.r7.onto (row_set cs) h7, ⟨cs, hcs, Row.of (setRow_heap W _ _ _ _ _ r.row)⟩, below_onto h.bel (row_set cs) hw⟩
def SendsSays (s : Sr) (upto : Int) (r : Sr × Int × Int) (w : World) : Prop :=
    Calls Tryz.prog 161 #[s.val, .int .i64 upto] w fun e w' => e = .returned (.tuple #[r.1.val, .int .i64 r.2.1, .int .i64 r.2.2]) ∧ Below w.heap.size w w'
set_option maxHeartbeats 2000000 in
theorem sends_wrong (s : Sr) (upto : Int) (w : World) (hok : s.ok = false) : SendsSays s upto (Sr.nul, -1, 0) w := by
  unfold SendsSays
  rw [Sr.eta]
  go_enter Tryz.func161, Tryz.ntmps161
  go_wp2_with (first
    | (go_at_call 78; refine (serialOk_impl s _).mono ?_; rintro e w1 ⟨rfl, hb⟩; rw [hok]; obtain ⟨r1, r2, hB⟩ := box2 hb; clear hb; have c1 := r1.cell)
    | (go_at_call 141; refine (portOf_impl s _).mono ?_; rintro e w3 ⟨rfl, hb3⟩; replace r1 := r1.below hb3; replace r2 := r2.below hb3; replace hB := below_more hB hb3; clear hb3; rw [Sr.eta_port])
    | (refine st_port rfl rfl rfl rfl (Row.new _ _ _) rfl ?_; intro w2 r4 ho2 hs2; replace r1 := (r1.alloc _).onto ho2 (Nat.ne_of_lt r1.lt); replace r2 := (r2.alloc _).onto ho2 (Nat.ne_of_lt r2.lt); replace hB := below_onto (hB.alloc hB.size _) ho2 hB.size; have c4 := r4.cell; have c1 := r1.cell; clear ho2 hs2)
    | (refine st_sr rfl rfl rfl rfl r2 rfl ?_; intro w2 r3 ho2 hs2))
  refine ret_row_tmp2 rfl rfl r3 und_sr rfl info_sr rfl rfl rfl ?_
  exact ⟨rfl, below_onto hB ho2 (by omega)⟩
set_option maxHeartbeats 2000000 in
theorem sends_none (d n : Int) (b l t : Bool) (upto : Int) (w : World) (hok : (Sr.mk d b l n 0 t).ok = true) : SendsSays ⟨d, b, l, n, 0, t⟩ upto (⟨d, b, l, n, 0, t⟩, -1, 0) w := by
  unfold SendsSays
  rw [Sr.eta]
  go_enter Tryz.func161, Tryz.ntmps161
  go_wp2_with (first
    | (go_at_call 78; refine (serialOk_impl ⟨d, b, l, n, 0, t⟩ _).mono ?_; rintro e w1 ⟨rfl, hb⟩; rw [hok]; obtain ⟨r1, r2, hB⟩ := box2 hb; clear hb; have c1 := r1.cell)
    | (go_at_call 141; refine (portOf_impl ⟨d, b, l, n, 0, t⟩ _).mono ?_; rintro e w3 ⟨rfl, hb3⟩; replace r1 := r1.below hb3; replace r2 := r2.below hb3; replace hB := below_more hB hb3; clear hb3; rw [Sr.eta_port])
    | (refine st_port rfl rfl rfl rfl (Row.new _ _ _) rfl ?_; intro w2 r4 ho2 hs2; replace r1 := (r1.alloc _).onto ho2 (Nat.ne_of_lt r1.lt); replace r2 := (r2.alloc _).onto ho2 (Nat.ne_of_lt r2.lt); replace hB := below_onto (hB.alloc hB.size _) ho2 hB.size; have c4 := r4.cell; have c1 := r1.cell; clear ho2 hs2)
    | (refine st_sr rfl rfl rfl rfl r2 rfl ?_; intro w2 r3 ho2 hs2))
  refine ret_row_tmp2 rfl rfl r3 und_sr rfl info_sr rfl rfl rfl ?_
  exact ⟨rfl, below_onto hB ho2 (by omega)⟩
set_option maxHeartbeats 2000000 in
theorem sends_later (s : Sr) (upto : Int) (w : World) (hok : s.ok = true) (h0 : (s.x == 0) = false) (h1 : upto < s.x) : SendsSays s upto (s, -1, 0) w := by
  unfold SendsSays
  rw [Sr.eta s]
  go_enter Tryz.func161, Tryz.ntmps161
  go_wp2_with (first
    | (go_at_call 78; refine (serialOk_impl s _).mono ?_; rintro e w1 ⟨rfl, hb⟩; rw [hok]; obtain ⟨r1, r2, hB⟩ := box2 hb; clear hb; have c1 := r1.cell)
    | (go_at_call 141; refine (portOf_impl s _).mono ?_; rintro e w3 ⟨rfl, hb3⟩; replace r1 := r1.below hb3; replace r2 := r2.below hb3; replace hB := below_more hB hb3; clear hb3; rw [Sr.eta_port])
    | (refine st_port rfl rfl rfl rfl (Row.new _ _ _) rfl ?_; intro w2 r4 ho2 hs2; replace r1 := (r1.alloc _).onto ho2 (Nat.ne_of_lt r1.lt); replace r2 := (r2.alloc _).onto ho2 (Nat.ne_of_lt r2.lt); replace hB := below_onto (hB.alloc hB.size _) ho2 hB.size; have c4 := r4.cell; have c1 := r1.cell; clear ho2 hs2)
    | (refine st_sr rfl rfl rfl rfl r2 rfl ?_; intro w2 r3 ho2 hs2))
  refine ret_row_tmp2 rfl rfl r3 und_sr rfl info_sr rfl rfl rfl ?_
  exact ⟨rfl, below_onto hB ho2 (by omega)⟩
set_option maxHeartbeats 2000000 in
theorem sends_now (s : Sr) (upto : Int) (w : World) (hok : s.ok = true) (hd : 0 ≤ s.d ∧ s.d ≤ 255) (h0 : (s.x == 0) = false) (h1 : ¬ upto < s.x) : SendsSays s upto (⟨s.d, s.b, s.l, s.n, 0, true⟩, s.x, s.d / 128) w := by
  unfold SendsSays
  rw [Sr.eta s]
  generalize ho : (⟨s.d, s.b, s.l, s.n, 0, true⟩ : Sr) = out
  have hod : 0 ≤ out.d ∧ out.d ≤ 255 := by subst ho; exact hd
  have hde : s.d / 128 = out.d / 128 := by subst ho; rfl
  show Calls Tryz.prog _ _ _ fun e w' => e = .returned (.tuple #[out.val, .int .i64 s.x, .int .i64 (s.d / 128)]) ∧ _
  rw [hde]
  generalize hb4 : w.heap.size + 1 = b4
  have h4 : w.heap.size ≤ b4 := by omega
  clear hde
  go_enter Tryz.func161, Tryz.ntmps161
  go_wp2_with (first
    | (go_at_call 78; refine (serialOk_impl s _).mono ?_; rintro e w1 ⟨rfl, hb⟩; rw [hok]; obtain ⟨r1, r2, hB⟩ := box2 hb; clear hb; have c1 := r1.cell)
    | (go_at_call 141; refine (portOf_impl s _).mono ?_; rintro e w3 ⟨rfl, hb3⟩; replace r1 := r1.below hb3; replace r2 := r2.below hb3; replace hB := below_more hB hb3; clear hb3; rw [Sr.eta_port])
    | (refine st_port rfl rfl rfl rfl (Row.new _ _ _) rfl ?_; intro w2 r4 ho2 hs2; have n5 : w.heap.size + 1 ≠ _ := Nat.ne_of_lt r2.lt; have hB0 := hB.size; replace r2 := (r2.alloc _).onto ho2 (Nat.ne_of_lt r2.lt); replace hB := below_onto (hB.alloc hB.size _) ho2 hB.size; have c4 := r4.cell; clear ho2 hs2)
    | (refine st_flag rfl rfl rfl rfl r4 info_bool rfl ?_; intro w6 r6 ho6 hs6; simp only [List.setIfInBounds_toArray, List.set_cons_succ, List.set_cons_zero] at r6; replace r2 := r2.onto ho6 n5; replace hB := below_onto hB ho6 hB0; clear ho6 hs6)
    | (refine st_int rfl rfl rfl rfl r6 info_i64 rfl ?_; intro w7 r7 ho7 hs7; simp only [List.setIfInBounds_toArray, List.set_cons_succ, List.set_cons_zero] at r7; replace r2 := r2.onto ho7 n5; replace hB := below_onto hB ho7 hB0; clear ho7 hs7))
  have r8 : Row w7 w3.heap.size #[.int .i64 out.d, .int .i64 out.n, .bool out.b, .bool out.l, .int .i64 out.x, .bool out.t] 153 := by subst ho; exact r7
  have h74 : w3.heap.size ≠ b4 := by omega
  have hG : Gp w b4 w3.heap.size out w7 := ⟨r8, ⟨_, rfl, hb4 ▸ r2⟩, hB⟩
  clear r1 r2 r4 r6 r7 r8 hB n5 hB0 hb4 h0 h1 hd hok ho
  generalize w3.heap.size = b7 at *
  refine region_by_each (by kernel_rfl) (by kernel_rfl) (fun W => Gp w b4 b7 out W)
    (kinds [KIs (.agg #[.int .i64 out.d, .int .i64 out.n, .bool out.b, .bool out.l, .int .i64 out.x, .bool out.t]), KIs (.agg #[.int .i64 out.d, .bool out.b, .bool out.l, .int .i64 out.n, .int .i64 out.x, .bool out.t]), KIs (.int .i64 s.x), KIs (.pointer (some ⟨b7, 0, none⟩)), KIs (.agg #[.int .i64 out.d, .int .i64 out.n]), KIs (.int .i64 (out.d / 128)), KRow b4 #[.int .i64 out.d, .bool out.b, .bool out.l, .int .i64 out.n, .int .i64 out.x, .bool out.t] 28, KIs (.int .i64 s.x), KIs (.int .i64 (out.d / 128))])
    (steps 6 (fun k => k = b4) (fun _ => False)) (by kernel_rfl) (kinds_steps ?hY ?hX) hG.drew ?step ?done
  case hY =>
    intro K hK
    simp only [List.mem_cons, List.not_mem_nil, or_false] at hK
    rcases hK with rfl | rfl | rfl | rfl | rfl | rfl | rfl | rfl | rfl
    all_goals first | exact bears_is _ _ | exact bears_any _ | exact bears_int _ | exact bears_row _ _ _ _ (by simp)
  case hX =>
    intro ix K hK hne
    rcases ix with _ | ix
    · cases hK; first | exact bears_is _ _ | exact bears_any _ | exact bears_int _
    rcases ix with _ | ix
    · cases hK; first | exact bears_is _ _ | exact bears_any _ | exact bears_int _
    rcases ix with _ | ix
    · cases hK; first | exact bears_is _ _ | exact bears_any _ | exact bears_int _
    rcases ix with _ | ix
    · cases hK; first | exact bears_is _ _ | exact bears_any _ | exact bears_int _
    rcases ix with _ | ix
    · cases hK; first | exact bears_is _ _ | exact bears_any _ | exact bears_int _
    rcases ix with _ | ix
    · cases hK; first | exact bears_is _ _ | exact bears_any _ | exact bears_int _
    rcases ix with _ | ix
    · exact absurd rfl hne
    rcases ix with _ | ix
    · cases hK; first | exact bears_is _ _ | exact bears_any _ | exact bears_int _
    rcases ix with _ | ix
    · cases hK; first | exact bears_is _ _ | exact bears_any _ | exact bears_int _
    simp at hK
  case step =>
    intro L ix o A W hi hI hL hd
    have hin : ix < 9 := by
      by_cases hl : ix < 9
      · exact hl
      · simp [hl] at hi
    have hsz : A.tmps.size = 35 := hI.size
    rcases ix with _ | ix
    · cases hi
      have e : A.eval (.tmp 7) = .pointer (some ⟨b7, 0, none⟩) := hI.old 7 (by kernel_rfl)
      exact at_op rfl rfl (wp_load_row _ _ rfl _ e _ _ _ _ hI.g.r7.row und_port rfl info_port ⟨_, rfl, rfl, hI.g, steps_other (by decide) (Rel.refl _ _)⟩)
    rcases ix with _ | ix
    · cases hi
      have e0 : A.eval (.tmp 29) = .agg #[.int .i64 out.d, .int .i64 out.n, .bool out.b, .bool out.l, .int .i64 out.x, .bool out.t] := hI.get hd 0 29 rfl (by kernel_rfl)
      refine at_op rfl rfl (call_op rfl Tryz.func229 (by kernel_rfl) (by kernel_rfl) ?_)
      simp only [List.map_cons, List.map_nil, e0]
      refine (serial_impl out W).mono ?_
      rintro e w5 ⟨rfl, hb5⟩
      exact ⟨_, rfl, _, rfl, rfl, hI.g.below hb5, steps_other (by decide) (Rel.below hb5)⟩
    rcases ix with _ | ix
    · cases hi
      have e : A.eval (.tmp 8) = .int .i64 s.x := hI.old 8 (by kernel_rfl)
      exact at_op rfl rfl (move_op rfl ⟨_, rfl, e, hI.g, steps_other (by decide) (Rel.refl _ _)⟩)
    rcases ix with _ | ix
    · cases hi
      have e : A.eval (.tmp 7) = .pointer (some ⟨b7, 0, none⟩) := hI.old 7 (by kernel_rfl)
      refine at_op rfl rfl (val_op (v := .pointer (some ⟨b7, 0, none⟩)) ?_ ⟨_, rfl, rfl, hI.g, steps_other (by decide) (Rel.refl _ _)⟩)
      unfold execOp
      simp only [List.getElem_toArray, List.getElem_cons_zero, List.getElem_cons_succ, e]
      simp [go_sem]
    rcases ix with _ | ix
    · cases hi
      have e : A.eval (.tmp 32) = .pointer (some ⟨b7, 0, none⟩) := hI.get hd 3 32 rfl (by kernel_rfl)
      exact at_op rfl rfl (lw_in (cs' := #[.int .i64 out.d, .int .i64 out.n]) rfl e hI.g.r7 und_shift rfl rfl info_shift ⟨_, rfl, rfl, hI.g, steps_other (by decide) (Rel.refl _ _)⟩)
    rcases ix with _ | ix
    · cases hi
      have e0 : A.eval (.tmp 33) = .agg #[.int .i64 out.d, .int .i64 out.n] := hI.get hd 4 33 rfl (by kernel_rfl)
      refine at_op rfl rfl (call_op rfl Tryz.func230 (by kernel_rfl) (by kernel_rfl) ?_)
      simp only [List.map_cons, List.map_nil, e0]
      refine (highBit_impl out.d out.n W hod).mono ?_
      rintro e w5 ⟨rfl, hb5⟩
      exact ⟨_, rfl, _, rfl, rfl, hI.g.below hb5, steps_other (by decide) (Rel.below hb5)⟩
    rcases ix with _ | ix
    · cases hi
      have e1 : A.eval (.tmp 30) = .agg #[.int .i64 out.d, .bool out.b, .bool out.l, .int .i64 out.n, .int .i64 out.x, .bool out.t] := hI.get hd 1 30 rfl (by kernel_rfl)
      have e2 : A.eval (.tmp 4) = .pointer (some ⟨b4, 0, none⟩) := hI.old 4 (by kernel_rfl)
      obtain ⟨oc, hrs, hr⟩ := hI.g.r4
      exact at_op rfl rfl (wp_store_row _ _ _ rfl _ _ e2 e1 _ _ hr.row info_sr hrs (by simp [Value.oneCell']) ⟨_, rfl, setRow_heap W _ _ _ _ _ hr.row, hI.g.store h74 h4 _ rfl, steps_same (Rel.onto (row_set _) rfl)⟩)
    rcases ix with _ | ix
    · cases hi
      have e : A.eval (.tmp 31) = .int .i64 s.x := hI.get hd 2 31 rfl (by kernel_rfl)
      exact at_op rfl rfl (assign_op rfl ⟨_, rfl, e, hI.g, steps_other (by decide) (Rel.refl _ _)⟩)
    rcases ix with _ | ix
    · cases hi
      have e : A.eval (.tmp 34) = .int .i64 (out.d / 128) := hI.get hd 5 34 rfl (by kernel_rfl)
      exact at_op rfl rfl (assign_op rfl ⟨_, rfl, e, hI.g, steps_other (by decide) (Rel.refl _ _)⟩)
    omega
  case done =>
    intro A W hI
    have e4 : A.tmps.getD 4 undef = .pointer (some ⟨b4, 0, none⟩) := hI.old 4 (by kernel_rfl)
    have e5 : A.tmps.getD 5 undef = .int .i64 s.x := hI.slot 7 5 rfl rfl
    have e6 : A.tmps.getD 6 undef = .int .i64 (out.d / 128) := hI.slot 8 6 rfl rfl
    have hI6 := hI.eff 6 _ rfl rfl rfl
    have hA := frame_lit A 35 hI.size
    have hg := hI.g
    have hde : A.defers = [] := hI.defers
    rw [hde, show List.range 35 = [0, 1, 2, 3, 4, 5, 6, 7, 8, 9, 10, 11, 12, 13, 14, 15, 16, 17, 18, 19, 20, 21, 22, 23, 24, 25, 26, 27, 28, 29, 30, 31, 32, 33, 34] from rfl] at hA
    simp only [List.map_cons, List.map_nil, e4, e5, e6] at hA
    rw [hA]
    clear hA e4 e5 e6 hI hde
    obtain ⟨vv, hv⟩ := hI6
    have hrow : Row W b4 #[.int .i64 out.d, .bool out.b, .bool out.l, .int .i64 out.n, .int .i64 out.x, .bool out.t] 28 := Row.of hv
    go_wp2
    refine ret_row_tmp2 rfl rfl hrow und_sr rfl info_sr rfl rfl rfl ?_
    exact ⟨rfl, hg.bel⟩
theorem serialSends_impl (s : Sr) (upto : Int) (w : World) :
    Calls Tryz.prog 161 #[s.val, .int .i64 upto] w fun e w' => e = .returned (.tuple #[(s.send upto).1.val, .int .i64 (s.send upto).2.1, .int .i64 (s.send upto).2.2]) ∧ Below w.heap.size w w' := by
  show SendsSays s upto (s.send upto) w
  cases hok : s.ok
  · rw [show s.send upto = (Sr.nul, -1, 0) by simp [Sr.send, hok]]
    exact sends_wrong s upto w hok
  obtain ⟨hd, hx⟩ := Sr.ok_true hok
  by_cases h0 : s.x = 0
  · rw [show s.send upto = (s, -1, 0) by simp [Sr.send, hok, h0]]
    obtain ⟨d, b, l, n, x, t⟩ := s
    simp only at h0
    subst h0
    exact sends_none d n b l t upto w hok
  by_cases h1 : upto < s.x
  · rw [show s.send upto = (s, -1, 0) by simp [Sr.send, hok]; omega]
    exact sends_later s upto w hok (by simpa using h0) h1
  · rw [show s.send upto = (⟨s.d, s.b, s.l, s.n, 0, true⟩, s.x, s.d / 128) by
      have : 0 < s.x ∧ s.x ≤ upto := by omega
      simp [Sr.send, hok, this]]
    exact sends_now s upto w hok hd (by simpa using h0) h1
end Go.Proofs.YtghmkacamabndaaGreatDoor.Srl
namespace Go.Proofs.YtghmkacamabndaaGreatDoor.Srl
open Go.ChangeShapes Go.WideShapes Go.RowKit Base Num Slc Rw Reg Tmr

def BeatSays (s : Sr) (bit : Int) (r : Sr × Int × Bool) (w : World) : Prop :=
    Calls Tryz.prog 163 #[s.val, .int .i64 bit] w fun e w' => e = .returned (.tuple #[r.1.val, .int .i64 r.2.1, .bool r.2.2]) ∧ Below w.heap.size w w'
set_option maxHeartbeats 2000000 in
theorem beat_wrong (s : Sr) (bit : Int) (w : World) (hok : s.ok = false) : BeatSays s bit (Sr.nul, 0, false) w := by
  unfold BeatSays
  rw [Sr.eta s]
  go_enter Tryz.func163, Tryz.ntmps163
  go_wp2_with (first
    | (go_at_call 78; refine (serialOk_impl s _).mono ?_; rintro e w1 ⟨rfl, hb⟩; rw [hok]; obtain ⟨r1, r2, hB⟩ := box2 hb; clear hb; have c1 := r1.cell)
    | (go_at_call 141; refine (portOf_impl s _).mono ?_; rintro e w3 ⟨rfl, hb3⟩; replace r1 := r1.below hb3; replace r2 := r2.below hb3; replace hB := below_more hB hb3; clear hb3; rw [Sr.eta_port])
    | (refine st_port rfl rfl rfl rfl (Row.new _ _ _) rfl ?_; intro w2 r4 ho2 hs2; replace r1 := (r1.alloc _).onto ho2 (Nat.ne_of_lt r1.lt); replace r2 := (r2.alloc _).onto ho2 (Nat.ne_of_lt r2.lt); replace hB := below_onto (hB.alloc hB.size _) ho2 hB.size; have c4 := r4.cell; have c1 := r1.cell; clear ho2 hs2)
    | (refine st_sr rfl rfl rfl rfl r2 rfl ?_; intro w2 r3 ho2 hs2))
  refine ret_row_tmp2 rfl rfl r3 und_sr rfl info_sr rfl rfl rfl ?_
  exact ⟨rfl, below_onto hB ho2 (by omega)⟩
set_option maxHeartbeats 2000000 in
theorem beat_bit (s : Sr) (bit : Int) (w : World) (hok : s.ok = true) (hbit : inn bit 0 1 = false) : BeatSays s bit (Sr.nul, 0, false) w := by
  unfold BeatSays
  rw [Sr.eta s]
  go_enter Tryz.func163, Tryz.ntmps163
  go_wp2_with (first
    | (go_at_call 78; refine (serialOk_impl s _).mono ?_; rintro e w1 ⟨rfl, hb⟩; rw [hok]; obtain ⟨r1, r2, hB⟩ := box2 hb; clear hb; have c1 := r1.cell)
    | (go_at_call 134; refine (bitOk_impl _ _).mono ?_; rintro e w1 ⟨rfl, rfl⟩; rw [hbit])
    | (go_at_call 141; refine (portOf_impl s _).mono ?_; rintro e w3 ⟨rfl, hb3⟩; replace r1 := r1.below hb3; replace r2 := r2.below hb3; replace hB := below_more hB hb3; clear hb3; rw [Sr.eta_port])
    | (refine st_port rfl rfl rfl rfl (Row.new _ _ _) rfl ?_; intro w2 r4 ho2 hs2; replace r1 := (r1.alloc _).onto ho2 (Nat.ne_of_lt r1.lt); replace r2 := (r2.alloc _).onto ho2 (Nat.ne_of_lt r2.lt); replace hB := below_onto (hB.alloc hB.size _) ho2 hB.size; have c4 := r4.cell; have c1 := r1.cell; clear ho2 hs2)
    | (refine st_sr rfl rfl rfl rfl r2 rfl ?_; intro w2 r3 ho2 hs2))
  refine ret_row_tmp2 rfl rfl r3 und_sr rfl info_sr rfl rfl rfl ?_
  exact ⟨rfl, below_onto hB ho2 (by omega)⟩
set_option maxHeartbeats 2000000 in
theorem beat_idle (d n x : Int) (l t : Bool) (bit : Int) (w : World) (hok : (Sr.mk d false l n x t).ok = true) (hbit : inn bit 0 1 = true) : BeatSays ⟨d, false, l, n, x, t⟩ bit (⟨d, false, l, n, x, t⟩, 1, false) w := by
  unfold BeatSays
  rw [Sr.eta]
  go_enter Tryz.func163, Tryz.ntmps163
  go_wp2_with (first
    | (go_at_call 78; refine (serialOk_impl ⟨d, false, l, n, x, t⟩ _).mono ?_; rintro e w1 ⟨rfl, hb⟩; rw [hok]; obtain ⟨r1, r2, hB⟩ := box2 hb; clear hb; have c1 := r1.cell)
    | (go_at_call 134; refine (bitOk_impl _ _).mono ?_; rintro e w1 ⟨rfl, rfl⟩; rw [hbit])
    | (go_at_call 141; refine (portOf_impl ⟨d, false, l, n, x, t⟩ _).mono ?_; rintro e w3 ⟨rfl, hb3⟩; replace r1 := r1.below hb3; replace r2 := r2.below hb3; replace hB := below_more hB hb3; clear hb3; rw [Sr.eta_port])
    | (refine st_port rfl rfl rfl rfl (Row.new _ _ _) rfl ?_; intro w2 r4 ho2 hs2; replace r1 := (r1.alloc _).onto ho2 (Nat.ne_of_lt r1.lt); replace r2 := (r2.alloc _).onto ho2 (Nat.ne_of_lt r2.lt); replace hB := below_onto (hB.alloc hB.size _) ho2 hB.size; have c4 := r4.cell; have c1 := r1.cell; clear ho2 hs2)
    | (refine st_sr rfl rfl rfl rfl r2 rfl ?_; intro w2 r3 ho2 hs2))
  refine ret_row_tmp2 rfl rfl r3 und_sr rfl info_sr rfl rfl rfl ?_
  exact ⟨rfl, below_onto hB ho2 (by omega)⟩
set_option maxHeartbeats 2000000 in
theorem beat_leads (d n x : Int) (t : Bool) (bit : Int) (w : World) (hok : (Sr.mk d true true n x t).ok = true) (hbit : inn bit 0 1 = true) : BeatSays ⟨d, true, true, n, x, t⟩ bit (⟨d, true, true, n, x, t⟩, 1, false) w := by
  unfold BeatSays
  rw [Sr.eta]
  go_enter Tryz.func163, Tryz.ntmps163
  go_wp2_with (first
    | (go_at_call 78; refine (serialOk_impl ⟨d, true, true, n, x, t⟩ _).mono ?_; rintro e w1 ⟨rfl, hb⟩; rw [hok]; obtain ⟨r1, r2, hB⟩ := box2 hb; clear hb; have c1 := r1.cell)
    | (go_at_call 134; refine (bitOk_impl _ _).mono ?_; rintro e w1 ⟨rfl, rfl⟩; rw [hbit])
    | (go_at_call 141; refine (portOf_impl ⟨d, true, true, n, x, t⟩ _).mono ?_; rintro e w3 ⟨rfl, hb3⟩; replace r1 := r1.below hb3; replace r2 := r2.below hb3; replace hB := below_more hB hb3; clear hb3; rw [Sr.eta_port])
    | (refine st_port rfl rfl rfl rfl (Row.new _ _ _) rfl ?_; intro w2 r4 ho2 hs2; replace r1 := (r1.alloc _).onto ho2 (Nat.ne_of_lt r1.lt); replace r2 := (r2.alloc _).onto ho2 (Nat.ne_of_lt r2.lt); replace hB := below_onto (hB.alloc hB.size _) ho2 hB.size; have c4 := r4.cell; have c1 := r1.cell; clear ho2 hs2)
    | (refine st_sr rfl rfl rfl rfl r2 rfl ?_; intro w2 r3 ho2 hs2))
  refine ret_row_tmp2 rfl rfl r3 und_sr rfl info_sr rfl rfl rfl ?_
  exact ⟨rfl, below_onto hB ho2 (by omega)⟩
set_option maxHeartbeats 2000000 in
theorem beat_true (d n x : Int) (t : Bool) (bit : Int) (w : World) (hok : (Sr.mk d true false n x t).ok = true) (hbit : inn bit 0 1 = true) (hd : 0 ≤ d ∧ d ≤ 255) (hb' : 0 ≤ bit ∧ bit ≤ 1) (hn : 1 ≤ n ∧ n ≤ 8) (h0 : decide (n - 1 = 0) = true) : BeatSays ⟨d, true, false, n, x, t⟩ bit (⟨2 * d % 256 + bit, false, false, n - 1, x, t⟩, d / 128, true) w := by
  unfold BeatSays
  rw [Sr.eta]
  generalize ho : (⟨2 * d % 256 + bit, false, false, n - 1, x, t⟩ : Sr) = out
  have hon : decide (out.n = 0) = true := by subst ho; exact h0
  generalize hb4 : w.heap.size + 1 = b4
  have h4 : w.heap.size ≤ b4 := by omega
  go_enter Tryz.func163, Tryz.ntmps163
  go_wp2_with (first
    | (go_at_call 78; refine (serialOk_impl ⟨d, true, false, n, x, t⟩ _).mono ?_; rintro e w1 ⟨rfl, hb⟩; rw [hok]; obtain ⟨r1, r2, hB⟩ := box2 hb; clear hb; have c1 := r1.cell)
    | (go_at_call 134; refine (bitOk_impl _ _).mono ?_; rintro e w1 ⟨rfl, rfl⟩; rw [hbit])
    | (go_at_call 141; refine (portOf_impl ⟨d, true, false, n, x, t⟩ _).mono ?_; rintro e w3 ⟨rfl, hb3⟩; replace r1 := r1.below hb3; replace r2 := r2.below hb3; replace hB := below_more hB hb3; clear hb3; rw [Sr.eta_port])
    | (refine st_port rfl rfl rfl rfl (Row.new _ _ _) rfl ?_; intro w2 r4 ho2 hs2; have n5 : w.heap.size + 1 ≠ _ := Nat.ne_of_lt r2.lt; have hB0 := hB.size; replace r2 := (r2.alloc _).onto ho2 (Nat.ne_of_lt r2.lt); replace hB := below_onto (hB.alloc hB.size _) ho2 hB.size; have c4 := r4.cell; clear ho2 hs2)
    | (go_at_call 230; refine (highBit_impl _ _ _ hd).mono ?_; rintro e w5 ⟨rfl, hb5⟩; replace r2 := r2.below hb5; replace r4 := r4.below hb5; have c4 := r4.cell; replace hB := below_more hB hb5; clear hb5)
    | (go_at_call 231; refine (shifted_impl _ _ _ _ hd hb' hn).mono ?_; rintro e w5 ⟨rfl, hb5⟩; replace r2 := r2.below hb5; replace r4 := r4.below hb5; replace hB := below_more hB hb5; clear hb5)
    | (refine st_two rfl rfl rfl rfl r4 info_shift rfl ?_; intro w6 r6 ho6 hs6; simp only [List.setIfInBounds_toArray, List.set_cons_succ, List.set_cons_zero, Nat.zero_add] at r6; replace r2 := r2.onto ho6 n5; replace hB := below_onto hB ho6 hB0; have c6 := r6.cell; clear ho6 hs6)
    | (go_at_call 232; refine (through_impl _ _ _).mono ?_; rintro e w8 ⟨rfl, hb8⟩; rw [h0]; replace r2 := r2.below hb8; replace r6 := r6.below hb8; replace hB := below_more hB hb8; clear hb8)
    | (refine st_flag rfl rfl rfl rfl r6 info_bool rfl ?_; intro w7 r7 ho7 hs7; simp only [List.setIfInBounds_toArray, List.set_cons_succ, List.set_cons_zero] at r7; replace r2 := r2.onto ho7 n5; replace hB := below_onto hB ho7 hB0; clear ho7 hs7))
  have r8 : Row w7 w3.heap.size #[.int .i64 out.d, .int .i64 out.n, .bool out.b, .bool out.l, .int .i64 out.x, .bool out.t] 153 := by subst ho; exact r7
  have h74 : w3.heap.size ≠ b4 := by omega
  have hG : Gp w b4 w3.heap.size out w7 := ⟨r8, ⟨_, rfl, hb4 ▸ r2⟩, hB⟩
  clear r1 r2 r4 r6 r7 r8 hB n5 hB0 hb4 h0 hok ho hbit hb' hn
  generalize w3.heap.size = b7 at *
  refine region_by_each (by kernel_rfl) (by kernel_rfl) (fun W => Gp w b4 b7 out W)
    (kinds [KIs (.agg #[.int .i64 out.d, .int .i64 out.n, .bool out.b, .bool out.l, .int .i64 out.x, .bool out.t]), KIs (.agg #[.int .i64 out.d, .bool out.b, .bool out.l, .int .i64 out.n, .int .i64 out.x, .bool out.t]), KIs (.int .i64 (d / 128)), KIs (.pointer (some ⟨b7, 0, none⟩)), KIs (.agg #[.int .i64 out.d, .int .i64 out.n]), KIs (.bool true), KRow b4 #[.int .i64 out.d, .bool out.b, .bool out.l, .int .i64 out.n, .int .i64 out.x, .bool out.t] 28, KIs (.int .i64 (d / 128)), KIs (.bool true)])
    (steps 6 (fun k => k = b4) (fun _ => False)) (by kernel_rfl) (kinds_steps ?hY ?hX) hG.drew ?step ?done
  case hY =>
    intro K hK
    simp only [List.mem_cons, List.not_mem_nil, or_false] at hK
    rcases hK with rfl | rfl | rfl | rfl | rfl | rfl | rfl | rfl | rfl
    all_goals first | exact bears_is _ _ | exact bears_any _ | exact bears_int _ | exact bears_row _ _ _ _ (by simp)
  case hX =>
    intro ix K hK hne
    rcases ix with _ | ix
    · cases hK; first | exact bears_is _ _ | exact bears_any _ | exact bears_int _
    rcases ix with _ | ix
    · cases hK; first | exact bears_is _ _ | exact bears_any _ | exact bears_int _
    rcases ix with _ | ix
    · cases hK; first | exact bears_is _ _ | exact bears_any _ | exact bears_int _
    rcases ix with _ | ix
    · cases hK; first | exact bears_is _ _ | exact bears_any _ | exact bears_int _
    rcases ix with _ | ix
    · cases hK; first | exact bears_is _ _ | exact bears_any _ | exact bears_int _
    rcases ix with _ | ix
    · cases hK; first | exact bears_is _ _ | exact bears_any _ | exact bears_int _
    rcases ix with _ | ix
    · exact absurd rfl hne
    rcases ix with _ | ix
    · cases hK; first | exact bears_is _ _ | exact bears_any _ | exact bears_int _
    rcases ix with _ | ix
    · cases hK; first | exact bears_is _ _ | exact bears_any _ | exact bears_int _
    simp at hK
  case step =>
    intro L ix o A W hi hI hL hd
    have hin : ix < 9 := by
      by_cases hl : ix < 9
      · exact hl
      · simp [hl] at hi
    have hsz : A.tmps.size = 47 := hI.size
    rcases ix with _ | ix
    · cases hi
      have e : A.eval (.tmp 7) = .pointer (some ⟨b7, 0, none⟩) := hI.old 7 (by kernel_rfl)
      exact at_op rfl rfl (wp_load_row _ _ rfl _ e _ _ _ _ hI.g.r7.row und_port rfl info_port ⟨_, rfl, rfl, hI.g, steps_other (by decide) (Rel.refl _ _)⟩)
    rcases ix with _ | ix
    · cases hi
      have e0 : A.eval (.tmp 41) = .agg #[.int .i64 out.d, .int .i64 out.n, .bool out.b, .bool out.l, .int .i64 out.x, .bool out.t] := hI.get hd 0 41 rfl (by kernel_rfl)
      refine at_op rfl rfl (call_op rfl Tryz.func229 (by kernel_rfl) (by kernel_rfl) ?_)
      simp only [List.map_cons, List.map_nil, e0]
      refine (serial_impl out W).mono ?_
      rintro e w5 ⟨rfl, hb5⟩
      exact ⟨_, rfl, _, rfl, rfl, hI.g.below hb5, steps_other (by decide) (Rel.below hb5)⟩
    rcases ix with _ | ix
    · cases hi
      have e : A.eval (.tmp 8) = .int .i64 (d / 128) := hI.old 8 (by kernel_rfl)
      exact at_op rfl rfl (move_op rfl ⟨_, rfl, e, hI.g, steps_other (by decide) (Rel.refl _ _)⟩)
    rcases ix with _ | ix
    · cases hi
      have e : A.eval (.tmp 7) = .pointer (some ⟨b7, 0, none⟩) := hI.old 7 (by kernel_rfl)
      refine at_op rfl rfl (val_op (v := .pointer (some ⟨b7, 0, none⟩)) ?_ ⟨_, rfl, rfl, hI.g, steps_other (by decide) (Rel.refl _ _)⟩)
      unfold execOp
      simp only [List.getElem_toArray, List.getElem_cons_zero, List.getElem_cons_succ, e]
      simp [go_sem]
    rcases ix with _ | ix
    · cases hi
      have e : A.eval (.tmp 44) = .pointer (some ⟨b7, 0, none⟩) := hI.get hd 3 44 rfl (by kernel_rfl)
      exact at_op rfl rfl (lw_in (cs' := #[.int .i64 out.d, .int .i64 out.n]) rfl e hI.g.r7 und_shift rfl rfl info_shift ⟨_, rfl, rfl, hI.g, steps_other (by decide) (Rel.refl _ _)⟩)
    rcases ix with _ | ix
    · cases hi
      have e0 : A.eval (.tmp 45) = .agg #[.int .i64 out.d, .int .i64 out.n] := hI.get hd 4 45 rfl (by kernel_rfl)
      refine at_op rfl rfl (call_op rfl Tryz.func232 (by kernel_rfl) (by kernel_rfl) ?_)
      simp only [List.map_cons, List.map_nil, e0]
      refine (hon ▸ through_impl out.d out.n W).mono ?_
      rintro e w5 ⟨rfl, hb5⟩
      exact ⟨_, rfl, _, rfl, rfl, hI.g.below hb5, steps_other (by decide) (Rel.below hb5)⟩
    rcases ix with _ | ix
    · cases hi
      have e1 : A.eval (.tmp 42) = .agg #[.int .i64 out.d, .bool out.b, .bool out.l, .int .i64 out.n, .int .i64 out.x, .bool out.t] := hI.get hd 1 42 rfl (by kernel_rfl)
      have e2 : A.eval (.tmp 4) = .pointer (some ⟨b4, 0, none⟩) := hI.old 4 (by kernel_rfl)
      obtain ⟨oc, hrs, hr⟩ := hI.g.r4
      exact at_op rfl rfl (wp_store_row _ _ _ rfl _ _ e2 e1 _ _ hr.row info_sr hrs (by simp [Value.oneCell']) ⟨_, rfl, setRow_heap W _ _ _ _ _ hr.row, hI.g.store h74 h4 _ rfl, steps_same (Rel.onto (row_set _) rfl)⟩)
    rcases ix with _ | ix
    · cases hi
      have e : A.eval (.tmp 43) = .int .i64 (d / 128) := hI.get hd 2 43 rfl (by kernel_rfl)
      exact at_op rfl rfl (assign_op rfl ⟨_, rfl, e, hI.g, steps_other (by decide) (Rel.refl _ _)⟩)
    rcases ix with _ | ix
    · cases hi
      have e : A.eval (.tmp 46) = .bool true := hI.get hd 5 46 rfl (by kernel_rfl)
      exact at_op rfl rfl (assign_op rfl ⟨_, rfl, e, hI.g, steps_other (by decide) (Rel.refl _ _)⟩)
    omega
  case done =>
    intro A W hI
    have e4 : A.tmps.getD 4 undef = .pointer (some ⟨b4, 0, none⟩) := hI.old 4 (by kernel_rfl)
    have e5 : A.tmps.getD 5 undef = .int .i64 (d / 128) := hI.slot 7 5 rfl rfl
    have e6 : A.tmps.getD 6 undef = .bool true := hI.slot 8 6 rfl rfl
    have hI6 := hI.eff 6 _ rfl rfl rfl
    have hA := frame_lit A 47 hI.size
    have hg := hI.g
    have hde : A.defers = [] := hI.defers
    rw [hde, show List.range 47 = [0, 1, 2, 3, 4, 5, 6, 7, 8, 9, 10, 11, 12, 13, 14, 15, 16, 17, 18, 19, 20, 21, 22, 23, 24, 25, 26, 27, 28, 29, 30, 31, 32, 33, 34, 35, 36, 37, 38, 39, 40, 41, 42, 43, 44, 45, 46] from rfl] at hA
    simp only [List.map_cons, List.map_nil, e4, e5, e6] at hA
    rw [hA]
    clear hA e4 e5 e6 hI hde
    obtain ⟨vv, hv⟩ := hI6
    have hrow : Row W b4 #[.int .i64 out.d, .bool out.b, .bool out.l, .int .i64 out.n, .int .i64 out.x, .bool out.t] 28 := Row.of hv
    go_wp2
    refine ret_row_tmp2 rfl rfl hrow und_sr rfl info_sr rfl rfl rfl ?_
    exact ⟨rfl, hg.bel⟩
set_option maxHeartbeats 2000000 in
theorem beat_false (d n x : Int) (t : Bool) (bit : Int) (w : World) (hok : (Sr.mk d true false n x t).ok = true) (hbit : inn bit 0 1 = true) (hd : 0 ≤ d ∧ d ≤ 255) (hb' : 0 ≤ bit ∧ bit ≤ 1) (hn : 1 ≤ n ∧ n ≤ 8) (h0 : decide (n - 1 = 0) = false) : BeatSays ⟨d, true, false, n, x, t⟩ bit (⟨2 * d % 256 + bit, true, false, n - 1, x, t⟩, d / 128, false) w := by
  unfold BeatSays
  rw [Sr.eta]
  generalize ho : (⟨2 * d % 256 + bit, true, false, n - 1, x, t⟩ : Sr) = out
  have hon : decide (out.n = 0) = false := by subst ho; exact h0
  generalize hb4 : w.heap.size + 1 = b4
  have h4 : w.heap.size ≤ b4 := by omega
  go_enter Tryz.func163, Tryz.ntmps163
  go_wp2_with (first
    | (go_at_call 78; refine (serialOk_impl ⟨d, true, false, n, x, t⟩ _).mono ?_; rintro e w1 ⟨rfl, hb⟩; rw [hok]; obtain ⟨r1, r2, hB⟩ := box2 hb; clear hb; have c1 := r1.cell)
    | (go_at_call 134; refine (bitOk_impl _ _).mono ?_; rintro e w1 ⟨rfl, rfl⟩; rw [hbit])
    | (go_at_call 141; refine (portOf_impl ⟨d, true, false, n, x, t⟩ _).mono ?_; rintro e w3 ⟨rfl, hb3⟩; replace r1 := r1.below hb3; replace r2 := r2.below hb3; replace hB := below_more hB hb3; clear hb3; rw [Sr.eta_port])
    | (refine st_port rfl rfl rfl rfl (Row.new _ _ _) rfl ?_; intro w2 r4 ho2 hs2; have n5 : w.heap.size + 1 ≠ _ := Nat.ne_of_lt r2.lt; have hB0 := hB.size; replace r2 := (r2.alloc _).onto ho2 (Nat.ne_of_lt r2.lt); replace hB := below_onto (hB.alloc hB.size _) ho2 hB.size; have c4 := r4.cell; clear ho2 hs2)
    | (go_at_call 230; refine (highBit_impl _ _ _ hd).mono ?_; rintro e w5 ⟨rfl, hb5⟩; replace r2 := r2.below hb5; replace r4 := r4.below hb5; have c4 := r4.cell; replace hB := below_more hB hb5; clear hb5)
    | (go_at_call 231; refine (shifted_impl _ _ _ _ hd hb' hn).mono ?_; rintro e w5 ⟨rfl, hb5⟩; replace r2 := r2.below hb5; replace r4 := r4.below hb5; replace hB := below_more hB hb5; clear hb5)
    | (refine st_two rfl rfl rfl rfl r4 info_shift rfl ?_; intro w6 r6 ho6 hs6; simp only [List.setIfInBounds_toArray, List.set_cons_succ, List.set_cons_zero, Nat.zero_add] at r6; replace r2 := r2.onto ho6 n5; replace hB := below_onto hB ho6 hB0; have c6 := r6.cell; clear ho6 hs6)
    | (go_at_call 232; refine (through_impl _ _ _).mono ?_; rintro e w8 ⟨rfl, hb8⟩; rw [h0]; replace r2 := r2.below hb8; replace r6 := r6.below hb8; replace hB := below_more hB hb8; clear hb8)
    | (refine st_flag rfl rfl rfl rfl r6 info_bool rfl ?_; intro w7 r7 ho7 hs7; simp only [List.setIfInBounds_toArray, List.set_cons_succ, List.set_cons_zero] at r7; replace r2 := r2.onto ho7 n5; replace hB := below_onto hB ho7 hB0; clear ho7 hs7))
  have r8 : Row w7 w3.heap.size #[.int .i64 out.d, .int .i64 out.n, .bool out.b, .bool out.l, .int .i64 out.x, .bool out.t] 153 := by subst ho; exact r7
  have h74 : w3.heap.size ≠ b4 := by omega
  have hG : Gp w b4 w3.heap.size out w7 := ⟨r8, ⟨_, rfl, hb4 ▸ r2⟩, hB⟩
  clear r1 r2 r4 r6 r7 r8 hB n5 hB0 hb4 h0 hok ho hbit hb' hn
  generalize w3.heap.size = b7 at *
  refine region_by_each (by kernel_rfl) (by kernel_rfl) (fun W => Gp w b4 b7 out W)
    (kinds [KIs (.agg #[.int .i64 out.d, .int .i64 out.n, .bool out.b, .bool out.l, .int .i64 out.x, .bool out.t]), KIs (.agg #[.int .i64 out.d, .bool out.b, .bool out.l, .int .i64 out.n, .int .i64 out.x, .bool out.t]), KIs (.int .i64 (d / 128)), KIs (.pointer (some ⟨b7, 0, none⟩)), KIs (.agg #[.int .i64 out.d, .int .i64 out.n]), KIs (.bool false), KRow b4 #[.int .i64 out.d, .bool out.b, .bool out.l, .int .i64 out.n, .int .i64 out.x, .bool out.t] 28, KIs (.int .i64 (d / 128)), KIs (.bool false)])
    (steps 6 (fun k => k = b4) (fun _ => False)) (by kernel_rfl) (kinds_steps ?hY ?hX) hG.drew ?step ?done
  case hY =>
    intro K hK
    simp only [List.mem_cons, List.not_mem_nil, or_false] at hK
    rcases hK with rfl | rfl | rfl | rfl | rfl | rfl | rfl | rfl | rfl
    all_goals first | exact bears_is _ _ | exact bears_any _ | exact bears_int _ | exact bears_row _ _ _ _ (by simp)
  case hX =>
    intro ix K hK hne
    rcases ix with _ | ix
    · cases hK; first | exact bears_is _ _ | exact bears_any _ | exact bears_int _
    rcases ix with _ | ix
    · cases hK; first | exact bears_is _ _ | exact bears_any _ | exact bears_int _
    rcases ix with _ | ix
    · cases hK; first | exact bears_is _ _ | exact bears_any _ | exact bears_int _
    rcases ix with _ | ix
    · cases hK; first | exact bears_is _ _ | exact bears_any _ | exact bears_int _
    rcases ix with _ | ix
    · cases hK; first | exact bears_is _ _ | exact bears_any _ | exact bears_int _
    rcases ix with _ | ix
    · cases hK; first | exact bears_is _ _ | exact bears_any _ | exact bears_int _
    rcases ix with _ | ix
    · exact absurd rfl hne
    rcases ix with _ | ix
    · cases hK; first | exact bears_is _ _ | exact bears_any _ | exact bears_int _
    rcases ix with _ | ix
    · cases hK; first | exact bears_is _ _ | exact bears_any _ | exact bears_int _
    simp at hK
  case step =>
    intro L ix o A W hi hI hL hd
    have hin : ix < 9 := by
      by_cases hl : ix < 9
      · exact hl
      · simp [hl] at hi
    have hsz : A.tmps.size = 47 := hI.size
    rcases ix with _ | ix
    · cases hi
      have e : A.eval (.tmp 7) = .pointer (some ⟨b7, 0, none⟩) := hI.old 7 (by kernel_rfl)
      exact at_op rfl rfl (wp_load_row _ _ rfl _ e _ _ _ _ hI.g.r7.row und_port rfl info_port ⟨_, rfl, rfl, hI.g, steps_other (by decide) (Rel.refl _ _)⟩)
    rcases ix with _ | ix
    · cases hi
      have e0 : A.eval (.tmp 41) = .agg #[.int .i64 out.d, .int .i64 out.n, .bool out.b, .bool out.l, .int .i64 out.x, .bool out.t] := hI.get hd 0 41 rfl (by kernel_rfl)
      refine at_op rfl rfl (call_op rfl Tryz.func229 (by kernel_rfl) (by kernel_rfl) ?_)
      simp only [List.map_cons, List.map_nil, e0]
      refine (serial_impl out W).mono ?_
      rintro e w5 ⟨rfl, hb5⟩
      exact ⟨_, rfl, _, rfl, rfl, hI.g.below hb5, steps_other (by decide) (Rel.below hb5)⟩
    rcases ix with _ | ix
    · cases hi
      have e : A.eval (.tmp 8) = .int .i64 (d / 128) := hI.old 8 (by kernel_rfl)
      exact at_op rfl rfl (move_op rfl ⟨_, rfl, e, hI.g, steps_other (by decide) (Rel.refl _ _)⟩)
    rcases ix with _ | ix
    · cases hi
      have e : A.eval (.tmp 7) = .pointer (some ⟨b7, 0, none⟩) := hI.old 7 (by kernel_rfl)
      refine at_op rfl rfl (val_op (v := .pointer (some ⟨b7, 0, none⟩)) ?_ ⟨_, rfl, rfl, hI.g, steps_other (by decide) (Rel.refl _ _)⟩)
      unfold execOp
      simp only [List.getElem_toArray, List.getElem_cons_zero, List.getElem_cons_succ, e]
      simp [go_sem]
    rcases ix with _ | ix
    · cases hi
      have e : A.eval (.tmp 44) = .pointer (some ⟨b7, 0, none⟩) := hI.get hd 3 44 rfl (by kernel_rfl)
      exact at_op rfl rfl (lw_in (cs' := #[.int .i64 out.d, .int .i64 out.n]) rfl e hI.g.r7 und_shift rfl rfl info_shift ⟨_, rfl, rfl, hI.g, steps_other (by decide) (Rel.refl _ _)⟩)
    rcases ix with _ | ix
    · cases hi
      have e0 : A.eval (.tmp 45) = .agg #[.int .i64 out.d, .int .i64 out.n] := hI.get hd 4 45 rfl (by kernel_rfl)
      refine at_op rfl rfl (call_op rfl Tryz.func232 (by kernel_rfl) (by kernel_rfl) ?_)
      simp only [List.map_cons, List.map_nil, e0]
      refine (hon ▸ through_impl out.d out.n W).mono ?_
      rintro e w5 ⟨rfl, hb5⟩
      exact ⟨_, rfl, _, rfl, rfl, hI.g.below hb5, steps_other (by decide) (Rel.below hb5)⟩
    rcases ix with _ | ix
    · cases hi
      have e1 : A.eval (.tmp 42) = .agg #[.int .i64 out.d, .bool out.b, .bool out.l, .int .i64 out.n, .int .i64 out.x, .bool out.t] := hI.get hd 1 42 rfl (by kernel_rfl)
      have e2 : A.eval (.tmp 4) = .pointer (some ⟨b4, 0, none⟩) := hI.old 4 (by kernel_rfl)
      obtain ⟨oc, hrs, hr⟩ := hI.g.r4
      exact at_op rfl rfl (wp_store_row _ _ _ rfl _ _ e2 e1 _ _ hr.row info_sr hrs (by simp [Value.oneCell']) ⟨_, rfl, setRow_heap W _ _ _ _ _ hr.row, hI.g.store h74 h4 _ rfl, steps_same (Rel.onto (row_set _) rfl)⟩)
    rcases ix with _ | ix
    · cases hi
      have e : A.eval (.tmp 43) = .int .i64 (d / 128) := hI.get hd 2 43 rfl (by kernel_rfl)
      exact at_op rfl rfl (assign_op rfl ⟨_, rfl, e, hI.g, steps_other (by decide) (Rel.refl _ _)⟩)
    rcases ix with _ | ix
    · cases hi
      have e : A.eval (.tmp 46) = .bool false := hI.get hd 5 46 rfl (by kernel_rfl)
      exact at_op rfl rfl (assign_op rfl ⟨_, rfl, e, hI.g, steps_other (by decide) (Rel.refl _ _)⟩)
    omega
  case done =>
    intro A W hI
    have e4 : A.tmps.getD 4 undef = .pointer (some ⟨b4, 0, none⟩) := hI.old 4 (by kernel_rfl)
    have e5 : A.tmps.getD 5 undef = .int .i64 (d / 128) := hI.slot 7 5 rfl rfl
    have e6 : A.tmps.getD 6 undef = .bool false := hI.slot 8 6 rfl rfl
    have hI6 := hI.eff 6 _ rfl rfl rfl
    have hA := frame_lit A 47 hI.size
    have hg := hI.g
    have hde : A.defers = [] := hI.defers
    rw [hde, show List.range 47 = [0, 1, 2, 3, 4, 5, 6, 7, 8, 9, 10, 11, 12, 13, 14, 15, 16, 17, 18, 19, 20, 21, 22, 23, 24, 25, 26, 27, 28, 29, 30, 31, 32, 33, 34, 35, 36, 37, 38, 39, 40, 41, 42, 43, 44, 45, 46] from rfl] at hA
    simp only [List.map_cons, List.map_nil, e4, e5, e6] at hA
    rw [hA]
    clear hA e4 e5 e6 hI hde
    obtain ⟨vv, hv⟩ := hI6
    have hrow : Row W b4 #[.int .i64 out.d, .bool out.b, .bool out.l, .int .i64 out.n, .int .i64 out.x, .bool out.t] 28 := Row.of hv
    go_wp2
    refine ret_row_tmp2 rfl rfl hrow und_sr rfl info_sr rfl rfl rfl ?_
    exact ⟨rfl, hg.bel⟩
theorem serialBeat_impl (s : Sr) (bit : Int) (w : World) :
    Calls Tryz.prog 163 #[s.val, .int .i64 bit] w fun e w' => e = .returned (.tuple #[(s.beat bit).1.val, .int .i64 (s.beat bit).2.1, .bool (s.beat bit).2.2]) ∧ Below w.heap.size w w' := by
  show BeatSays s bit (s.beat bit) w
  cases hok : s.ok
  · rw [show s.beat bit = (Sr.nul, 0, false) by simp [Sr.beat, hok]]
    exact beat_wrong s bit w hok
  cases hbit : inn bit 0 1
  · rw [show s.beat bit = (Sr.nul, 0, false) by simp [Sr.beat, hbit]]
    exact beat_bit s bit w hok hbit
  obtain ⟨hd, hx⟩ := Sr.ok_true hok
  have hn := Sr.ok_busy hok
  obtain ⟨d, b, l, n, x, t⟩ := s
  simp only at hd hx hn
  cases b
  · rw [show (Sr.mk d false l n x t).beat bit = (⟨d, false, l, n, x, t⟩, 1, false) by simp [Sr.beat, hok, hbit]]
    exact beat_idle d n x l t bit w hok hbit
  cases l
  · have hn' := hn rfl
    by_cases h1 : n = 1
    · subst h1
      rw [show (Sr.mk d true false 1 x t).beat bit = (⟨2 * d % 256 + bit, false, false, 1 - 1, x, t⟩, d / 128, true) by simp [Sr.beat, hok, hbit]]
      exact beat_true d 1 x t bit w hok hbit hd (inn_true hbit) hn' (by simp)
    · rw [show (Sr.mk d true false n x t).beat bit = (⟨2 * d % 256 + bit, true, false, n - 1, x, t⟩, d / 128, false) by simp [Sr.beat, hok, hbit, h1]]
      exact beat_false d n x t bit w hok hbit hd (inn_true hbit) hn' (by simp; omega)
  · rw [show (Sr.mk d true true n x t).beat bit = (⟨d, true, true, n, x, t⟩, 1, false) by simp [Sr.beat, hok, hbit]]
    exact beat_leads d n x t bit w hok hbit
end Go.Proofs.YtghmkacamabndaaGreatDoor.Srl
namespace Go.Proofs.YtghmkacamabndaaGreatDoor.Mem
open Go.ChangeShapes Go.WideShapes Go.RowKit Base Num Slc Slf Rw Tmr Srl Rom Opl Reg

section
variable {w : World} {base g : Nat} {x y vo ve vi : Value} {s : St} {co fin : Int}
def St.flag (s : St) (b : Int) : St := { s with m := { s.m with fl := bits .or .i64 s.m.fl b } }
def St.tells (s : St) (m : M3) : St := { s with e := s.e ++ [m] }
theorem raise_impl (i b : Int) (hi : i = 0 ∨ i = 1 ∨ i = 2) (hb : bitOf i = b) (h : GRow w g x y vo ve vi s co fin) :
    Calls Tryz.prog 119 #[.pointer (some ⟨g, 0, none⟩), .int .i64 i] w fun e w' => e = .returned (.tuple #[]) ∧ GRow w' g x y vo ve vi (s.flag b) co fin ∧ Onto g w w' := by
  have HB : Hid (bitOf i = b) := hb
  have hG : GRow w g x y vo ve vi s co fin ∧ Onto g w w := ⟨h, Onto.refl _ _⟩
  clear hb
  go_enter Tryz.func119, Tryz.ntmps119
  go_wp2_with fail
  refine region_last (by kernel_rfl) (by kernel_rfl) 13 (by decide) (by kernel_rfl) (by kernel_rfl) (fun W => GRow W g x y vo ve vi s co fin ∧ Onto g w W) (fun W => GRow W g x y vo ve vi (s.flag b) co fin ∧ Onto g w W) [.pointer (some ⟨g, 0, none⟩), .pointer (some ⟨g, 0, none⟩), .pointer (some ⟨g, 0, none⟩), .pointer (some ⟨g, 0, none⟩), .pointer (some ⟨g, 11, none⟩), .int .i64 s.m.fl, .int .i64 i, .int .i64 b, .int .i64 (bits .or .i64 s.m.fl b), .pointer (some ⟨g, 0, none⟩), .pointer (some ⟨g, 0, none⟩), .pointer (some ⟨g, 0, none⟩), .pointer (some ⟨g, 11, none⟩), undef] ⟨hG.1.drewN 1, hG.2.drew⟩ ?step ?last ?done
  case step =>
    intro L ix o' A W hne hj hI hg hd
    have hin : ix < 14 := by
      by_cases hl : ix < 14
      · exact hl
      · simp [hl] at hj
    have hsz : A.tmps.size = 17 := hI.size
    rcases ix with _ | ix
    · cases hj
      have e0 : A.eval (.tmp 0) = .pointer (some ⟨g, 0, none⟩) := hI.old 0 (by kernel_rfl)
      exact at_op rfl rfl (move_op rfl ⟨_, rfl, e0, hg⟩)
    rcases ix with _ | ix
    · cases hj
      have e0 : A.eval (.tmp 4) = .pointer (some ⟨g, 0, none⟩) := hI.val hd 0 4 rfl rfl (by kernel_rfl)
      exact at_op rfl rfl (nil_op rfl e0 ⟨_, rfl, rfl, hg⟩)
    rcases ix with _ | ix
    · cases hj
      have e0 : A.eval (.tmp 5) = .pointer (some ⟨g, 0, none⟩) := hI.val hd 1 5 rfl rfl (by kernel_rfl)
      refine at_op rfl rfl (val_op (v := .pointer (some ⟨g, 0, none⟩)) ?_ ⟨_, rfl, rfl, hg⟩)
      unfold execOp
      simp only [List.getElem_toArray, List.getElem_cons_zero, List.getElem_cons_succ, e0]
      simp [go_sem]
    rcases ix with _ | ix
    · cases hj
      have e0 : A.eval (.tmp 6) = .pointer (some ⟨g, 0, none⟩) := hI.val hd 2 6 rfl rfl (by kernel_rfl)
      refine at_op rfl rfl (val_op (v := .pointer (some ⟨g, 0, none⟩)) ?_ ⟨_, rfl, rfl, hg⟩)
      unfold execOp
      simp only [List.getElem_toArray, List.getElem_cons_zero, List.getElem_cons_succ, e0]
      simp [go_sem]
    rcases ix with _ | ix
    · cases hj
      have e0 : A.eval (.tmp 7) = .pointer (some ⟨g, 0, none⟩) := hI.val hd 3 7 rfl rfl (by kernel_rfl)
      refine at_op rfl rfl (val_op (v := .pointer (some ⟨g, 11, none⟩)) ?_ ⟨_, rfl, rfl, hg⟩)
      unfold execOp
      simp only [List.getElem_toArray, List.getElem_cons_zero, List.getElem_cons_succ, e0]
      simp [go_sem]
    rcases ix with _ | ix
    · cases hj
      have e0 : A.eval (.tmp 8) = .pointer (some ⟨g, 11, none⟩) := hI.val hd 4 8 rfl rfl (by kernel_rfl)
      exact at_op rfl rfl (load_op rfl Tryz.underlying2 e0 (gc hg.1).fl ⟨_, rfl, rfl, hg⟩)
    rcases ix with _ | ix
    · cases hj
      have e0 : A.eval (.tmp 1) = .int .i64 i := hI.old 1 (by kernel_rfl)
      exact at_op rfl rfl (move_op rfl ⟨_, rfl, e0, hg⟩)
    rcases ix with _ | ix
    · cases hj
      have e0 : A.eval (.tmp 10) = .int .i64 i := hI.val hd 6 10 rfl rfl (by kernel_rfl)
      refine at_op rfl rfl (call_op rfl Tryz.func166 (by kernel_rfl) (by kernel_rfl) ?_)
      simp only [List.map_cons, List.map_nil, e0]
      refine (interruptBit_impl i _ hi).mono ?_
      rw [HB.out]
      rintro e W1 ⟨rfl, rfl⟩
      exact ⟨_, rfl, _, rfl, rfl, hg⟩
    rcases ix with _ | ix
    · cases hj
      have e0 : A.eval (.tmp 9) = .int .i64 s.m.fl := hI.val hd 5 9 rfl rfl (by kernel_rfl)
      have e1 : A.eval (.tmp 11) = .int .i64 b := hI.val hd 7 11 rfl rfl (by kernel_rfl)
      exact at_op rfl rfl (bin_op rfl e0 e1 (fun w => by simp [go_sem]) ⟨_, rfl, rfl, hg⟩)
    rcases ix with _ | ix
    · cases hj
      have e0 : A.eval (.tmp 4) = .pointer (some ⟨g, 0, none⟩) := hI.val hd 0 4 rfl rfl (by kernel_rfl)
      exact at_op rfl rfl (nil_op rfl e0 ⟨_, rfl, rfl, hg⟩)
    rcases ix with _ | ix
    · cases hj
      have e0 : A.eval (.tmp 13) = .pointer (some ⟨g, 0, none⟩) := hI.val hd 9 13 rfl rfl (by kernel_rfl)
      refine at_op rfl rfl (val_op (v := .pointer (some ⟨g, 0, none⟩)) ?_ ⟨_, rfl, rfl, hg⟩)
      unfold execOp
      simp only [List.getElem_toArray, List.getElem_cons_zero, List.getElem_cons_succ, e0]
      simp [go_sem]
    rcases ix with _ | ix
    · cases hj
      have e0 : A.eval (.tmp 14) = .pointer (some ⟨g, 0, none⟩) := hI.val hd 10 14 rfl rfl (by kernel_rfl)
      refine at_op rfl rfl (val_op (v := .pointer (some ⟨g, 0, none⟩)) ?_ ⟨_, rfl, rfl, hg⟩)
      unfold execOp
      simp only [List.getElem_toArray, List.getElem_cons_zero, List.getElem_cons_succ, e0]
      simp [go_sem]
    rcases ix with _ | ix
    · cases hj
      have e0 : A.eval (.tmp 15) = .pointer (some ⟨g, 0, none⟩) := hI.val hd 11 15 rfl rfl (by kernel_rfl)
      refine at_op rfl rfl (val_op (v := .pointer (some ⟨g, 11, none⟩)) ?_ ⟨_, rfl, rfl, hg⟩)
      unfold execOp
      simp only [List.getElem_toArray, List.getElem_cons_zero, List.getElem_cons_succ, e0]
      simp [go_sem]
    rcases ix with _ | ix
    · exact absurd rfl hne
    omega
  case last =>
    intro L o' A W hj hI hg hd
    cases hj
    have e0 : A.eval (.tmp 16) = .pointer (some ⟨g, 11, none⟩) := hI.val hd 12 16 rfl rfl (by kernel_rfl)
    have e1 : A.eval (.tmp 12) = .int .i64 (bits .or .i64 s.m.fl b) := hI.val hd 8 12 rfl rfl (by kernel_rfl)
    refine at_op rfl rfl (stN_op rfl e0 e1 hg.1 (by show 11 < 31; omega) (fun W2 r2 o2 => ⟨_, rfl, rfl, r2, hg.2.trans o2⟩))
  case done =>
    intro A W hI hE
    have hA := hI.frame [4, 5, 6, 7, 8, 9, 10, 11, 12, 13, 14, 15, 16] (by kernel_rfl)
    rw [hA]
    simp only [putAll, List.foldl_cons, List.foldl_nil, Act.put, List.setIfInBounds_toArray, List.set_cons_zero, List.set_cons_succ]
    clear hA hI 
    go_wp2
    refine ret_unit rfl rfl ?_
    exact ⟨rfl, hE⟩
theorem tell_impl (t k v : Int) (h : GRow w g x y vo ve vi s co fin) (hs : So base w x y vo ve s) (hl : s.e.length ≤ 10000) :
    Calls Tryz.prog 112 #[.pointer (some ⟨g, 0, none⟩), .int .i64 t, .int .i64 k, .int .i64 v] w fun e w' => e = .returned (.tuple #[]) ∧ Gd base g w w' x y vi co fin (s.tells ⟨t, k, v⟩) := by
  have ke := (gc h).e
  have hal : Below w.heap.size w (w.alloc (.cells #[.int .i64 t, .int .i64 k, .int .i64 v] 142)) := (Below.refl _ _).alloc (Nat.le_refl _) _
  have hlit := own_litF fE okE w.heap.size w #[.int .i64 t, .int .i64 k, .int .i64 v] [⟨t, k, v⟩] rfl (by unfold maxLen; simp) (Nat.le_refl _)
  have h1 := h.below hal
  have hs1 := hs.below hal
  go_enter Tryz.func112, Tryz.ntmps112
  go_wp2_with (first
    | (at_builtin; refine appF okE rfl (.tmp 13) (.tmp 18) rfl base s.e [⟨t, k, v⟩] hs1.e (hlit.sl okE) (by simp; omega) (by have := hs1.ow.le; omega) ?_; intro v2 w2 ho2 hg2; have t2 := Mild.grown not_plainE hs1.e hg2; have r2 := t2.row h1 plain_g)
    | (refine st_ge (l := s.e ++ [⟨t, k, v⟩]) rfl rfl rfl rfl r2 (ho2.one okE) ?_; rintro w3 r3 o3 -))
  refine ret_unit rfl rfl ?_
  have hs2 : So base w2 x y vo v2 (s.tells ⟨t, k, v⟩) := ⟨(t2.ow hs1.ow).as rfl rfl, hs1.o.grown hg2 (fun k hk e => (OwnF.apart hs1.e hs1.o (by decide)) k hk e), ho2⟩
  exact ⟨rfl, vo, v2, r3, hs2.row o3 r2 plain_g (by decide), ((Mid.of hal).trans (Mid.mild t2)).trans (Mid.onto o3)⟩
theorem send_impl (t k v : Int) (h : GRow w g x y vo ve vi s co fin) (hs : So base w x y vo ve s) (hl : s.o.length ≤ 10000) (ht : -1 ≤ t ∧ t ≤ 1000000100) :
    Calls Tryz.prog 162 #[.pointer (some ⟨g, 0, none⟩), .int .i64 t, .int .i64 k, .int .i64 v] w fun e w' => e = .returned (.tuple #[]) ∧ Gd base g w w' x y vi co fin (s.sends ⟨t + 8, k, v⟩) ∧ ∀ q, q < w.heap.size → q ≠ g → vo.ownBlock ≠ some q → w'.heap[q]? = w.heap[q]? := by
  have ke := (gc h).o
  have hal : Below w.heap.size w (w.alloc (.cells #[.int .i64 (t + 8), .int .i64 k, .int .i64 v] 40)) := (Below.refl _ _).alloc (Nat.le_refl _) _
  have hlit := own_litF fM okM w.heap.size w #[.int .i64 (t + 8), .int .i64 k, .int .i64 v] [⟨t + 8, k, v⟩] rfl (by unfold maxLen; simp) (Nat.le_refl _)
  have h1 := h.below hal
  have hs1 := hs.below hal
  go_enter Tryz.func162, Tryz.ntmps162
  go_wp2_with (first
    | (at_builtin; refine appF okM rfl (.tmp 13) (.tmp 19) rfl base s.o [⟨t + 8, k, v⟩] hs1.o (hlit.sl okM) (by simp; omega) (by have := hs1.ow.le; omega) ?_; intro v2 w2 ho2 hg2; have t2 := Mild.grown not_plainM hs1.o hg2; have r2 := t2.row h1 plain_g)
    | (refine st_go (l := s.o ++ [⟨t + 8, k, v⟩]) rfl rfl rfl rfl r2 (ho2.one okM) ?_; rintro w3 r3 o3 -))
  refine ret_unit rfl rfl ?_
  have hs2 : So base w2 x y v2 ve (s.sends ⟨t + 8, k, v⟩) := ⟨(t2.ow hs1.ow).as rfl rfl, ho2, hs1.e.grown hg2 (fun k hk e => (OwnF.apart hs1.o hs1.e (by decide)) k hk e)⟩
  refine ⟨rfl, ⟨v2, ve, r3, hs2.row o3 r2 plain_g (by decide), ((Mid.of hal).trans (Mid.mild t2)).trans (Mid.onto o3)⟩, fun q hq hg hv => ?_⟩
  have e1 := hal.size
  have e2 := hg2.size
  rw [o3.block q hg (by omega), hg2.block q (by omega) (fun e => hv e.symm), hal.block q hq]
theorem byteThrough_impl (q : Int) (h : GRow w g x y vo ve vi s co fin) (hs : So base w x y vo ve s) (hl : s.e.length ≤ 10000) :
    Calls Tryz.prog 164 #[.pointer (some ⟨g, 0, none⟩), .int .i64 q] w fun e w' => e = .returned (.tuple #[]) ∧ Gd base g w w' x y vi co fin (s.through q) := by
  go_enter Tryz.func164, Tryz.ntmps164
  go_wp2_with (first
    | (go_at_call 119; refine (raise_impl 1 2 (by simp) (by decide) h).mono ?_; rintro e w1 ⟨rfl, r1, o1⟩; have s1 := (hs.row o1 h plain_g (by decide)).as (s' := s.flag 2) rfl rfl rfl rfl; have kd : w1.cell? ⟨g, 18, none⟩ = some (.int .i64 s.m.p.d) := (gc r1).pd)
    | (go_at_call 112; refine (tell_impl q 3 s.m.p.d r1 s1 hl).mono ?_; rintro e w2 ⟨rfl, vo2, ve2, r2, s2, M2⟩))
  refine ret_unit rfl rfl ?_
  exact ⟨rfl, vo2, ve2, r2, s2, (Mid.onto o1).trans M2⟩
set_option maxHeartbeats 1000000 in
theorem sendBeat_impl (h : GRow w g x y vo ve vi s co fin) (hs : So base w x y vo ve s) (hl : s.o.length ≤ 10000) :
    Calls Tryz.prog 116 #[.pointer (some ⟨g, 0, none⟩)] w fun e w' => e = .returned (.tuple #[]) ∧ Gd base g w w' x y vi co fin (s.beats fin) := by
  obtain ⟨P, AA, B, hP⟩ : ∃ P AA B, s.m.p.send fin = (P, AA, B) := ⟨_, _, _, rfl⟩
  have hA : -1 ≤ AA ∧ AA ≤ 1000000000 := by have := send_bounds s.m.p fin; rwa [hP] at this
  have HQ : Hid (s.beats fin = (s.port P).sends ⟨AA + 8, 1, B⟩) := show _ = _ by unfold St.beats; rw [hP]
  have HP : Hid (s.m.p.send fin = (P, AA, B)) := hP
  have hgl := h.lt
  clear hP
  go_enter Tryz.func116, Tryz.ntmps116
  go_wp2_with fail
  refine region_var (by kernel_rfl) (by kernel_rfl) 15 16 2 (by decide) (by decide) rfl rfl (by kernel_rfl) (by decide) (by kernel_rfl) 28 #[.int .i64 0, .bool false, .bool false, .int .i64 0, .int .i64 0, .bool false] #[.int .i64 P.d, .bool P.b, .bool P.l, .int .i64 P.n, .int .i64 P.x, .bool P.t] rfl [.pointer (some ⟨g, 0, none⟩), .pointer (some ⟨g, 0, none⟩), .pointer (some ⟨g, 0, none⟩), .pointer (some ⟨g, 0, none⟩), .pointer (some ⟨g, 18, none⟩), s.m.p.val, .pointer (some ⟨g, 0, none⟩), .pointer (some ⟨g, 0, none⟩), .pointer (some ⟨g, 30, none⟩), .int .i64 fin, .tuple #[P.val, .int .i64 AA, .int .i64 B], .tuple #[P.val, .int .i64 AA, .int .i64 B], P.val, .int .i64 AA, .int .i64 B, undef, undef, .int .i64 AA, .int .i64 B] ?step ?alloc ?store ?done
  case step =>
    intro L ix o' A W hn1 hn2 hj hI hB hd
    have hin : ix < 19 := by
      by_cases hl : ix < 19
      · exact hl
      · simp [hl] at hj
    have hsz : A.tmps.size = 30 := hI.size
    rcases ix with _ | ix
    · cases hj
      have e0 : A.eval (.tmp 0) = .pointer (some ⟨g, 0, none⟩) := hI.old 0 (by kernel_rfl)
      exact at_op rfl rfl (move_op rfl ⟨_, rfl, e0, Below.refl _ _⟩)
    rcases ix with _ | ix
    · cases hj
      have e0 : A.eval (.tmp 6) = .pointer (some ⟨g, 0, none⟩) := hI.valV hd 0 6 rfl rfl (by kernel_rfl) (by decide) (by decide)
      exact at_op rfl rfl (nil_op rfl e0 ⟨_, rfl, rfl, Below.refl _ _⟩)
    rcases ix with _ | ix
    · cases hj
      have e0 : A.eval (.tmp 7) = .pointer (some ⟨g, 0, none⟩) := hI.valV hd 1 7 rfl rfl (by kernel_rfl) (by decide) (by decide)
      refine at_op rfl rfl (val_op (v := .pointer (some ⟨g, 0, none⟩)) ?_ ⟨_, rfl, rfl, Below.refl _ _⟩)
      unfold execOp
      simp only [List.getElem_toArray, List.getElem_cons_zero, List.getElem_cons_succ, e0]
      simp [go_sem]
    rcases ix with _ | ix
    · cases hj
      have e0 : A.eval (.tmp 8) = .pointer (some ⟨g, 0, none⟩) := hI.valV hd 2 8 rfl rfl (by kernel_rfl) (by decide) (by decide)
      refine at_op rfl rfl (val_op (v := .pointer (some ⟨g, 0, none⟩)) ?_ ⟨_, rfl, rfl, Below.refl _ _⟩)
      unfold execOp
      simp only [List.getElem_toArray, List.getElem_cons_zero, List.getElem_cons_succ, e0]
      simp [go_sem]
    rcases ix with _ | ix
    · cases hj
      have e0 : A.eval (.tmp 9) = .pointer (some ⟨g, 0, none⟩) := hI.valV hd 3 9 rfl rfl (by kernel_rfl) (by decide) (by decide)
      refine at_op rfl rfl (val_op (v := .pointer (some ⟨g, 18, none⟩)) ?_ ⟨_, rfl, rfl, Below.refl _ _⟩)
      unfold execOp
      simp only [List.getElem_toArray, List.getElem_cons_zero, List.getElem_cons_succ, e0]
      simp [go_sem]
    rcases ix with _ | ix
    · cases hj
      have e0 : A.eval (.tmp 10) = .pointer (some ⟨g, 18, none⟩) := hI.valV hd 4 10 rfl rfl (by kernel_rfl) (by decide) (by decide)
      exact at_op rfl rfl (ldP_op rfl e0 (h.below hB) ⟨_, rfl, rfl, Below.refl _ _⟩)
    rcases ix with _ | ix
    · cases hj
      have e0 : A.eval (.tmp 0) = .pointer (some ⟨g, 0, none⟩) := hI.old 0 (by kernel_rfl)
      exact at_op rfl rfl (move_op rfl ⟨_, rfl, e0, Below.refl _ _⟩)
    rcases ix with _ | ix
    · cases hj
      have e0 : A.eval (.tmp 12) = .pointer (some ⟨g, 0, none⟩) := hI.valV hd 6 12 rfl rfl (by kernel_rfl) (by decide) (by decide)
      exact at_op rfl rfl (nil_op rfl e0 ⟨_, rfl, rfl, Below.refl _ _⟩)
    rcases ix with _ | ix
    · cases hj
      have e0 : A.eval (.tmp 13) = .pointer (some ⟨g, 0, none⟩) := hI.valV hd 7 13 rfl rfl (by kernel_rfl) (by decide) (by decide)
      refine at_op rfl rfl (val_op (v := .pointer (some ⟨g, 30, none⟩)) ?_ ⟨_, rfl, rfl, Below.refl _ _⟩)
      unfold execOp
      simp only [List.getElem_toArray, List.getElem_cons_zero, List.getElem_cons_succ, e0]
      simp [go_sem]
    rcases ix with _ | ix
    · cases hj
      have e0 : A.eval (.tmp 14) = .pointer (some ⟨g, 30, none⟩) := hI.valV hd 8 14 rfl rfl (by kernel_rfl) (by decide) (by decide)
      exact at_op rfl rfl (load_op rfl Tryz.underlying2 e0 (gc (h.below hB)).fin ⟨_, rfl, rfl, Below.refl _ _⟩)
    rcases ix with _ | ix
    · cases hj
      have e0 : A.eval (.tmp 11) = s.m.p.val := hI.valV hd 5 11 rfl rfl (by kernel_rfl) (by decide) (by decide)
      have e1 : A.eval (.tmp 15) = .int .i64 fin := hI.valV hd 9 15 rfl rfl (by kernel_rfl) (by decide) (by decide)
      refine at_op rfl rfl (call_op rfl Tryz.func161 (by kernel_rfl) (by kernel_rfl) ?_)
      simp only [List.map_cons, List.map_nil, e0, e1]
      refine (serialSends_impl s.m.p fin _).mono ?_
      rw [HP.out]
      rintro e W1 ⟨rfl, hb⟩
      exact ⟨_, rfl, _, rfl, rfl, hb⟩
    rcases ix with _ | ix
    · cases hj
      have e0 : A.eval (.tmp 16) = .tuple #[P.val, .int .i64 AA, .int .i64 B] := hI.valV hd 10 16 rfl rfl (by kernel_rfl) (by decide) (by decide)
      exact at_op rfl rfl (move_op rfl ⟨_, rfl, e0, Below.refl _ _⟩)
    rcases ix with _ | ix
    · cases hj
      have e0 : A.eval (.tmp 5) = .tuple #[P.val, .int .i64 AA, .int .i64 B] := hI.valV hd 11 5 rfl rfl (by kernel_rfl) (by decide) (by decide)
      refine at_op rfl rfl (val_op (v := P.val) ?_ ⟨_, rfl, rfl, Below.refl _ _⟩)
      unfold execOp
      simp only [List.getElem_toArray, List.getElem_cons_zero, List.getElem_cons_succ, e0]
      simp [go_sem]
    rcases ix with _ | ix
    · cases hj
      have e0 : A.eval (.tmp 5) = .tuple #[P.val, .int .i64 AA, .int .i64 B] := hI.valV hd 11 5 rfl rfl (by kernel_rfl) (by decide) (by decide)
      refine at_op rfl rfl (val_op (v := .int .i64 AA) ?_ ⟨_, rfl, rfl, Below.refl _ _⟩)
      unfold execOp
      simp only [List.getElem_toArray, List.getElem_cons_zero, List.getElem_cons_succ, e0]
      simp [go_sem]
    rcases ix with _ | ix
    · cases hj
      have e0 : A.eval (.tmp 5) = .tuple #[P.val, .int .i64 AA, .int .i64 B] := hI.valV hd 11 5 rfl rfl (by kernel_rfl) (by decide) (by decide)
      refine at_op rfl rfl (val_op (v := .int .i64 B) ?_ ⟨_, rfl, rfl, Below.refl _ _⟩)
      unfold execOp
      simp only [List.getElem_toArray, List.getElem_cons_zero, List.getElem_cons_succ, e0]
      simp [go_sem]
    rcases ix with _ | ix
    · exact absurd rfl hn1
    rcases ix with _ | ix
    · exact absurd rfl hn2
    rcases ix with _ | ix
    · cases hj
      have e0 : A.eval (.tmp 18) = .int .i64 AA := hI.valV hd 13 18 rfl rfl (by kernel_rfl) (by decide) (by decide)
      exact at_op rfl rfl (assign_op rfl ⟨_, rfl, e0, Below.refl _ _⟩)
    rcases ix with _ | ix
    · cases hj
      have e0 : A.eval (.tmp 19) = .int .i64 B := hI.valV hd 14 19 rfl rfl (by kernel_rfl) (by decide) (by decide)
      exact at_op rfl rfl (assign_op rfl ⟨_, rfl, e0, Below.refl _ _⟩)
    omega
  case alloc =>
    intro o' A W hj
    cases hj
    exact at_op rfl rfl (alP_op rfl ⟨rfl, rfl⟩)
  case store =>
    intro L o' A W b cs hj hI hd eb hr hn
    cases hj
    have e0 : A.eval (.tmp 17) = P.val := hI.valV hd 12 17 rfl rfl (by kernel_rfl) (by decide) (by decide)
    exact at_op rfl rfl (stRow_op rfl eb e0 hr info_p hn (by simp [Value.oneCell']) (fun W2 r2 o2 => ⟨rfl, r2, o2⟩))
  case done =>
    intro A W b hI hB eb hr hb
    have s3 : A.tmps.getD 3 undef = .int .i64 AA := hI.lastV 17 3 rfl (by decide) (by decide)
    have s4 : A.tmps.getD 4 undef = .int .i64 B := hI.lastV 18 4 rfl (by decide) (by decide)
    have hA := hI.frame [6, 7, 8, 9, 10, 11, 12, 13, 14, 15, 16, 5, 17, 18, 19, 2, 3, 4] (by kernel_rfl)
    rw [hA]
    simp only [putAll, List.foldl_cons, List.foldl_nil, eb, s3, s4, Act.put, List.setIfInBounds_toArray, List.set_cons_zero, List.set_cons_succ]
    clear hA hI eb s3 s4
    have r1 := h.below hB
    have s1 := hs.below hB
    go_wp2_with (first
      | (refine ld_pp rfl rfl rfl hr ?_)
      | (refine st_gp rfl rfl rfl rfl r1 ?_; rintro w2 r2 o2 -; have s2 := (s1.row o2 r1 plain_g (by decide)).as (s' := s.port P) rfl rfl rfl rfl)
      | (go_at_call 162; refine (send_impl AA 1 B r2 s2 hl (by omega)).mono ?_; rintro e w3 ⟨rfl, ⟨vo3, ve3, r3, s3, M3⟩, N3⟩))
    refine ret_unit rfl rfl ?_
    rw [HQ.out]
    exact ⟨rfl, vo3, ve3, r3, s3, ((Mid.of hB).trans (Mid.onto o2)).trans M3⟩
set_option maxHeartbeats 1000000 in
theorem meetBeat_impl (m : M3) (hk : m.k = 1) (ht : 0 ≤ m.t ∧ m.t ≤ 1000000100) (h : GRow w g x y vo ve vi s co fin) (hs : So base w x y vo ve s) (hl : s.o.length ≤ 10000) (hl2 : s.e.length ≤ 10000) :
    Calls Tryz.prog 117 #[.pointer (some ⟨g, 0, none⟩), m.val] w fun e w' => e = .returned (.tuple #[]) ∧ Gd base g w w' x y vi co fin (s.arrive m) := by
  obtain ⟨P, AA, I, hP⟩ : ∃ P AA I, s.m.p.beat m.v = (P, AA, I) := ⟨_, _, _, rfl⟩
  have hgl := h.lt
  obtain ⟨vm, hvm⟩ : ∃ vm, vm = m.val := ⟨_, rfl⟩
  rw [← hvm]
  cases I
  · have HQ : Hid (s.arrive m = (s.port P).sends ⟨m.t + 8, 2, AA⟩) := show _ = _ by unfold St.arrive; rw [if_pos hk, hP]; simp
    have HP : Hid (s.m.p.beat m.v = (P, AA, false)) := hP
    clear hP hk
    go_enter Tryz.func117, Tryz.ntmps117
    go_wp2_with (refine box_m3 rfl rfl hvm ?_; intro w0 m0 hb0; have h0 := h.below hb0; have s0 := hs.below hb0; have hm0 := m0.lt)
    refine region_var (by kernel_rfl) (by kernel_rfl) 13 14 4 (by decide) (by decide) rfl rfl (by kernel_rfl) (by decide) (by kernel_rfl) 28 #[.int .i64 0, .bool false, .bool false, .int .i64 0, .int .i64 0, .bool false] #[.int .i64 P.d, .bool P.b, .bool P.l, .int .i64 P.n, .int .i64 P.x, .bool P.t] rfl [.pointer (some ⟨g, 0, none⟩), .pointer (some ⟨g, 0, none⟩), .pointer (some ⟨g, 0, none⟩), .pointer (some ⟨g, 0, none⟩), .pointer (some ⟨g, 18, none⟩), s.m.p.val, .pointer (some ⟨w.heap.size, 2, none⟩), .int .i64 m.v, .tuple #[P.val, .int .i64 AA, .bool false], .tuple #[P.val, .int .i64 AA, .bool false], P.val, .int .i64 AA, .bool false, undef, undef, .int .i64 AA, .bool false] ?step ?alloc ?store ?done
    case step =>
      intro L ix o' A W hn1 hn2 hj hI hB hd
      have hin : ix < 17 := by
        by_cases hl : ix < 17
        · exact hl
        · simp [hl] at hj
      have hsz : A.tmps.size = 36 := hI.size
      rcases ix with _ | ix
      · cases hj
        have e0 : A.eval (.tmp 0) = .pointer (some ⟨g, 0, none⟩) := hI.old 0 (by kernel_rfl)
        exact at_op rfl rfl (move_op rfl ⟨_, rfl, e0, Below.refl _ _⟩)
      rcases ix with _ | ix
      · cases hj
        have e0 : A.eval (.tmp 8) = .pointer (some ⟨g, 0, none⟩) := hI.valV hd 0 8 rfl rfl (by kernel_rfl) (by decide) (by decide)
        exact at_op rfl rfl (nil_op rfl e0 ⟨_, rfl, rfl, Below.refl _ _⟩)
      rcases ix with _ | ix
      · cases hj
        have e0 : A.eval (.tmp 9) = .pointer (some ⟨g, 0, none⟩) := hI.valV hd 1 9 rfl rfl (by kernel_rfl) (by decide) (by decide)
        refine at_op rfl rfl (val_op (v := .pointer (some ⟨g, 0, none⟩)) ?_ ⟨_, rfl, rfl, Below.refl _ _⟩)
        unfold execOp
        simp only [List.getElem_toArray, List.getElem_cons_zero, List.getElem_cons_succ, e0]
        simp [go_sem]
      rcases ix with _ | ix
      · cases hj
        have e0 : A.eval (.tmp 10) = .pointer (some ⟨g, 0, none⟩) := hI.valV hd 2 10 rfl rfl (by kernel_rfl) (by decide) (by decide)
        refine at_op rfl rfl (val_op (v := .pointer (some ⟨g, 0, none⟩)) ?_ ⟨_, rfl, rfl, Below.refl _ _⟩)
        unfold execOp
        simp only [List.getElem_toArray, List.getElem_cons_zero, List.getElem_cons_succ, e0]
        simp [go_sem]
      rcases ix with _ | ix
      · cases hj
        have e0 : A.eval (.tmp 11) = .pointer (some ⟨g, 0, none⟩) := hI.valV hd 3 11 rfl rfl (by kernel_rfl) (by decide) (by decide)
        refine at_op rfl rfl (val_op (v := .pointer (some ⟨g, 18, none⟩)) ?_ ⟨_, rfl, rfl, Below.refl _ _⟩)
        unfold execOp
        simp only [List.getElem_toArray, List.getElem_cons_zero, List.getElem_cons_succ, e0]
        simp [go_sem]
      rcases ix with _ | ix
      · cases hj
        have e0 : A.eval (.tmp 12) = .pointer (some ⟨g, 18, none⟩) := hI.valV hd 4 12 rfl rfl (by kernel_rfl) (by decide) (by decide)
        exact at_op rfl rfl (ldP_op rfl e0 (h0.below hB) ⟨_, rfl, rfl, Below.refl _ _⟩)
      rcases ix with _ | ix
      · cases hj
        have e0 : A.eval (.tmp 3) = .pointer (some ⟨w.heap.size, 0, none⟩) := hI.old 3 (by kernel_rfl)
        refine at_op rfl rfl (val_op (v := .pointer (some ⟨w.heap.size, 2, none⟩)) ?_ ⟨_, rfl, rfl, Below.refl _ _⟩)
        unfold execOp
        simp only [List.getElem_toArray, List.getElem_cons_zero, List.getElem_cons_succ, e0]
        simp [go_sem]
      rcases ix with _ | ix
      · cases hj
        have e0 : A.eval (.tmp 14) = .pointer (some ⟨w.heap.size, 2, none⟩) := hI.valV hd 6 14 rfl rfl (by kernel_rfl) (by decide) (by decide)
        exact at_op rfl rfl (load_op rfl Tryz.underlying2 e0 ((m0.below hB).cell 2) ⟨_, rfl, rfl, Below.refl _ _⟩)
      rcases ix with _ | ix
      · cases hj
        have e0 : A.eval (.tmp 13) = s.m.p.val := hI.valV hd 5 13 rfl rfl (by kernel_rfl) (by decide) (by decide)
        have e1 : A.eval (.tmp 15) = .int .i64 m.v := hI.valV hd 7 15 rfl rfl (by kernel_rfl) (by decide) (by decide)
        refine at_op rfl rfl (call_op rfl Tryz.func163 (by kernel_rfl) (by kernel_rfl) ?_)
        simp only [List.map_cons, List.map_nil, e0, e1]
        refine (serialBeat_impl s.m.p m.v _).mono ?_
        rw [HP.out]
        rintro e W1 ⟨rfl, hb⟩
        exact ⟨_, rfl, _, rfl, rfl, hb⟩
      rcases ix with _ | ix
      · cases hj
        have e0 : A.eval (.tmp 16) = .tuple #[P.val, .int .i64 AA, .bool false] := hI.valV hd 8 16 rfl rfl (by kernel_rfl) (by decide) (by decide)
        exact at_op rfl rfl (move_op rfl ⟨_, rfl, e0, Below.refl _ _⟩)
      rcases ix with _ | ix
      · cases hj
        have e0 : A.eval (.tmp 7) = .tuple #[P.val, .int .i64 AA, .bool false] := hI.valV hd 9 7 rfl rfl (by kernel_rfl) (by decide) (by decide)
        refine at_op rfl rfl (val_op (v := P.val) ?_ ⟨_, rfl, rfl, Below.refl _ _⟩)
        unfold execOp
        simp only [List.getElem_toArray, List.getElem_cons_zero, List.getElem_cons_succ, e0]
        simp [go_sem]
      rcases ix with _ | ix
      · cases hj
        have e0 : A.eval (.tmp 7) = .tuple #[P.val, .int .i64 AA, .bool false] := hI.valV hd 9 7 rfl rfl (by kernel_rfl) (by decide) (by decide)
        refine at_op rfl rfl (val_op (v := .int .i64 AA) ?_ ⟨_, rfl, rfl, Below.refl _ _⟩)
        unfold execOp
        simp only [List.getElem_toArray, List.getElem_cons_zero, List.getElem_cons_succ, e0]
        simp [go_sem]
      rcases ix with _ | ix
      · cases hj
        have e0 : A.eval (.tmp 7) = .tuple #[P.val, .int .i64 AA, .bool false] := hI.valV hd 9 7 rfl rfl (by kernel_rfl) (by decide) (by decide)
        refine at_op rfl rfl (val_op (v := .bool false) ?_ ⟨_, rfl, rfl, Below.refl _ _⟩)
        unfold execOp
        simp only [List.getElem_toArray, List.getElem_cons_zero, List.getElem_cons_succ, e0]
        simp [go_sem]
      rcases ix with _ | ix
      · exact absurd rfl hn1
      rcases ix with _ | ix
      · exact absurd rfl hn2
      rcases ix with _ | ix
      · cases hj
        have e0 : A.eval (.tmp 18) = .int .i64 AA := hI.valV hd 11 18 rfl rfl (by kernel_rfl) (by decide) (by decide)
        exact at_op rfl rfl (assign_op rfl ⟨_, rfl, e0, Below.refl _ _⟩)
      rcases ix with _ | ix
      · cases hj
        have e0 : A.eval (.tmp 19) = .bool false := hI.valV hd 12 19 rfl rfl (by kernel_rfl) (by decide) (by decide)
        exact at_op rfl rfl (assign_op rfl ⟨_, rfl, e0, Below.refl _ _⟩)
      omega
    case alloc =>
      intro o' A W hj
      cases hj
      exact at_op rfl rfl (alP_op rfl ⟨rfl, rfl⟩)
    case store =>
      intro L o' A W b cs hj hI hd eb hr hn
      cases hj
      have e0 : A.eval (.tmp 17) = P.val := hI.valV hd 10 17 rfl rfl (by kernel_rfl) (by decide) (by decide)
      exact at_op rfl rfl (stRow_op rfl eb e0 hr info_p hn (by simp [Value.oneCell']) (fun W2 r2 o2 => ⟨rfl, r2, o2⟩))
    case done =>
      intro A W b hI hB eb hr hb
      have s5 : A.tmps.getD 5 undef = .int .i64 AA := hI.lastV 15 5 rfl (by decide) (by decide)
      have s6 : A.tmps.getD 6 undef = .bool false := hI.lastV 16 6 rfl (by decide) (by decide)
      have hA := hI.frame [8, 9, 10, 11, 12, 13, 14, 15, 16, 7, 17, 18, 19, 4, 5, 6] (by kernel_rfl)
      rw [hA]
      simp only [putAll, List.foldl_cons, List.foldl_nil, eb, s5, s6, Act.put, List.setIfInBounds_toArray, List.set_cons_zero, List.set_cons_succ]
      clear hA hI eb s5 s6
      have r1 := h0.below hB
      have s1 := s0.below hB
      have m1 := m0.below hB
      have sB := hB.size
      have kt : W.cell? ⟨w.heap.size, 0, none⟩ = some (.int .i64 m.t) := m1.cell 0
      go_wp2_with (first
        | (refine ld_pp rfl rfl rfl hr ?_)
        | (refine st_gp rfl rfl rfl rfl r1 ?_; rintro w2 r2 o2 -; have s2 := (s1.row o2 r1 plain_g (by decide)).as (s' := s.port P) rfl rfl rfl rfl; have m2 := m1.onto o2 (by omega); have kt2 : w2.cell? ⟨w.heap.size, 0, none⟩ = some (.int .i64 m.t) := m2.cell 0; clear kt)
        | (go_at_call 162; refine (send_impl m.t 2 AA r2 s2 hl (by omega)).mono ?_; rintro e w3 ⟨rfl, ⟨vo3, ve3, r3, s3, M3⟩, N3⟩))
      refine ret_unit rfl rfl ?_
      rw [HQ.out]
      exact ⟨rfl, vo3, ve3, r3, s3, ((Mid.of (below_more hb0 hB)).trans (Mid.onto o2)).trans M3⟩
  · have HQ : Hid (s.arrive m = ((s.port P).sends ⟨m.t + 8, 2, AA⟩).through m.t) := show _ = _ by unfold St.arrive; rw [if_pos hk, hP]; simp
    have HP : Hid (s.m.p.beat m.v = (P, AA, true)) := hP
    clear hP hk
    go_enter Tryz.func117, Tryz.ntmps117
    go_wp2_with (refine box_m3 rfl rfl hvm ?_; intro w0 m0 hb0; have h0 := h.below hb0; have s0 := hs.below hb0; have hm0 := m0.lt)
    refine region_var (by kernel_rfl) (by kernel_rfl) 13 14 4 (by decide) (by decide) rfl rfl (by kernel_rfl) (by decide) (by kernel_rfl) 28 #[.int .i64 0, .bool false, .bool false, .int .i64 0, .int .i64 0, .bool false] #[.int .i64 P.d, .bool P.b, .bool P.l, .int .i64 P.n, .int .i64 P.x, .bool P.t] rfl [.pointer (some ⟨g, 0, none⟩), .pointer (some ⟨g, 0, none⟩), .pointer (some ⟨g, 0, none⟩), .pointer (some ⟨g, 0, none⟩), .pointer (some ⟨g, 18, none⟩), s.m.p.val, .pointer (some ⟨w.heap.size, 2, none⟩), .int .i64 m.v, .tuple #[P.val, .int .i64 AA, .bool true], .tuple #[P.val, .int .i64 AA, .bool true], P.val, .int .i64 AA, .bool true, undef, undef, .int .i64 AA, .bool true] ?step ?alloc ?store ?done
    case step =>
      intro L ix o' A W hn1 hn2 hj hI hB hd
      have hin : ix < 17 := by
        by_cases hl : ix < 17
        · exact hl
        · simp [hl] at hj
      have hsz : A.tmps.size = 36 := hI.size
      rcases ix with _ | ix
      · cases hj
        have e0 : A.eval (.tmp 0) = .pointer (some ⟨g, 0, none⟩) := hI.old 0 (by kernel_rfl)
        exact at_op rfl rfl (move_op rfl ⟨_, rfl, e0, Below.refl _ _⟩)
      rcases ix with _ | ix
      · cases hj
        have e0 : A.eval (.tmp 8) = .pointer (some ⟨g, 0, none⟩) := hI.valV hd 0 8 rfl rfl (by kernel_rfl) (by decide) (by decide)
        exact at_op rfl rfl (nil_op rfl e0 ⟨_, rfl, rfl, Below.refl _ _⟩)
      rcases ix with _ | ix
      · cases hj
        have e0 : A.eval (.tmp 9) = .pointer (some ⟨g, 0, none⟩) := hI.valV hd 1 9 rfl rfl (by kernel_rfl) (by decide) (by decide)
        refine at_op rfl rfl (val_op (v := .pointer (some ⟨g, 0, none⟩)) ?_ ⟨_, rfl, rfl, Below.refl _ _⟩)
        unfold execOp
        simp only [List.getElem_toArray, List.getElem_cons_zero, List.getElem_cons_succ, e0]
        simp [go_sem]
      rcases ix with _ | ix
      · cases hj
        have e0 : A.eval (.tmp 10) = .pointer (some ⟨g, 0, none⟩) := hI.valV hd 2 10 rfl rfl (by kernel_rfl) (by decide) (by decide)
        refine at_op rfl rfl (val_op (v := .pointer (some ⟨g, 0, none⟩)) ?_ ⟨_, rfl, rfl, Below.refl _ _⟩)
        unfold execOp
        simp only [List.getElem_toArray, List.getElem_cons_zero, List.getElem_cons_succ, e0]
        simp [go_sem]
      rcases ix with _ | ix
      · cases hj
        have e0 : A.eval (.tmp 11) = .pointer (some ⟨g, 0, none⟩) := hI.valV hd 3 11 rfl rfl (by kernel_rfl) (by decide) (by decide)
        refine at_op rfl rfl (val_op (v := .pointer (some ⟨g, 18, none⟩)) ?_ ⟨_, rfl, rfl, Below.refl _ _⟩)
        unfold execOp
        simp only [List.getElem_toArray, List.getElem_cons_zero, List.getElem_cons_succ, e0]
        simp [go_sem]
      rcases ix with _ | ix
      · cases hj
        have e0 : A.eval (.tmp 12) = .pointer (some ⟨g, 18, none⟩) := hI.valV hd 4 12 rfl rfl (by kernel_rfl) (by decide) (by decide)
        exact at_op rfl rfl (ldP_op rfl e0 (h0.below hB) ⟨_, rfl, rfl, Below.refl _ _⟩)
      rcases ix with _ | ix
      · cases hj
        have e0 : A.eval (.tmp 3) = .pointer (some ⟨w.heap.size, 0, none⟩) := hI.old 3 (by kernel_rfl)
        refine at_op rfl rfl (val_op (v := .pointer (some ⟨w.heap.size, 2, none⟩)) ?_ ⟨_, rfl, rfl, Below.refl _ _⟩)
        unfold execOp
        simp only [List.getElem_toArray, List.getElem_cons_zero, List.getElem_cons_succ, e0]
        simp [go_sem]
      rcases ix with _ | ix
      · cases hj
        have e0 : A.eval (.tmp 14) = .pointer (some ⟨w.heap.size, 2, none⟩) := hI.valV hd 6 14 rfl rfl (by kernel_rfl) (by decide) (by decide)
        exact at_op rfl rfl (load_op rfl Tryz.underlying2 e0 ((m0.below hB).cell 2) ⟨_, rfl, rfl, Below.refl _ _⟩)
      rcases ix with _ | ix
      · cases hj
        have e0 : A.eval (.tmp 13) = s.m.p.val := hI.valV hd 5 13 rfl rfl (by kernel_rfl) (by decide) (by decide)
        have e1 : A.eval (.tmp 15) = .int .i64 m.v := hI.valV hd 7 15 rfl rfl (by kernel_rfl) (by decide) (by decide)
        refine at_op rfl rfl (call_op rfl Tryz.func163 (by kernel_rfl) (by kernel_rfl) ?_)
        simp only [List.map_cons, List.map_nil, e0, e1]
        refine (serialBeat_impl s.m.p m.v _).mono ?_
        rw [HP.out]
        rintro e W1 ⟨rfl, hb⟩
        exact ⟨_, rfl, _, rfl, rfl, hb⟩
      rcases ix with _ | ix
      · cases hj
        have e0 : A.eval (.tmp 16) = .tuple #[P.val, .int .i64 AA, .bool true] := hI.valV hd 8 16 rfl rfl (by kernel_rfl) (by decide) (by decide)
        exact at_op rfl rfl (move_op rfl ⟨_, rfl, e0, Below.refl _ _⟩)
      rcases ix with _ | ix
      · cases hj
        have e0 : A.eval (.tmp 7) = .tuple #[P.val, .int .i64 AA, .bool true] := hI.valV hd 9 7 rfl rfl (by kernel_rfl) (by decide) (by decide)
        refine at_op rfl rfl (val_op (v := P.val) ?_ ⟨_, rfl, rfl, Below.refl _ _⟩)
        unfold execOp
        simp only [List.getElem_toArray, List.getElem_cons_zero, List.getElem_cons_succ, e0]
        simp [go_sem]
      rcases ix with _ | ix
      · cases hj
        have e0 : A.eval (.tmp 7) = .tuple #[P.val, .int .i64 AA, .bool true] := hI.valV hd 9 7 rfl rfl (by kernel_rfl) (by decide) (by decide)
        refine at_op rfl rfl (val_op (v := .int .i64 AA) ?_ ⟨_, rfl, rfl, Below.refl _ _⟩)
        unfold execOp
        simp only [List.getElem_toArray, List.getElem_cons_zero, List.getElem_cons_succ, e0]
        simp [go_sem]
      rcases ix with _ | ix
      · cases hj
        have e0 : A.eval (.tmp 7) = .tuple #[P.val, .int .i64 AA, .bool true] := hI.valV hd 9 7 rfl rfl (by kernel_rfl) (by decide) (by decide)
        refine at_op rfl rfl (val_op (v := .bool true) ?_ ⟨_, rfl, rfl, Below.refl _ _⟩)
        unfold execOp
        simp only [List.getElem_toArray, List.getElem_cons_zero, List.getElem_cons_succ, e0]
        simp [go_sem]
      rcases ix with _ | ix
      · exact absurd rfl hn1
      rcases ix with _ | ix
      · exact absurd rfl hn2
      rcases ix with _ | ix
      · cases hj
        have e0 : A.eval (.tmp 18) = .int .i64 AA := hI.valV hd 11 18 rfl rfl (by kernel_rfl) (by decide) (by decide)
        exact at_op rfl rfl (assign_op rfl ⟨_, rfl, e0, Below.refl _ _⟩)
      rcases ix with _ | ix
      · cases hj
        have e0 : A.eval (.tmp 19) = .bool true := hI.valV hd 12 19 rfl rfl (by kernel_rfl) (by decide) (by decide)
        exact at_op rfl rfl (assign_op rfl ⟨_, rfl, e0, Below.refl _ _⟩)
      omega
    case alloc =>
      intro o' A W hj
      cases hj
      exact at_op rfl rfl (alP_op rfl ⟨rfl, rfl⟩)
    case store =>
      intro L o' A W b cs hj hI hd eb hr hn
      cases hj
      have e0 : A.eval (.tmp 17) = P.val := hI.valV hd 10 17 rfl rfl (by kernel_rfl) (by decide) (by decide)
      exact at_op rfl rfl (stRow_op rfl eb e0 hr info_p hn (by simp [Value.oneCell']) (fun W2 r2 o2 => ⟨rfl, r2, o2⟩))
    case done =>
      intro A W b hI hB eb hr hb
      have s5 : A.tmps.getD 5 undef = .int .i64 AA := hI.lastV 15 5 rfl (by decide) (by decide)
      have s6 : A.tmps.getD 6 undef = .bool true := hI.lastV 16 6 rfl (by decide) (by decide)
      have hA := hI.frame [8, 9, 10, 11, 12, 13, 14, 15, 16, 7, 17, 18, 19, 4, 5, 6] (by kernel_rfl)
      rw [hA]
      simp only [putAll, List.foldl_cons, List.foldl_nil, eb, s5, s6, Act.put, List.setIfInBounds_toArray, List.set_cons_zero, List.set_cons_succ]
      clear hA hI eb s5 s6
      have r1 := h0.below hB
      have s1 := s0.below hB
      have m1 := m0.below hB
      have sB := hB.size
      have kt : W.cell? ⟨w.heap.size, 0, none⟩ = some (.int .i64 m.t) := m1.cell 0
      go_wp2_with (first
        | (refine ld_pp rfl rfl rfl hr ?_)
        | (refine st_gp rfl rfl rfl rfl r1 ?_; rintro w2 r2 o2 -; have s2 := (s1.row o2 r1 plain_g (by decide)).as (s' := s.port P) rfl rfl rfl rfl; have m2 := m1.onto o2 (by omega); have kt2 : w2.cell? ⟨w.heap.size, 0, none⟩ = some (.int .i64 m.t) := m2.cell 0; clear kt)
        | (go_at_call 162; refine (send_impl m.t 2 AA r2 s2 hl (by omega)).mono ?_; rintro e w3 ⟨rfl, ⟨vo3, ve3, r3, s3, M3⟩, N3⟩; have n3 : w3.heap[w.heap.size]? = w2.heap[w.heap.size]? := N3 w.heap.size m2.lt (by omega) (fun e => by have := (hs.o.lt _ e).2; omega); have kt3 : w3.cell? ⟨w.heap.size, 0, none⟩ = some (.int .i64 m.t) := (World.cell?_of_block (w := w2) (a := ⟨w.heap.size, 0, none⟩) n3).trans kt2; clear kt2)
        | (go_at_call 164; refine (byteThrough_impl m.t r3 s3 hl2).mono ?_; rintro e w4 ⟨rfl, vo4, ve4, r4, s4, M4⟩))
      refine ret_unit rfl rfl ?_
      rw [HQ.out]
      exact ⟨rfl, vo4, ve4, r4, s4, (((Mid.of (below_more hb0 hB)).trans (Mid.onto o2)).trans M3).trans M4⟩
set_option maxHeartbeats 1000000 in
theorem meetAnswer_impl (m : M3) (hk : m.k = 2) (h : GRow w g x y vo ve vi s co fin) (hs : So base w x y vo ve s) (hl2 : s.e.length ≤ 10000) :
    Calls Tryz.prog 118 #[.pointer (some ⟨g, 0, none⟩), m.val] w fun e w' => e = .returned (.tuple #[]) ∧ Gd base g w w' x y vi co fin (s.arrive m) := by
  obtain ⟨P, I, hP⟩ : ∃ P I, s.m.p.answer m.v m.t = (P, I) := ⟨_, _, rfl⟩
  have hgl := h.lt
  obtain ⟨vm, hvm⟩ : ∃ vm, vm = m.val := ⟨_, rfl⟩
  rw [← hvm]
  cases I
  · have HQ : Hid (s.arrive m = s.port P) := show _ = _ by unfold St.arrive; rw [if_neg (by omega), if_pos hk, hP]; simp
    have HP : Hid (s.m.p.answer m.v m.t = (P, false)) := hP
    clear hP hk
    go_enter Tryz.func118, Tryz.ntmps118
    go_wp2_with (refine box_m3 rfl rfl hvm ?_; intro w0 m0 hb0; have h0 := h.below hb0; have s0 := hs.below hb0; have hm0 := m0.lt)
    refine region_var (by kernel_rfl) (by kernel_rfl) 14 15 4 (by decide) (by decide) rfl rfl (by kernel_rfl) (by decide) (by kernel_rfl) 28 #[.int .i64 0, .bool false, .bool false, .int .i64 0, .int .i64 0, .bool false] #[.int .i64 P.d, .bool P.b, .bool P.l, .int .i64 P.n, .int .i64 P.x, .bool P.t] rfl [.pointer (some ⟨g, 0, none⟩), .pointer (some ⟨g, 0, none⟩), .pointer (some ⟨g, 0, none⟩), .pointer (some ⟨g, 0, none⟩), .pointer (some ⟨g, 18, none⟩), s.m.p.val, .pointer (some ⟨w.heap.size, 2, none⟩), .int .i64 m.v, .pointer (some ⟨w.heap.size, 0, none⟩), .int .i64 m.t, .tuple #[P.val, .bool false], .tuple #[P.val, .bool false], P.val, .bool false, undef, undef, .bool false] ?step ?alloc ?store ?done
    case step =>
      intro L ix o' A W hn1 hn2 hj hI hB hd
      have hin : ix < 17 := by
        by_cases hl : ix < 17
        · exact hl
        · simp [hl] at hj
      have hsz : A.tmps.size = 31 := hI.size
      rcases ix with _ | ix
      · cases hj
        have e0 : A.eval (.tmp 0) = .pointer (some ⟨g, 0, none⟩) := hI.old 0 (by kernel_rfl)
        exact at_op rfl rfl (move_op rfl ⟨_, rfl, e0, Below.refl _ _⟩)
      rcases ix with _ | ix
      · cases hj
        have e0 : A.eval (.tmp 7) = .pointer (some ⟨g, 0, none⟩) := hI.valV hd 0 7 rfl rfl (by kernel_rfl) (by decide) (by decide)
        exact at_op rfl rfl (nil_op rfl e0 ⟨_, rfl, rfl, Below.refl _ _⟩)
      rcases ix with _ | ix
      · cases hj
        have e0 : A.eval (.tmp 8) = .pointer (some ⟨g, 0, none⟩) := hI.valV hd 1 8 rfl rfl (by kernel_rfl) (by decide) (by decide)
        refine at_op rfl rfl (val_op (v := .pointer (some ⟨g, 0, none⟩)) ?_ ⟨_, rfl, rfl, Below.refl _ _⟩)
        unfold execOp
        simp only [List.getElem_toArray, List.getElem_cons_zero, List.getElem_cons_succ, e0]
        simp [go_sem]
      rcases ix with _ | ix
      · cases hj
        have e0 : A.eval (.tmp 9) = .pointer (some ⟨g, 0, none⟩) := hI.valV hd 2 9 rfl rfl (by kernel_rfl) (by decide) (by decide)
        refine at_op rfl rfl (val_op (v := .pointer (some ⟨g, 0, none⟩)) ?_ ⟨_, rfl, rfl, Below.refl _ _⟩)
        unfold execOp
        simp only [List.getElem_toArray, List.getElem_cons_zero, List.getElem_cons_succ, e0]
        simp [go_sem]
      rcases ix with _ | ix
      · cases hj
        have e0 : A.eval (.tmp 10) = .pointer (some ⟨g, 0, none⟩) := hI.valV hd 3 10 rfl rfl (by kernel_rfl) (by decide) (by decide)
        refine at_op rfl rfl (val_op (v := .pointer (some ⟨g, 18, none⟩)) ?_ ⟨_, rfl, rfl, Below.refl _ _⟩)
        unfold execOp
        simp only [List.getElem_toArray, List.getElem_cons_zero, List.getElem_cons_succ, e0]
        simp [go_sem]
      rcases ix with _ | ix
      · cases hj
        have e0 : A.eval (.tmp 11) = .pointer (some ⟨g, 18, none⟩) := hI.valV hd 4 11 rfl rfl (by kernel_rfl) (by decide) (by decide)
        exact at_op rfl rfl (ldP_op rfl e0 (h0.below hB) ⟨_, rfl, rfl, Below.refl _ _⟩)
      rcases ix with _ | ix
      · cases hj
        have e0 : A.eval (.tmp 3) = .pointer (some ⟨w.heap.size, 0, none⟩) := hI.old 3 (by kernel_rfl)
        refine at_op rfl rfl (val_op (v := .pointer (some ⟨w.heap.size, 2, none⟩)) ?_ ⟨_, rfl, rfl, Below.refl _ _⟩)
        unfold execOp
        simp only [List.getElem_toArray, List.getElem_cons_zero, List.getElem_cons_succ, e0]
        simp [go_sem]
      rcases ix with _ | ix
      · cases hj
        have e0 : A.eval (.tmp 13) = .pointer (some ⟨w.heap.size, 2, none⟩) := hI.valV hd 6 13 rfl rfl (by kernel_rfl) (by decide) (by decide)
        exact at_op rfl rfl (load_op rfl Tryz.underlying2 e0 ((m0.below hB).cell 2) ⟨_, rfl, rfl, Below.refl _ _⟩)
      rcases ix with _ | ix
      · cases hj
        have e0 : A.eval (.tmp 3) = .pointer (some ⟨w.heap.size, 0, none⟩) := hI.old 3 (by kernel_rfl)
        refine at_op rfl rfl (val_op (v := .pointer (some ⟨w.heap.size, 0, none⟩)) ?_ ⟨_, rfl, rfl, Below.refl _ _⟩)
        unfold execOp
        simp only [List.getElem_toArray, List.getElem_cons_zero, List.getElem_cons_succ, e0]
        simp [go_sem]
      rcases ix with _ | ix
      · cases hj
        have e0 : A.eval (.tmp 15) = .pointer (some ⟨w.heap.size, 0, none⟩) := hI.valV hd 8 15 rfl rfl (by kernel_rfl) (by decide) (by decide)
        exact at_op rfl rfl (load_op rfl Tryz.underlying2 e0 ((m0.below hB).cell 0) ⟨_, rfl, rfl, Below.refl _ _⟩)
      rcases ix with _ | ix
      · cases hj
        have e0 : A.eval (.tmp 12) = s.m.p.val := hI.valV hd 5 12 rfl rfl (by kernel_rfl) (by decide) (by decide)
        have e1 : A.eval (.tmp 14) = .int .i64 m.v := hI.valV hd 7 14 rfl rfl (by kernel_rfl) (by decide) (by decide)
        have e2 : A.eval (.tmp 16) = .int .i64 m.t := hI.valV hd 9 16 rfl rfl (by kernel_rfl) (by decide) (by decide)
        refine at_op rfl rfl (call_op rfl Tryz.func165 (by kernel_rfl) (by kernel_rfl) ?_)
        simp only [List.map_cons, List.map_nil, e0, e1, e2]
        refine (serialAnswer_impl s.m.p m.v m.t _).mono ?_
        rw [HP.out]
        rintro e W1 ⟨rfl, hb⟩
        exact ⟨_, rfl, _, rfl, rfl, hb⟩
      rcases ix with _ | ix
      · cases hj
        have e0 : A.eval (.tmp 17) = .tuple #[P.val, .bool false] := hI.valV hd 10 17 rfl rfl (by kernel_rfl) (by decide) (by decide)
        exact at_op rfl rfl (move_op rfl ⟨_, rfl, e0, Below.refl _ _⟩)
      rcases ix with _ | ix
      · cases hj
        have e0 : A.eval (.tmp 6) = .tuple #[P.val, .bool false] := hI.valV hd 11 6 rfl rfl (by kernel_rfl) (by decide) (by decide)
        refine at_op rfl rfl (val_op (v := P.val) ?_ ⟨_, rfl, rfl, Below.refl _ _⟩)
        unfold execOp
        simp only [List.getElem_toArray, List.getElem_cons_zero, List.getElem_cons_succ, e0]
        simp [go_sem]
      rcases ix with _ | ix
      · cases hj
        have e0 : A.eval (.tmp 6) = .tuple #[P.val, .bool false] := hI.valV hd 11 6 rfl rfl (by kernel_rfl) (by decide) (by decide)
        refine at_op rfl rfl (val_op (v := .bool false) ?_ ⟨_, rfl, rfl, Below.refl _ _⟩)
        unfold execOp
        simp only [List.getElem_toArray, List.getElem_cons_zero, List.getElem_cons_succ, e0]
        simp [go_sem]
      rcases ix with _ | ix
      · exact absurd rfl hn1
      rcases ix with _ | ix
      · exact absurd rfl hn2
      rcases ix with _ | ix
      · cases hj
        have e0 : A.eval (.tmp 19) = .bool false := hI.valV hd 13 19 rfl rfl (by kernel_rfl) (by decide) (by decide)
        exact at_op rfl rfl (assign_op rfl ⟨_, rfl, e0, Below.refl _ _⟩)
      omega
    case alloc =>
      intro o' A W hj
      cases hj
      exact at_op rfl rfl (alP_op rfl ⟨rfl, rfl⟩)
    case store =>
      intro L o' A W b cs hj hI hd eb hr hn
      cases hj
      have e0 : A.eval (.tmp 18) = P.val := hI.valV hd 12 18 rfl rfl (by kernel_rfl) (by decide) (by decide)
      exact at_op rfl rfl (stRow_op rfl eb e0 hr info_p hn (by simp [Value.oneCell']) (fun W2 r2 o2 => ⟨rfl, r2, o2⟩))
    case done =>
      intro A W b hI hB eb hr hb
      have s5 : A.tmps.getD 5 undef = .bool false := hI.lastV 16 5 rfl (by decide) (by decide)
      have hA := hI.frame [7, 8, 9, 10, 11, 12, 13, 14, 15, 16, 17, 6, 18, 19, 4, 5] (by kernel_rfl)
      rw [hA]
      simp only [putAll, List.foldl_cons, List.foldl_nil, eb, s5, Act.put, List.setIfInBounds_toArray, List.set_cons_zero, List.set_cons_succ]
      clear hA hI eb s5
      have r1 := h0.below hB
      have s1 := s0.below hB
      have m1 := m0.below hB
      have sB := hB.size
      go_wp2_with (first
        | (refine ld_pp rfl rfl rfl hr ?_)
        | (refine st_gp rfl rfl rfl rfl r1 ?_; rintro w2 r2 o2 -; have s2 := (s1.row o2 r1 plain_g (by decide)).as (s' := s.port P) rfl rfl rfl rfl; have m2 := m1.onto o2 (by omega); have kt2 : w2.cell? ⟨w.heap.size, 0, none⟩ = some (.int .i64 m.t) := m2.cell 0))
      refine ret_unit rfl rfl ?_
      rw [HQ.out]
      exact ⟨rfl, vo, ve, r2, s2, (Mid.of (below_more hb0 hB)).trans (Mid.onto o2)⟩
  · have HQ : Hid (s.arrive m = (s.port P).through m.t) := show _ = _ by unfold St.arrive; rw [if_neg (by omega), if_pos hk, hP]; simp
    have HP : Hid (s.m.p.answer m.v m.t = (P, true)) := hP
    clear hP hk
    go_enter Tryz.func118, Tryz.ntmps118
    go_wp2_with (refine box_m3 rfl rfl hvm ?_; intro w0 m0 hb0; have h0 := h.below hb0; have s0 := hs.below hb0; have hm0 := m0.lt)
    refine region_var (by kernel_rfl) (by kernel_rfl) 14 15 4 (by decide) (by decide) rfl rfl (by kernel_rfl) (by decide) (by kernel_rfl) 28 #[.int .i64 0, .bool false, .bool false, .int .i64 0, .int .i64 0, .bool false] #[.int .i64 P.d, .bool P.b, .bool P.l, .int .i64 P.n, .int .i64 P.x, .bool P.t] rfl [.pointer (some ⟨g, 0, none⟩), .pointer (some ⟨g, 0, none⟩), .pointer (some ⟨g, 0, none⟩), .pointer (some ⟨g, 0, none⟩), .pointer (some ⟨g, 18, none⟩), s.m.p.val, .pointer (some ⟨w.heap.size, 2, none⟩), .int .i64 m.v, .pointer (some ⟨w.heap.size, 0, none⟩), .int .i64 m.t, .tuple #[P.val, .bool true], .tuple #[P.val, .bool true], P.val, .bool true, undef, undef, .bool true] ?step ?alloc ?store ?done
    case step =>
      intro L ix o' A W hn1 hn2 hj hI hB hd
      have hin : ix < 17 := by
        by_cases hl : ix < 17
        · exact hl
        · simp [hl] at hj
      have hsz : A.tmps.size = 31 := hI.size
      rcases ix with _ | ix
      · cases hj
        have e0 : A.eval (.tmp 0) = .pointer (some ⟨g, 0, none⟩) := hI.old 0 (by kernel_rfl)
        exact at_op rfl rfl (move_op rfl ⟨_, rfl, e0, Below.refl _ _⟩)
      rcases ix with _ | ix
      · cases hj
        have e0 : A.eval (.tmp 7) = .pointer (some ⟨g, 0, none⟩) := hI.valV hd 0 7 rfl rfl (by kernel_rfl) (by decide) (by decide)
        exact at_op rfl rfl (nil_op rfl e0 ⟨_, rfl, rfl, Below.refl _ _⟩)
      rcases ix with _ | ix
      · cases hj
        have e0 : A.eval (.tmp 8) = .pointer (some ⟨g, 0, none⟩) := hI.valV hd 1 8 rfl rfl (by kernel_rfl) (by decide) (by decide)
        refine at_op rfl rfl (val_op (v := .pointer (some ⟨g, 0, none⟩)) ?_ ⟨_, rfl, rfl, Below.refl _ _⟩)
        unfold execOp
        simp only [List.getElem_toArray, List.getElem_cons_zero, List.getElem_cons_succ, e0]
        simp [go_sem]
      rcases ix with _ | ix
      · cases hj
        have e0 : A.eval (.tmp 9) = .pointer (some ⟨g, 0, none⟩) := hI.valV hd 2 9 rfl rfl (by kernel_rfl) (by decide) (by decide)
        refine at_op rfl rfl (val_op (v := .pointer (some ⟨g, 0, none⟩)) ?_ ⟨_, rfl, rfl, Below.refl _ _⟩)
        unfold execOp
        simp only [List.getElem_toArray, List.getElem_cons_zero, List.getElem_cons_succ, e0]
        simp [go_sem]
      rcases ix with _ | ix
      · cases hj
        have e0 : A.eval (.tmp 10) = .pointer (some ⟨g, 0, none⟩) := hI.valV hd 3 10 rfl rfl (by kernel_rfl) (by decide) (by decide)
        refine at_op rfl rfl (val_op (v := .pointer (some ⟨g, 18, none⟩)) ?_ ⟨_, rfl, rfl, Below.refl _ _⟩)
        unfold execOp
        simp only [List.getElem_toArray, List.getElem_cons_zero, List.getElem_cons_succ, e0]
        simp [go_sem]
      rcases ix with _ | ix
      · cases hj
        have e0 : A.eval (.tmp 11) = .pointer (some ⟨g, 18, none⟩) := hI.valV hd 4 11 rfl rfl (by kernel_rfl) (by decide) (by decide)
        exact at_op rfl rfl (ldP_op rfl e0 (h0.below hB) ⟨_, rfl, rfl, Below.refl _ _⟩)
      rcases ix with _ | ix
      · cases hj
        have e0 : A.eval (.tmp 3) = .pointer (some ⟨w.heap.size, 0, none⟩) := hI.old 3 (by kernel_rfl)
        refine at_op rfl rfl (val_op (v := .pointer (some ⟨w.heap.size, 2, none⟩)) ?_ ⟨_, rfl, rfl, Below.refl _ _⟩)
        unfold execOp
        simp only [List.getElem_toArray, List.getElem_cons_zero, List.getElem_cons_succ, e0]
        simp [go_sem]
      rcases ix with _ | ix
      · cases hj
        have e0 : A.eval (.tmp 13) = .pointer (some ⟨w.heap.size, 2, none⟩) := hI.valV hd 6 13 rfl rfl (by kernel_rfl) (by decide) (by decide)
        exact at_op rfl rfl (load_op rfl Tryz.underlying2 e0 ((m0.below hB).cell 2) ⟨_, rfl, rfl, Below.refl _ _⟩)
      rcases ix with _ | ix
      · cases hj
        have e0 : A.eval (.tmp 3) = .pointer (some ⟨w.heap.size, 0, none⟩) := hI.old 3 (by kernel_rfl)
        refine at_op rfl rfl (val_op (v := .pointer (some ⟨w.heap.size, 0, none⟩)) ?_ ⟨_, rfl, rfl, Below.refl _ _⟩)
        unfold execOp
        simp only [List.getElem_toArray, List.getElem_cons_zero, List.getElem_cons_succ, e0]
        simp [go_sem]
      rcases ix with _ | ix
      · cases hj
        have e0 : A.eval (.tmp 15) = .pointer (some ⟨w.heap.size, 0, none⟩) := hI.valV hd 8 15 rfl rfl (by kernel_rfl) (by decide) (by decide)
        exact at_op rfl rfl (load_op rfl Tryz.underlying2 e0 ((m0.below hB).cell 0) ⟨_, rfl, rfl, Below.refl _ _⟩)
      rcases ix with _ | ix
      · cases hj
        have e0 : A.eval (.tmp 12) = s.m.p.val := hI.valV hd 5 12 rfl rfl (by kernel_rfl) (by decide) (by decide)
        have e1 : A.eval (.tmp 14) = .int .i64 m.v := hI.valV hd 7 14 rfl rfl (by kernel_rfl) (by decide) (by decide)
        have e2 : A.eval (.tmp 16) = .int .i64 m.t := hI.valV hd 9 16 rfl rfl (by kernel_rfl) (by decide) (by decide)
        refine at_op rfl rfl (call_op rfl Tryz.func165 (by kernel_rfl) (by kernel_rfl) ?_)
        simp only [List.map_cons, List.map_nil, e0, e1, e2]
        refine (serialAnswer_impl s.m.p m.v m.t _).mono ?_
        rw [HP.out]
        rintro e W1 ⟨rfl, hb⟩
        exact ⟨_, rfl, _, rfl, rfl, hb⟩
      rcases ix with _ | ix
      · cases hj
        have e0 : A.eval (.tmp 17) = .tuple #[P.val, .bool true] := hI.valV hd 10 17 rfl rfl (by kernel_rfl) (by decide) (by decide)
        exact at_op rfl rfl (move_op rfl ⟨_, rfl, e0, Below.refl _ _⟩)
      rcases ix with _ | ix
      · cases hj
        have e0 : A.eval (.tmp 6) = .tuple #[P.val, .bool true] := hI.valV hd 11 6 rfl rfl (by kernel_rfl) (by decide) (by decide)
        refine at_op rfl rfl (val_op (v := P.val) ?_ ⟨_, rfl, rfl, Below.refl _ _⟩)
        unfold execOp
        simp only [List.getElem_toArray, List.getElem_cons_zero, List.getElem_cons_succ, e0]
        simp [go_sem]
      rcases ix with _ | ix
      · cases hj
        have e0 : A.eval (.tmp 6) = .tuple #[P.val, .bool true] := hI.valV hd 11 6 rfl rfl (by kernel_rfl) (by decide) (by decide)
        refine at_op rfl rfl (val_op (v := .bool true) ?_ ⟨_, rfl, rfl, Below.refl _ _⟩)
        unfold execOp
        simp only [List.getElem_toArray, List.getElem_cons_zero, List.getElem_cons_succ, e0]
        simp [go_sem]
      rcases ix with _ | ix
      · exact absurd rfl hn1
      rcases ix with _ | ix
      · exact absurd rfl hn2
      rcases ix with _ | ix
      · cases hj
        have e0 : A.eval (.tmp 19) = .bool true := hI.valV hd 13 19 rfl rfl (by kernel_rfl) (by decide) (by decide)
        exact at_op rfl rfl (assign_op rfl ⟨_, rfl, e0, Below.refl _ _⟩)
      omega
    case alloc =>
      intro o' A W hj
      cases hj
      exact at_op rfl rfl (alP_op rfl ⟨rfl, rfl⟩)
    case store =>
      intro L o' A W b cs hj hI hd eb hr hn
      cases hj
      have e0 : A.eval (.tmp 18) = P.val := hI.valV hd 12 18 rfl rfl (by kernel_rfl) (by decide) (by decide)
      exact at_op rfl rfl (stRow_op rfl eb e0 hr info_p hn (by simp [Value.oneCell']) (fun W2 r2 o2 => ⟨rfl, r2, o2⟩))
    case done =>
      intro A W b hI hB eb hr hb
      have s5 : A.tmps.getD 5 undef = .bool true := hI.lastV 16 5 rfl (by decide) (by decide)
      have hA := hI.frame [7, 8, 9, 10, 11, 12, 13, 14, 15, 16, 17, 6, 18, 19, 4, 5] (by kernel_rfl)
      rw [hA]
      simp only [putAll, List.foldl_cons, List.foldl_nil, eb, s5, Act.put, List.setIfInBounds_toArray, List.set_cons_zero, List.set_cons_succ]
      clear hA hI eb s5
      have r1 := h0.below hB
      have s1 := s0.below hB
      have m1 := m0.below hB
      have sB := hB.size
      go_wp2_with (first
        | (refine ld_pp rfl rfl rfl hr ?_)
        | (refine st_gp rfl rfl rfl rfl r1 ?_; rintro w2 r2 o2 -; have s2 := (s1.row o2 r1 plain_g (by decide)).as (s' := s.port P) rfl rfl rfl rfl; have m2 := m1.onto o2 (by omega); have kt2 : w2.cell? ⟨w.heap.size, 0, none⟩ = some (.int .i64 m.t) := m2.cell 0)
        | (go_at_call 164; refine (byteThrough_impl m.t r2 s2 hl2).mono ?_; rintro e w4 ⟨rfl, vo4, ve4, r4, s4, M4⟩))
      refine ret_unit rfl rfl ?_
      rw [HQ.out]
      exact ⟨rfl, vo4, ve4, r4, s4, ((Mid.of (below_more hb0 hB)).trans (Mid.onto o2)).trans M4⟩
set_option maxHeartbeats 1000000 in
theorem passTime_impl (h : GRow w g x y vo ve vi s co fin) (hs : So base w x y vo ve s) :
    Calls Tryz.prog 54 #[.pointer (some ⟨g, 0, none⟩)] w fun e w' => e = .returned (.tuple #[]) ∧ Gd base g w w' x y vi co fin (s.closed co fin) := by
  obtain ⟨TA, RD, hTA⟩ : ∃ TA RD, s.m.t.after co = (TA, RD) := ⟨_, _, rfl⟩
  have hgl := h.lt
  have HT : Hid (s.m.t.after co = (TA, RD)) := hTA
  by_cases hrd : 0 < RD
  · have HQ : Hid (s.closed co fin = { s with m := { s.m with t := TA, k := fin, fl := bits .or .i64 s.m.fl 1 } }) := show _ = _ by unfold St.closed; rw [hTA, if_pos hrd]
    clear hTA
    go_enter Tryz.func54, Tryz.ntmps54
    go_wp2_with fail
    refine region_var (by kernel_rfl) (by kernel_rfl) 14 15 2 (by decide) (by decide) rfl rfl (by kernel_rfl) (by decide) (by kernel_rfl) 26 #[.int .i64 0, .int .i64 0, .int .i64 0, .int .i64 0] #[.int .i64 TA.c, .int .i64 TA.v, .int .i64 TA.s, .int .i64 TA.m] rfl [.pointer (some ⟨g, 0, none⟩), .pointer (some ⟨g, 0, none⟩), .pointer (some ⟨g, 0, none⟩), .pointer (some ⟨g, 0, none⟩), .pointer (some ⟨g, 14, none⟩), s.m.t.val, .pointer (some ⟨g, 0, none⟩), .pointer (some ⟨g, 0, none⟩), .pointer (some ⟨g, 29, none⟩), .int .i64 co, .tuple #[TA.val, .int .i64 RD], .tuple #[TA.val, .int .i64 RD], TA.val, .int .i64 RD, undef, undef, .int .i64 RD] ?step ?alloc ?store ?done
    case step =>
      intro L ix o' A W hn1 hn2 hj hI hB hd
      have hin : ix < 17 := by
        by_cases hl : ix < 17
        · exact hl
        · simp [hl] at hj
      have hsz : A.tmps.size = 37 := hI.size
      rcases ix with _ | ix
      · cases hj
        have e0 : A.eval (.tmp 0) = .pointer (some ⟨g, 0, none⟩) := hI.old 0 (by kernel_rfl)
        exact at_op rfl rfl (move_op rfl ⟨_, rfl, e0, Below.refl _ _⟩)
      rcases ix with _ | ix
      · cases hj
        have e0 : A.eval (.tmp 5) = .pointer (some ⟨g, 0, none⟩) := hI.valV hd 0 5 rfl rfl (by kernel_rfl) (by decide) (by decide)
        exact at_op rfl rfl (nil_op rfl e0 ⟨_, rfl, rfl, Below.refl _ _⟩)
      rcases ix with _ | ix
      · cases hj
        have e0 : A.eval (.tmp 6) = .pointer (some ⟨g, 0, none⟩) := hI.valV hd 1 6 rfl rfl (by kernel_rfl) (by decide) (by decide)
        refine at_op rfl rfl (val_op (v := .pointer (some ⟨g, 0, none⟩)) ?_ ⟨_, rfl, rfl, Below.refl _ _⟩)
        unfold execOp
        simp only [List.getElem_toArray, List.getElem_cons_zero, List.getElem_cons_succ, e0]
        simp [go_sem]
      rcases ix with _ | ix
      · cases hj
        have e0 : A.eval (.tmp 7) = .pointer (some ⟨g, 0, none⟩) := hI.valV hd 2 7 rfl rfl (by kernel_rfl) (by decide) (by decide)
        refine at_op rfl rfl (val_op (v := .pointer (some ⟨g, 0, none⟩)) ?_ ⟨_, rfl, rfl, Below.refl _ _⟩)
        unfold execOp
        simp only [List.getElem_toArray, List.getElem_cons_zero, List.getElem_cons_succ, e0]
        simp [go_sem]
      rcases ix with _ | ix
      · cases hj
        have e0 : A.eval (.tmp 8) = .pointer (some ⟨g, 0, none⟩) := hI.valV hd 3 8 rfl rfl (by kernel_rfl) (by decide) (by decide)
        refine at_op rfl rfl (val_op (v := .pointer (some ⟨g, 14, none⟩)) ?_ ⟨_, rfl, rfl, Below.refl _ _⟩)
        unfold execOp
        simp only [List.getElem_toArray, List.getElem_cons_zero, List.getElem_cons_succ, e0]
        simp [go_sem]
      rcases ix with _ | ix
      · cases hj
        have e0 : A.eval (.tmp 9) = .pointer (some ⟨g, 14, none⟩) := hI.valV hd 4 9 rfl rfl (by kernel_rfl) (by decide) (by decide)
        exact at_op rfl rfl (ldT_op rfl e0 (h.below hB) ⟨_, rfl, rfl, Below.refl _ _⟩)
      rcases ix with _ | ix
      · cases hj
        have e0 : A.eval (.tmp 0) = .pointer (some ⟨g, 0, none⟩) := hI.old 0 (by kernel_rfl)
        exact at_op rfl rfl (move_op rfl ⟨_, rfl, e0, Below.refl _ _⟩)
      rcases ix with _ | ix
      · cases hj
        have e0 : A.eval (.tmp 11) = .pointer (some ⟨g, 0, none⟩) := hI.valV hd 6 11 rfl rfl (by kernel_rfl) (by decide) (by decide)
        exact at_op rfl rfl (nil_op rfl e0 ⟨_, rfl, rfl, Below.refl _ _⟩)
      rcases ix with _ | ix
      · cases hj
        have e0 : A.eval (.tmp 12) = .pointer (some ⟨g, 0, none⟩) := hI.valV hd 7 12 rfl rfl (by kernel_rfl) (by decide) (by decide)
        refine at_op rfl rfl (val_op (v := .pointer (some ⟨g, 29, none⟩)) ?_ ⟨_, rfl, rfl, Below.refl _ _⟩)
        unfold execOp
        simp only [List.getElem_toArray, List.getElem_cons_zero, List.getElem_cons_succ, e0]
        simp [go_sem]
      rcases ix with _ | ix
      · cases hj
        have e0 : A.eval (.tmp 13) = .pointer (some ⟨g, 29, none⟩) := hI.valV hd 8 13 rfl rfl (by kernel_rfl) (by decide) (by decide)
        exact at_op rfl rfl (load_op rfl Tryz.underlying2 e0 (gc (h.below hB)).co ⟨_, rfl, rfl, Below.refl _ _⟩)
      rcases ix with _ | ix
      · cases hj
        have e0 : A.eval (.tmp 10) = s.m.t.val := hI.valV hd 5 10 rfl rfl (by kernel_rfl) (by decide) (by decide)
        have e1 : A.eval (.tmp 14) = .int .i64 co := hI.valV hd 9 14 rfl rfl (by kernel_rfl) (by decide) (by decide)
        refine at_op rfl rfl (call_op rfl Tryz.func120 (by kernel_rfl) (by kernel_rfl) ?_)
        simp only [List.map_cons, List.map_nil, e0, e1]
        refine (timerAfter_impl s.m.t co _).mono ?_
        rw [HT.out]
        rintro e W1 ⟨rfl, hb⟩
        exact ⟨_, rfl, _, rfl, rfl, hb⟩
      rcases ix with _ | ix
      · cases hj
        have e0 : A.eval (.tmp 15) = .tuple #[TA.val, .int .i64 RD] := hI.valV hd 10 15 rfl rfl (by kernel_rfl) (by decide) (by decide)
        exact at_op rfl rfl (move_op rfl ⟨_, rfl, e0, Below.refl _ _⟩)
      rcases ix with _ | ix
      · cases hj
        have e0 : A.eval (.tmp 4) = .tuple #[TA.val, .int .i64 RD] := hI.valV hd 11 4 rfl rfl (by kernel_rfl) (by decide) (by decide)
        refine at_op rfl rfl (val_op (v := TA.val) ?_ ⟨_, rfl, rfl, Below.refl _ _⟩)
        unfold execOp
        simp only [List.getElem_toArray, List.getElem_cons_zero, List.getElem_cons_succ, e0]
        simp [go_sem]
      rcases ix with _ | ix
      · cases hj
        have e0 : A.eval (.tmp 4) = .tuple #[TA.val, .int .i64 RD] := hI.valV hd 11 4 rfl rfl (by kernel_rfl) (by decide) (by decide)
        refine at_op rfl rfl (val_op (v := .int .i64 RD) ?_ ⟨_, rfl, rfl, Below.refl _ _⟩)
        unfold execOp
        simp only [List.getElem_toArray, List.getElem_cons_zero, List.getElem_cons_succ, e0]
        simp [go_sem]
      rcases ix with _ | ix
      · exact absurd rfl hn1
      rcases ix with _ | ix
      · exact absurd rfl hn2
      rcases ix with _ | ix
      · cases hj
        have e0 : A.eval (.tmp 17) = .int .i64 RD := hI.valV hd 13 17 rfl rfl (by kernel_rfl) (by decide) (by decide)
        exact at_op rfl rfl (assign_op rfl ⟨_, rfl, e0, Below.refl _ _⟩)
      omega
    case alloc =>
      intro o' A W hj
      cases hj
      exact at_op rfl rfl (alT_op rfl ⟨rfl, rfl⟩)
    case store =>
      intro L o' A W b cs hj hI hd eb hr hn
      cases hj
      have e0 : A.eval (.tmp 16) = TA.val := hI.valV hd 12 16 rfl rfl (by kernel_rfl) (by decide) (by decide)
      exact at_op rfl rfl (stRow_op rfl eb e0 hr info_t hn (by simp [Value.oneCell']) (fun W2 r2 o2 => ⟨rfl, r2, o2⟩))
    case done =>
      intro A W b hI hB eb hr hb
      have s3 : A.tmps.getD 3 undef = .int .i64 RD := hI.lastV 16 3 rfl (by decide) (by decide)
      have hA := hI.frame [5, 6, 7, 8, 9, 10, 11, 12, 13, 14, 15, 4, 16, 17, 2, 3] (by kernel_rfl)
      rw [hA]
      simp only [putAll, List.foldl_cons, List.foldl_nil, eb, s3, Act.put, List.setIfInBounds_toArray, List.set_cons_zero, List.set_cons_succ]
      clear hA hI eb s3
      have r1 := h.below hB
      have s1 := hs.below hB
      go_wp2_with (first
        | (refine ld_tt rfl rfl rfl hr ?_)
        | (refine st_gt rfl rfl rfl rfl r1 ?_; rintro w2 r2 o2 -; have s2 := (s1.row o2 r1 plain_g (by decide)).as (s' := { s with m := { s.m with t := TA } }) rfl rfl rfl rfl; have kf2 := (gc r2).fin)
        | (go_at_call 119; refine (raise_impl 0 1 (by simp) (by decide) r2).mono ?_; rintro e w3 ⟨rfl, r3, o3⟩; have s3 := (s2.row o3 r2 plain_g (by decide)).as (s' := { s with m := { s.m with t := TA, fl := bits .or .i64 s.m.fl 1 } }) rfl rfl rfl rfl; have kf3 := (gc r3).fin; clear kf2)
        | (refine st_gn (s' := { s with m := { s.m with t := TA, k := fin, fl := bits .or .i64 s.m.fl 1 } }) rfl rfl rfl rfl r3 rfl rfl ?_; rintro w4 r4 o4 -; have s4 := (s3.row o4 r3 plain_g (by decide)).as (s' := { s with m := { s.m with t := TA, k := fin, fl := bits .or .i64 s.m.fl 1 } }) rfl rfl rfl rfl))
      refine ret_unit rfl rfl ?_
      rw [HQ.out]
      exact ⟨rfl, vo, ve, r4, s4, (((Mid.of hB).trans (Mid.onto o2)).trans (Mid.onto o3)).trans (Mid.onto o4)⟩
  · have HQ : Hid (s.closed co fin = { s with m := { s.m with t := TA, k := fin } }) := show _ = _ by unfold St.closed; rw [hTA, if_neg hrd]
    clear hTA
    go_enter Tryz.func54, Tryz.ntmps54
    go_wp2_with fail
    refine region_var (by kernel_rfl) (by kernel_rfl) 14 15 2 (by decide) (by decide) rfl rfl (by kernel_rfl) (by decide) (by kernel_rfl) 26 #[.int .i64 0, .int .i64 0, .int .i64 0, .int .i64 0] #[.int .i64 TA.c, .int .i64 TA.v, .int .i64 TA.s, .int .i64 TA.m] rfl [.pointer (some ⟨g, 0, none⟩), .pointer (some ⟨g, 0, none⟩), .pointer (some ⟨g, 0, none⟩), .pointer (some ⟨g, 0, none⟩), .pointer (some ⟨g, 14, none⟩), s.m.t.val, .pointer (some ⟨g, 0, none⟩), .pointer (some ⟨g, 0, none⟩), .pointer (some ⟨g, 29, none⟩), .int .i64 co, .tuple #[TA.val, .int .i64 RD], .tuple #[TA.val, .int .i64 RD], TA.val, .int .i64 RD, undef, undef, .int .i64 RD] ?step ?alloc ?store ?done
    case step =>
      intro L ix o' A W hn1 hn2 hj hI hB hd
      have hin : ix < 17 := by
        by_cases hl : ix < 17
        · exact hl
        · simp [hl] at hj
      have hsz : A.tmps.size = 37 := hI.size
      rcases ix with _ | ix
      · cases hj
        have e0 : A.eval (.tmp 0) = .pointer (some ⟨g, 0, none⟩) := hI.old 0 (by kernel_rfl)
        exact at_op rfl rfl (move_op rfl ⟨_, rfl, e0, Below.refl _ _⟩)
      rcases ix with _ | ix
      · cases hj
        have e0 : A.eval (.tmp 5) = .pointer (some ⟨g, 0, none⟩) := hI.valV hd 0 5 rfl rfl (by kernel_rfl) (by decide) (by decide)
        exact at_op rfl rfl (nil_op rfl e0 ⟨_, rfl, rfl, Below.refl _ _⟩)
      rcases ix with _ | ix
      · cases hj
        have e0 : A.eval (.tmp 6) = .pointer (some ⟨g, 0, none⟩) := hI.valV hd 1 6 rfl rfl (by kernel_rfl) (by decide) (by decide)
        refine at_op rfl rfl (val_op (v := .pointer (some ⟨g, 0, none⟩)) ?_ ⟨_, rfl, rfl, Below.refl _ _⟩)
        unfold execOp
        simp only [List.getElem_toArray, List.getElem_cons_zero, List.getElem_cons_succ, e0]
        simp [go_sem]
      rcases ix with _ | ix
      · cases hj
        have e0 : A.eval (.tmp 7) = .pointer (some ⟨g, 0, none⟩) := hI.valV hd 2 7 rfl rfl (by kernel_rfl) (by decide) (by decide)
        refine at_op rfl rfl (val_op (v := .pointer (some ⟨g, 0, none⟩)) ?_ ⟨_, rfl, rfl, Below.refl _ _⟩)
        unfold execOp
        simp only [List.getElem_toArray, List.getElem_cons_zero, List.getElem_cons_succ, e0]
        simp [go_sem]
      rcases ix with _ | ix
      · cases hj
        have e0 : A.eval (.tmp 8) = .pointer (some ⟨g, 0, none⟩) := hI.valV hd 3 8 rfl rfl (by kernel_rfl) (by decide) (by decide)
        refine at_op rfl rfl (val_op (v := .pointer (some ⟨g, 14, none⟩)) ?_ ⟨_, rfl, rfl, Below.refl _ _⟩)
        unfold execOp
        simp only [List.getElem_toArray, List.getElem_cons_zero, List.getElem_cons_succ, e0]
        simp [go_sem]
      rcases ix with _ | ix
      · cases hj
        have e0 : A.eval (.tmp 9) = .pointer (some ⟨g, 14, none⟩) := hI.valV hd 4 9 rfl rfl (by kernel_rfl) (by decide) (by decide)
        exact at_op rfl rfl (ldT_op rfl e0 (h.below hB) ⟨_, rfl, rfl, Below.refl _ _⟩)
      rcases ix with _ | ix
      · cases hj
        have e0 : A.eval (.tmp 0) = .pointer (some ⟨g, 0, none⟩) := hI.old 0 (by kernel_rfl)
        exact at_op rfl rfl (move_op rfl ⟨_, rfl, e0, Below.refl _ _⟩)
      rcases ix with _ | ix
      · cases hj
        have e0 : A.eval (.tmp 11) = .pointer (some ⟨g, 0, none⟩) := hI.valV hd 6 11 rfl rfl (by kernel_rfl) (by decide) (by decide)
        exact at_op rfl rfl (nil_op rfl e0 ⟨_, rfl, rfl, Below.refl _ _⟩)
      rcases ix with _ | ix
      · cases hj
        have e0 : A.eval (.tmp 12) = .pointer (some ⟨g, 0, none⟩) := hI.valV hd 7 12 rfl rfl (by kernel_rfl) (by decide) (by decide)
        refine at_op rfl rfl (val_op (v := .pointer (some ⟨g, 29, none⟩)) ?_ ⟨_, rfl, rfl, Below.refl _ _⟩)
        unfold execOp
        simp only [List.getElem_toArray, List.getElem_cons_zero, List.getElem_cons_succ, e0]
        simp [go_sem]
      rcases ix with _ | ix
      · cases hj
        have e0 : A.eval (.tmp 13) = .pointer (some ⟨g, 29, none⟩) := hI.valV hd 8 13 rfl rfl (by kernel_rfl) (by decide) (by decide)
        exact at_op rfl rfl (load_op rfl Tryz.underlying2 e0 (gc (h.below hB)).co ⟨_, rfl, rfl, Below.refl _ _⟩)
      rcases ix with _ | ix
      · cases hj
        have e0 : A.eval (.tmp 10) = s.m.t.val := hI.valV hd 5 10 rfl rfl (by kernel_rfl) (by decide) (by decide)
        have e1 : A.eval (.tmp 14) = .int .i64 co := hI.valV hd 9 14 rfl rfl (by kernel_rfl) (by decide) (by decide)
        refine at_op rfl rfl (call_op rfl Tryz.func120 (by kernel_rfl) (by kernel_rfl) ?_)
        simp only [List.map_cons, List.map_nil, e0, e1]
        refine (timerAfter_impl s.m.t co _).mono ?_
        rw [HT.out]
        rintro e W1 ⟨rfl, hb⟩
        exact ⟨_, rfl, _, rfl, rfl, hb⟩
      rcases ix with _ | ix
      · cases hj
        have e0 : A.eval (.tmp 15) = .tuple #[TA.val, .int .i64 RD] := hI.valV hd 10 15 rfl rfl (by kernel_rfl) (by decide) (by decide)
        exact at_op rfl rfl (move_op rfl ⟨_, rfl, e0, Below.refl _ _⟩)
      rcases ix with _ | ix
      · cases hj
        have e0 : A.eval (.tmp 4) = .tuple #[TA.val, .int .i64 RD] := hI.valV hd 11 4 rfl rfl (by kernel_rfl) (by decide) (by decide)
        refine at_op rfl rfl (val_op (v := TA.val) ?_ ⟨_, rfl, rfl, Below.refl _ _⟩)
        unfold execOp
        simp only [List.getElem_toArray, List.getElem_cons_zero, List.getElem_cons_succ, e0]
        simp [go_sem]
      rcases ix with _ | ix
      · cases hj
        have e0 : A.eval (.tmp 4) = .tuple #[TA.val, .int .i64 RD] := hI.valV hd 11 4 rfl rfl (by kernel_rfl) (by decide) (by decide)
        refine at_op rfl rfl (val_op (v := .int .i64 RD) ?_ ⟨_, rfl, rfl, Below.refl _ _⟩)
        unfold execOp
        simp only [List.getElem_toArray, List.getElem_cons_zero, List.getElem_cons_succ, e0]
        simp [go_sem]
      rcases ix with _ | ix
      · exact absurd rfl hn1
      rcases ix with _ | ix
      · exact absurd rfl hn2
      rcases ix with _ | ix
      · cases hj
        have e0 : A.eval (.tmp 17) = .int .i64 RD := hI.valV hd 13 17 rfl rfl (by kernel_rfl) (by decide) (by decide)
        exact at_op rfl rfl (assign_op rfl ⟨_, rfl, e0, Below.refl _ _⟩)
      omega
    case alloc =>
      intro o' A W hj
      cases hj
      exact at_op rfl rfl (alT_op rfl ⟨rfl, rfl⟩)
    case store =>
      intro L o' A W b cs hj hI hd eb hr hn
      cases hj
      have e0 : A.eval (.tmp 16) = TA.val := hI.valV hd 12 16 rfl rfl (by kernel_rfl) (by decide) (by decide)
      exact at_op rfl rfl (stRow_op rfl eb e0 hr info_t hn (by simp [Value.oneCell']) (fun W2 r2 o2 => ⟨rfl, r2, o2⟩))
    case done =>
      intro A W b hI hB eb hr hb
      have s3 : A.tmps.getD 3 undef = .int .i64 RD := hI.lastV 16 3 rfl (by decide) (by decide)
      have hA := hI.frame [5, 6, 7, 8, 9, 10, 11, 12, 13, 14, 15, 4, 16, 17, 2, 3] (by kernel_rfl)
      rw [hA]
      simp only [putAll, List.foldl_cons, List.foldl_nil, eb, s3, Act.put, List.setIfInBounds_toArray, List.set_cons_zero, List.set_cons_succ]
      clear hA hI eb s3
      have r1 := h.below hB
      have s1 := hs.below hB
      go_wp2_with (first
        | (refine ld_tt rfl rfl rfl hr ?_)
        | (refine st_gt rfl rfl rfl rfl r1 ?_; rintro w2 r2 o2 -; have s2 := (s1.row o2 r1 plain_g (by decide)).as (s' := { s with m := { s.m with t := TA } }) rfl rfl rfl rfl; have kf2 := (gc r2).fin)
        | (refine st_gn (s' := { s with m := { s.m with t := TA, k := fin } }) rfl rfl rfl rfl r2 rfl rfl ?_; rintro w4 r4 o4 -; have s4 := (s2.row o4 r2 plain_g (by decide)).as (s' := { s with m := { s.m with t := TA, k := fin } }) rfl rfl rfl rfl))
      refine ret_unit rfl rfl ?_
      rw [HQ.out]
      exact ⟨rfl, vo, ve, r4, s4, ((Mid.of hB).trans (Mid.onto o2)).trans (Mid.onto o4)⟩
end
end Go.Proofs.YtghmkacamabndaaGreatDoor.Mem
namespace Go.Proofs.YtghmkacamabndaaGreatDoor.Mem
open Go.ChangeShapes Go.WideShapes Go.RowKit Base Num Slc Slf Rw Tmr Reg

def fnv (f : FuncId) : Value := .func (.func f) #[] #[]
section
variable {ops : Array Oper} {rest : List Oper} {o : Oper} {a : Act} {w : World} {K : Act → World → Prop} {Q : Exit → Act → World → Prop} {f : FuncId} {fn : Func} {x : Operand} {tys : Array TypeId}
theorem callv_op {args : List Operand} (ho : o.op = .call { callee := .value x, args := args.toArray, argTypes := tys }) (hx : a.eval x = fnv f) (hf : Tryz.prog.funcs[f]? = some fn) (hn : (fn.name == "runtime.NumGoroutine") = false) (hb : fn.body.isNone = false)
    (h : Calls Tryz.prog f (args.map a.eval).toArray w fun e w' => ∃ v, e = .returned v ∧ K (a.put o.dst v) w') : o.wp Tryz.prog a w K Q := by
  unfold Oper.wp execOp
  have hn' : ¬ fn.name = "runtime.NumGoroutine" := by simpa using hn
  have hb' : ¬ fn.body = none := fun e => by simp [e] at hb
  have e : (do let d ← resolve a.eval { callee := .value x, args := args.toArray, argTypes := tys } o.type; invoke d.target d.args : Sem Next).run Tryz.prog w = .ok (.enter f (args.map a.eval).toArray) w := by
    simp [resolve, hx, fnv, Deferred.ofValue, invoke, callFunc, hf, hn', hb']
  rw [ho]
  show o.upon Tryz.prog a _ Q ((do let d ← resolve a.eval { callee := .value x, args := args.toArray, argTypes := tys } o.type; invoke d.target d.args : Sem Next).run Tryz.prog w)
  rw [e, Oper.upon_enter]
  refine h.mono ?_
  rintro e w' ⟨v, rfl, hk⟩
  exact hk
theorem callv {args : List Operand} (hgd : o.guard = none) (ho : o.op = .call { callee := .value x, args := args.toArray, argTypes := tys }) (hx : a.eval x = fnv f) (hf : Tryz.prog.funcs[f]? = some fn) (hn : (fn.name == "runtime.NumGoroutine") = false) (hb : fn.body.isNone = false)
    (h : Calls Tryz.prog f (args.map a.eval).toArray w fun e w' => ∃ v, e = .returned v ∧ wpList Tryz.prog ops Q rest (a.put o.dst v) w') : wpList Tryz.prog ops Q (o :: rest) a w :=
  wpList_plain hgd fun K' hK => callv_op ho hx hf hn hb (h.mono fun e w' ⟨v, hv, hk⟩ => ⟨v, hv, hK _ _ hk⟩)
end
def cmp3 (a b : Int) : Int := if a < b then -1 else if b < a then 1 else 0
def ord (a b : M3) : Int := if cmp3 a.t b.t = 0 then cmp3 a.k b.k else cmp3 a.t b.t
theorem ord_neg (a b : M3) : decide (ord a b < 0) = later b a := by
  rw [Bool.eq_iff_iff]
  unfold ord cmp3 later
  simp only [decide_eq_true_eq, Bool.or_eq_true, Bool.and_eq_true, beq_iff_eq]
  repeat' split
  all_goals omega
theorem isNaN_any (n : Int) (w : World) : Calls Tryz.prog 180 #[.int .i64 n] w fun e w' => e = .returned (.bool false) ∧ w' = w := by
  go_enter Tryz.func180, Tryz.ntmps180
  go_wp2
  go_ret
  exact ⟨ret_bool (by simp), rfl⟩
theorem compare_any (a b : Int) (w : World) : Calls Tryz.prog 136 #[.int .i64 a, .int .i64 b] w fun e w' => e = .returned (.int .i64 (cmp3 a b)) ∧ w' = w := by
  have HC : Hid (cmp3 a b = if a < b then -1 else if b < a then 1 else 0) := show _ = _ from rfl
  generalize cmp3 a b = r at HC ⊢
  by_cases h1 : a < b
  · go_enter Tryz.func136, Tryz.ntmps136
    go_wp2_with (go_at_call 180; refine (isNaN_any _ _).mono ?_; rintro e w1 ⟨rfl, rfl⟩)
    go_ret
    exact ⟨ret_int (by rw [HC.out]; split <;> (try split) <;> omega), rfl⟩
  · by_cases h2 : b < a
    · go_enter Tryz.func136, Tryz.ntmps136
      go_wp2_with (go_at_call 180; refine (isNaN_any _ _).mono ?_; rintro e w1 ⟨rfl, rfl⟩)
      go_ret
      exact ⟨ret_int (by rw [HC.out]; split <;> (try split) <;> omega), rfl⟩
    · go_enter Tryz.func136, Tryz.ntmps136
      go_wp2_with (go_at_call 180; refine (isNaN_any _ _).mono ?_; rintro e w1 ⟨rfl, rfl⟩)
      go_ret
      exact ⟨ret_int (by rw [HC.out]; split <;> (try split) <;> omega), rfl⟩
def KTwo (x y : Int) (v : Value) (w : World) : Prop := ∃ b, v = .slice (some ⟨b, 0, none⟩) 2 2 ∧ w.cell? ⟨b, 0, none⟩ = some (.int .i64 x) ∧ w.cell? ⟨b, 1, none⟩ = some (.int .i64 y)
theorem bears_two (x y : Int) : Bears (fun _ => False) (KTwo x y) := fun v w w' ⟨b, e, h0, h1⟩ hr => by
  have hb := hr.2 b id (cell_lt h0)
  exact ⟨b, e, by rw [World.cell?_of_block (w := w) (a := ⟨b, 0, none⟩) hb]; exact h0, by rw [World.cell?_of_block (w := w) (a := ⟨b, 1, none⟩) hb]; exact h1⟩
theorem or_two (x y : Int) (b : Nat) (w : World) (h0 : w.cell? ⟨b, 0, none⟩ = some (.int .i64 x)) (h1 : w.cell? ⟨b, 1, none⟩ = some (.int .i64 y)) :
    Calls Tryz.prog 135 #[.slice (some ⟨b, 0, none⟩) 2 2] w fun e w' => e = .returned (.int .i64 (if x = 0 then y else x)) ∧ w' = w := by
  by_cases hx : x = 0
  · rw [if_pos hx]
    by_cases hy : y = 0
    · subst hx hy
      go_enter Tryz.func135, Tryz.ntmps135
      go_wp2
      refine wp_loop_rounds 3 ?_
      rw [rounds_succ]
      go_wp2
      rw [rounds_succ]
      go_wp2
      rw [rounds_succ]
      go_wp2
      go_ret
      exact ⟨rfl, rfl⟩
    · subst hx
      have hy' : (y != 0) = true := by simpa using hy
      go_enter Tryz.func135, Tryz.ntmps135
      go_wp2
      refine wp_loop_rounds 2 ?_
      rw [rounds_succ]
      go_wp2
      rw [rounds_succ]
      go_wp2
      go_ret
      exact ⟨rfl, rfl⟩
  · rw [if_neg hx]
    have hx' : (x != 0) = true := by simpa using hx
    go_enter Tryz.func135, Tryz.ntmps135
    go_wp2
    refine wp_loop_rounds 1 ?_
    rw [rounds_succ]
    go_wp2
    go_ret
    exact ⟨rfl, rfl⟩
structure Gt (w : World) (g0 g1 : Nat) (a b : M3) (W : World) : Prop where
  ra : M3Row W g0 a
  rb : M3Row W g1 b
  bel : Below w.heap.size w W
theorem Gt.below {w W W' : World} {g0 g1 : Nat} {a b : M3} (h : Gt w g0 g1 a b W) (hb : Below W.heap.size W W') : Gt w g0 g1 a b W' := ⟨h.ra.below hb, h.rb.below hb, below_more h.bel hb⟩
theorem Gt.drew {w W : World} {g0 g1 : Nat} {a b : M3} (h : Gt w g0 g1 a b W) : Gt w g0 g1 a b W.drew := h.below (drew_below (n := 1) rfl)
theorem infoI : (Tryz.prog.info? 3).map (fun i => (i.zero, i.size, i.bytes)) = some (some (.int .i64 0), 1, 8) := by kernel_rfl
theorem undI : Tryz.prog.underlying 182 = some (.slice 3) := by kernel_rfl
theorem byTime_impl (a b : M3) (w : World) : Calls Tryz.prog 65 #[a.val, b.val] w fun e w' => e = .returned (.int .i64 (ord a b)) ∧ Below w.heap.size w w' := by
  obtain ⟨va, hva⟩ : ∃ va, va = a.val := ⟨_, rfl⟩
  obtain ⟨vb, hvb⟩ : ∃ vb, vb = b.val := ⟨_, rfl⟩
  rw [← hva, ← hvb]
  go_enter Tryz.func65, Tryz.ntmps65
  go_wp2_with (first
    | (refine box_m3 rfl rfl hva ?_; intro w0 r0 hB0)
    | (refine box_m3 rfl rfl hvb ?_; intro w1 r1 hB1; have hG : Gt w w.heap.size w0.heap.size a b w1 := ⟨r0.below hB1, r1, below_more hB0 hB1⟩))
  refine region_by (by kernel_rfl) (by kernel_rfl) (fun W => Gt w w.heap.size w0.heap.size a b W) (kinds [KIs (.pointer (some ⟨w.heap.size, 0, none⟩)), KIs (.int .i64 (a.t)), KIs (.pointer (some ⟨w0.heap.size, 0, none⟩)), KIs (.int .i64 (b.t)), KIs (.int .i64 (cmp3 a.t b.t)), KIs (.pointer (some ⟨w.heap.size, 1, none⟩)), KIs (.int .i64 (a.k)), KIs (.pointer (some ⟨w0.heap.size, 1, none⟩)), KIs (.int .i64 (b.k)), KIs (.int .i64 (cmp3 a.k b.k)), KTwo (cmp3 a.t b.t) (cmp3 a.k b.k), KIs (.int .i64 (ord a b)), KIs (.int .i64 (ord a b))]) (Rel fun _ => False) (by kernel_rfl) (kinds_mono ?mono) hG.drew ?step ?done
  case mono =>
    intro K hK
    simp only [List.mem_cons, List.not_mem_nil, or_false] at hK
    rcases hK with rfl | rfl | rfl | rfl | rfl | rfl | rfl | rfl | rfl | rfl | rfl | rfl | rfl
    all_goals first | exact bears_is _ _ | exact bears_two _ _
  case step =>
    intro L ix o' A W hj hI hL hd
    have hin : ix < 13 := by
      by_cases hl : ix < 13
      · exact hl
      · simp [hl] at hj
    have hsz : A.tmps.size = 17 := hI.size
    have hg := hI.g
    rcases ix with _ | ix
    · cases hj
      have e0 : A.eval (.tmp 2) = .pointer (some ⟨w.heap.size, 0, none⟩) := hI.old 2 (by kernel_rfl)
      refine at_op rfl rfl (val_op (v := .pointer (some ⟨w.heap.size, 0, none⟩)) ?_ ⟨_, rfl, rfl, hg, Rel.refl _ _⟩)
      unfold execOp
      simp only [List.getElem_toArray, List.getElem_cons_zero, List.getElem_cons_succ, e0]
      simp [go_sem]
    rcases ix with _ | ix
    · cases hj
      have e0 : A.eval (.tmp 5) = .pointer (some ⟨w.heap.size, 0, none⟩) := hI.get hd 0 5 rfl (by kernel_rfl)
      exact at_op rfl rfl (load_op rfl Tryz.underlying2 e0 (hg.ra.cell 0) ⟨_, rfl, rfl, hg, Rel.refl _ _⟩)
    rcases ix with _ | ix
    · cases hj
      have e0 : A.eval (.tmp 3) = .pointer (some ⟨w0.heap.size, 0, none⟩) := hI.old 3 (by kernel_rfl)
      refine at_op rfl rfl (val_op (v := .pointer (some ⟨w0.heap.size, 0, none⟩)) ?_ ⟨_, rfl, rfl, hg, Rel.refl _ _⟩)
      unfold execOp
      simp only [List.getElem_toArray, List.getElem_cons_zero, List.getElem_cons_succ, e0]
      simp [go_sem]
    rcases ix with _ | ix
    · cases hj
      have e0 : A.eval (.tmp 7) = .pointer (some ⟨w0.heap.size, 0, none⟩) := hI.get hd 2 7 rfl (by kernel_rfl)
      exact at_op rfl rfl (load_op rfl Tryz.underlying2 e0 (hg.rb.cell 0) ⟨_, rfl, rfl, hg, Rel.refl _ _⟩)
    rcases ix with _ | ix
    · cases hj
      have e0 : A.eval (.tmp 6) = .int .i64 (a.t) := hI.get hd 1 6 rfl (by kernel_rfl)
      have e1 : A.eval (.tmp 8) = .int .i64 (b.t) := hI.get hd 3 8 rfl (by kernel_rfl)
      refine at_op rfl rfl (call_op rfl Tryz.func136 (by kernel_rfl) (by kernel_rfl) ?_)
      simp only [List.map_cons, List.map_nil, e0, e1]
      refine (compare_any _ _ _).mono ?_
      rintro e W1 ⟨rfl, rfl⟩
      exact ⟨_, rfl, _, rfl, rfl, hg, Rel.refl _ _⟩
    rcases ix with _ | ix
    · cases hj
      have e0 : A.eval (.tmp 2) = .pointer (some ⟨w.heap.size, 0, none⟩) := hI.old 2 (by kernel_rfl)
      refine at_op rfl rfl (val_op (v := .pointer (some ⟨w.heap.size, 1, none⟩)) ?_ ⟨_, rfl, rfl, hg, Rel.refl _ _⟩)
      unfold execOp
      simp only [List.getElem_toArray, List.getElem_cons_zero, List.getElem_cons_succ, e0]
      simp [go_sem]
    rcases ix with _ | ix
    · cases hj
      have e0 : A.eval (.tmp 10) = .pointer (some ⟨w.heap.size, 1, none⟩) := hI.get hd 5 10 rfl (by kernel_rfl)
      exact at_op rfl rfl (load_op rfl Tryz.underlying2 e0 (hg.ra.cell 1) ⟨_, rfl, rfl, hg, Rel.refl _ _⟩)
    rcases ix with _ | ix
    · cases hj
      have e0 : A.eval (.tmp 3) = .pointer (some ⟨w0.heap.size, 0, none⟩) := hI.old 3 (by kernel_rfl)
      refine at_op rfl rfl (val_op (v := .pointer (some ⟨w0.heap.size, 1, none⟩)) ?_ ⟨_, rfl, rfl, hg, Rel.refl _ _⟩)
      unfold execOp
      simp only [List.getElem_toArray, List.getElem_cons_zero, List.getElem_cons_succ, e0]
      simp [go_sem]
    rcases ix with _ | ix
    · cases hj
      have e0 : A.eval (.tmp 12) = .pointer (some ⟨w0.heap.size, 1, none⟩) := hI.get hd 7 12 rfl (by kernel_rfl)
      exact at_op rfl rfl (load_op rfl Tryz.underlying2 e0 (hg.rb.cell 1) ⟨_, rfl, rfl, hg, Rel.refl _ _⟩)
    rcases ix with _ | ix
    · cases hj
      have e0 : A.eval (.tmp 11) = .int .i64 (a.k) := hI.get hd 6 11 rfl (by kernel_rfl)
      have e1 : A.eval (.tmp 13) = .int .i64 (b.k) := hI.get hd 8 13 rfl (by kernel_rfl)
      refine at_op rfl rfl (call_op rfl Tryz.func136 (by kernel_rfl) (by kernel_rfl) ?_)
      simp only [List.map_cons, List.map_nil, e0, e1]
      refine (compare_any _ _ _).mono ?_
      rintro e W1 ⟨rfl, rfl⟩
      exact ⟨_, rfl, _, rfl, rfl, hg, Rel.refl _ _⟩
    rcases ix with _ | ix
    · cases hj
      have e0 : A.eval (.tmp 9) = .int .i64 (cmp3 a.t b.t) := hI.get hd 4 9 rfl (by kernel_rfl)
      have e1 : A.eval (.tmp 14) = .int .i64 (cmp3 a.k b.k) := hI.get hd 9 14 rfl (by kernel_rfl)
      refine at_op rfl rfl (lit_op (vals := [(0, .int .i64 (cmp3 a.t b.t)), (1, .int .i64 (cmp3 a.k b.k))]) (cs := #[.int .i64 (cmp3 a.t b.t), .int .i64 (cmp3 a.k b.k)]) rfl undI infoI (by simp only [List.map_cons, List.map_nil, e0, e1]) (by omega) (by omega) (by kernel_rfl) ?_)
      exact ⟨_, rfl, ⟨W.heap.size, rfl, by rw [World.cell?_alloc_new]; rfl, by rw [World.cell?_alloc_new]; rfl⟩, hg.below ((Below.refl _ _).alloc (Nat.le_refl _) _), Rel.alloc _ _ _⟩
    rcases ix with _ | ix
    · cases hj
      have e0 : (KTwo (cmp3 a.t b.t) (cmp3 a.k b.k)) (A.eval (.tmp 15)) W := hI.get hd 10 15 rfl (by kernel_rfl)
      obtain ⟨bb, e1, h0, h1⟩ := e0
      refine at_op rfl rfl (call_op rfl Tryz.func135 (by kernel_rfl) (by kernel_rfl) ?_)
      simp only [List.map_cons, List.map_nil, e1]
      refine (or_two _ _ bb _ h0 h1).mono ?_
      rintro e W1 ⟨rfl, rfl⟩
      exact ⟨_, rfl, _, rfl, rfl, hg, Rel.refl _ _⟩
    rcases ix with _ | ix
    · cases hj
      have e0 : A.eval (.tmp 16) = .int .i64 (ord a b) := hI.get hd 11 16 rfl (by kernel_rfl)
      exact at_op rfl rfl (assign_op rfl ⟨_, rfl, e0, hg, Rel.refl _ _⟩)
    omega
  case done =>
    intro A W hI
    have hg := hI.g
    have s4 : A.tmps.getD 4 undef = .int .i64 (ord a b) := hI.slot 12 4 rfl rfl
    have hA := hI.frame [5, 6, 7, 8, 9, 10, 11, 12, 13, 14, 15, 16, 4] (by kernel_rfl)
    rw [hA]
    simp only [putAll, List.foldl_cons, List.foldl_nil, s4, Act.put, List.setIfInBounds_toArray, List.set_cons_zero, List.set_cons_succ]
    clear hA hI s4
    go_wp2
    go_ret
    exact ⟨rfl, hg.bel⟩
theorem arrivalOk_impl (n : Int) (w : World) : Calls Tryz.prog 133 #[.int .i64 n] w fun e w' => e = .returned (.bool (inn n 0 1000000100)) ∧ w' = w := by
  by_cases h0 : 0 ≤ n
  · go_enter Tryz.func133, Tryz.ntmps133
    go_wp2
    go_ret
    exact ⟨ret_bool (by simp [inn, h0]), rfl⟩
  · go_enter Tryz.func133, Tryz.ntmps133
    go_wp2
    go_ret
    exact ⟨ret_bool (by rw [Bool.eq_iff_iff]; simp [inn]; omega), rfl⟩
theorem bit_impl (n : Int) (w : World) : Calls Tryz.prog 134 #[.int .i64 n] w fun e w' => e = .returned (.bool (inn n 0 1)) ∧ w' = w := by
  by_cases h0 : n = 0
  · subst h0
    go_enter Tryz.func134, Tryz.ntmps134
    go_wp2
    go_ret
    exact ⟨rfl, rfl⟩
  · go_enter Tryz.func134, Tryz.ntmps134
    go_wp2
    go_ret
    exact ⟨ret_bool (by rw [Bool.eq_iff_iff]; simp [inn]; omega), rfl⟩
theorem msgWrong_impl (m : M3) (w : World) : Calls Tryz.prog 63 #[m.val] w fun e w' => e = .returned (.bool (!m.ok)) ∧ Below w.heap.size w w' := by
  obtain ⟨vv, hvv⟩ : ∃ vv, vv = m.val := ⟨_, rfl⟩
  have HO : Hid (m.ok = (inn m.t 0 1000000100 && (if m.k = 1 ∨ m.k = 2 then inn m.v 0 1 else if m.k = 3 then bok m.v else false))) := show _ = _ from rfl
  rw [← hvv]
  cases h0 : inn m.t 0 1000000100
  · go_enter Tryz.func63, Tryz.ntmps63
    go_wp2_with (first
      | (refine box_m3 rfl rfl hvv ?_; intro w0 r0 hB0; have c0 : w0.cell? ⟨w.heap.size, 0, none⟩ = some (.int .i64 m.t) := r0.cell 0)
      | (go_at_call 133; refine (arrivalOk_impl _ _).mono ?_; rintro e w2 ⟨rfl, rfl⟩; rw [h0]))
    go_ret
    exact ⟨ret_bool (by rw [HO.out, h0]; rfl), hB0⟩
  · by_cases k1 : m.k = 1
    · go_enter Tryz.func63, Tryz.ntmps63
      go_wp2_with (first
        | (refine box_m3 rfl rfl hvv ?_; intro w0 r0 hB0; have c0 : w0.cell? ⟨w.heap.size, 0, none⟩ = some (.int .i64 m.t) := r0.cell 0; have c1 : w0.cell? ⟨w.heap.size, 1, none⟩ = some (.int .i64 m.k) := r0.cell 1; rw [k1] at c1; have c2 : w0.cell? ⟨w.heap.size, 2, none⟩ = some (.int .i64 m.v) := r0.cell 2)
        | (go_at_call 133; refine (arrivalOk_impl _ _).mono ?_; rintro e w2 ⟨rfl, rfl⟩; rw [h0])
        | (go_at_call 134; refine (bit_impl _ _).mono ?_; rintro e w2 ⟨rfl, rfl⟩))
      go_ret
      exact ⟨ret_bool (by rw [HO.out, h0, if_pos (.inl k1)]; simp), hB0⟩
    by_cases k2 : m.k = 2
    · go_enter Tryz.func63, Tryz.ntmps63
      go_wp2_with (first
        | (refine box_m3 rfl rfl hvv ?_; intro w0 r0 hB0; have c0 : w0.cell? ⟨w.heap.size, 0, none⟩ = some (.int .i64 m.t) := r0.cell 0; have c1 : w0.cell? ⟨w.heap.size, 1, none⟩ = some (.int .i64 m.k) := r0.cell 1; rw [k2] at c1; have c2 : w0.cell? ⟨w.heap.size, 2, none⟩ = some (.int .i64 m.v) := r0.cell 2)
        | (go_at_call 133; refine (arrivalOk_impl _ _).mono ?_; rintro e w2 ⟨rfl, rfl⟩; rw [h0])
        | (go_at_call 134; refine (bit_impl _ _).mono ?_; rintro e w2 ⟨rfl, rfl⟩))
      go_ret
      exact ⟨ret_bool (by rw [HO.out, h0, if_pos (.inr k2)]; simp), hB0⟩
    by_cases k3 : m.k = 3
    · go_enter Tryz.func63, Tryz.ntmps63
      go_wp2_with (first
        | (refine box_m3 rfl rfl hvv ?_; intro w0 r0 hB0; have c0 : w0.cell? ⟨w.heap.size, 0, none⟩ = some (.int .i64 m.t) := r0.cell 0; have c1 : w0.cell? ⟨w.heap.size, 1, none⟩ = some (.int .i64 m.k) := r0.cell 1; rw [k3] at c1; have c2 : w0.cell? ⟨w.heap.size, 2, none⟩ = some (.int .i64 m.v) := r0.cell 2)
        | (go_at_call 133; refine (arrivalOk_impl _ _).mono ?_; rintro e w2 ⟨rfl, rfl⟩; rw [h0])
        | (go_at_call 75; refine (byteOk_impl _ _).mono ?_; rintro e w2 ⟨rfl, rfl⟩))
      go_ret
      exact ⟨ret_bool (by rw [HO.out, h0, if_neg (by omega), if_pos k3]; simp), hB0⟩
    have b1 : (m.k == 1) = false := by simpa using k1
    have b2 : (m.k == 2) = false := by simpa using k2
    have b3 : (m.k == 3) = false := by simpa using k3
    go_enter Tryz.func63, Tryz.ntmps63
    go_wp2_with (first
      | (refine box_m3 rfl rfl hvv ?_; intro w0 r0 hB0; have c0 : w0.cell? ⟨w.heap.size, 0, none⟩ = some (.int .i64 m.t) := r0.cell 0; have c1 : w0.cell? ⟨w.heap.size, 1, none⟩ = some (.int .i64 m.k) := r0.cell 1; have c2 : w0.cell? ⟨w.heap.size, 2, none⟩ = some (.int .i64 m.v) := r0.cell 2)
      | (go_at_call 133; refine (arrivalOk_impl _ _).mono ?_; rintro e w2 ⟨rfl, rfl⟩; rw [h0]))
    go_ret
    exact ⟨ret_bool (by rw [HO.out, h0, if_neg (by omega), if_neg k3]; simp), hB0⟩
theorem indexWrong_impl (v : Value) (l : List M3) (w : World) (h : SlF fM w v l) :
    Calls Tryz.prog 138 #[v, fnv 63] w fun e w' => ∃ z : Int, e = .returned (.int .i64 z) ∧ decide (0 ≤ z) = l.any (fun m => !m.ok) ∧ Below w.heap.size w w' := by
  by_cases h0 : 0 < l.length
  · obtain ⟨b, off, c, rfl, hbl, hlc, hcm⟩ := h.shape h0
    unfold maxLen at hcm
    have hG : Gi w (.slice (some ⟨b, off, none⟩) l.length c) l w := ⟨h, Below.refl _ _⟩
    clear h hbl
    go_enter Tryz.func138, Tryz.ntmps138
    go_wp2_with fail
    go_loopw [8] (fun i wr => ∃ k : Nat, k ≤ l.length ∧ i = .int .i64 k ∧ (∀ j, j < k → (M3.at' l j).ok = true) ∧ Gi w (.slice (some ⟨b, off, none⟩) l.length c) l wr) (fun i _ => l.length - (intOf i).toNat)
    case atStart => exact ⟨0, Nat.zero_le _, rfl, fun j hj => by omega, hG⟩
    case round =>
      clear hG
      obtain ⟨k, hk, rfl, hall, hG⟩ := hrel
      by_cases hlt : k < l.length
      · cases hok : (M3.at' l k).ok
        · have HF : Hid (l.any (fun m => !m.ok) = true) := show _ = _ by
            rw [List.any_eq_true]
            exact ⟨M3.at' l k, List.mem_of_getElem? (at_some hlt), by simp [hok]⟩
          clear hall
          go_wp2_with (first
            | (refine ixF okM (r := k) rfl rfl rfl rfl hlt ?_)
            | (refine elF okM rfl rfl rfl (hG.sl.range okM (at_some hlt)) ?_)
            | (refine callv (args := [.tmp 15]) rfl rfl rfl Tryz.func63 (by kernel_rfl) (by kernel_rfl) ?_; refine (msgWrong_impl (M3.at' l k) _).mono ?_; rintro e w1 ⟨rfl, hb1⟩; refine ⟨_, rfl, ?_⟩; rw [hok]))
          go_ret
          exact ⟨_, rfl, by rw [HF.out]; simp, below_more hG.bel hb1⟩
        · have HK : Hid (∀ j, j < k + 1 → (M3.at' l j).ok = true) := show ∀ _, _ from fun j hj => by
            by_cases e : j = k
            · rw [e]; exact hok
            · exact hall j (by omega)
          clear hall
          go_wp2_with (first
            | (refine ixF okM (r := k) rfl rfl rfl rfl hlt ?_)
            | (refine elF okM rfl rfl rfl (hG.sl.range okM (at_some hlt)) ?_)
            | (refine callv (args := [.tmp 15]) rfl rfl rfl Tryz.func63 (by kernel_rfl) (by kernel_rfl) ?_; refine (msgWrong_impl (M3.at' l k) _).mono ?_; rintro e w1 ⟨rfl, hb1⟩; refine ⟨_, rfl, ?_⟩; rw [hok]))
          go_roundw
          case rel => exact ⟨k + 1, by omega, by go_num, HK.out, hG.below hb1⟩
          case measure => simp [intOf]; omega
      · have HF : Hid (l.any (fun m => !m.ok) = false) := show _ = _ by
          rw [List.any_eq_false]
          intro x hx
          obtain ⟨j, hj, rfl⟩ := List.mem_iff_getElem.1 hx
          have := hall j (by omega)
          unfold M3.at' at this
          rw [List.getD_eq_getElem?_getD, List.getElem?_eq_getElem hj] at this
          simpa using this
        have hbel := hG.bel
        clear hall
        go_wp2
        go_ret
        exact ⟨_, rfl, by rw [HF.out]; simp, hbel⟩
  · obtain ⟨a, cap, rfl, h1⟩ := h
    have hl : l = [] := List.eq_nil_of_length_eq_zero (by omega)
    subst hl
    go_enter Tryz.func138, Tryz.ntmps138
    go_wp2_with fail
    go_loopw [8] (fun i wr => i = .int .i64 0 ∧ wr = w) (fun i _ => 0)
    case atStart => exact ⟨rfl, rfl⟩
    case round =>
      obtain ⟨rfl, rfl⟩ := hrel
      go_wp2
      go_ret
      exact ⟨_, rfl, by simp, Below.refl _ _⟩
theorem containsWrong_impl (v : Value) (l : List M3) (w : World) (h : SlF fM w v l) :
    Calls Tryz.prog 70 #[v, fnv 63] w fun e w' => e = .returned (.bool (l.any (fun m => !m.ok))) ∧ Below w.heap.size w w' := by
  generalize hr : l.any (fun m => !m.ok) = r
  have HR : Hid (l.any (fun m => !m.ok) = r) := hr
  clear hr
  obtain ⟨fv, hfv⟩ : ∃ fv, fv = fnv 63 := ⟨_, rfl⟩
  rw [← hfv]
  go_enter Tryz.func70, Tryz.ntmps70
  go_wp2_with (go_at_call 138; rw [hfv]; refine (indexWrong_impl _ _ _ h).mono ?_; rintro e w1 ⟨z, rfl, hz, hb1⟩)
  go_ret
  exact ⟨ret_bool (by rw [← HR.out, ← hz]), hb1⟩
theorem sorted_impl (v : Value) (l : List M3) (w : World) (h : SlF fM w v l) :
    Calls Tryz.prog 71 #[v, fnv 65] w fun e w' => ∃ r : Bool, e = .returned (.bool r) ∧ (r = true ↔ ∀ i, i + 1 < l.length → later (M3.at' l i) (M3.at' l (i + 1)) = false) ∧ Below w.heap.size w w' := by
  by_cases h0 : 0 < l.length
  · obtain ⟨b, off, c, rfl, hbl, hlc, hcm⟩ := h.shape h0
    unfold maxLen at hcm
    have hG : Gi w (.slice (some ⟨b, off, none⟩) l.length c) l w := ⟨h, Below.refl _ _⟩
    clear h hbl
    obtain ⟨fv, hfv⟩ : ∃ fv, fv = fnv 65 := ⟨_, rfl⟩
    rw [← hfv]
    have HV : Hid (fv = fnv 65) := hfv
    clear hfv
    go_enter Tryz.func71, Tryz.ntmps71
    go_wp2_with fail
    go_loopw [5] (fun i wr => ∃ k : Nat, k < l.length ∧ i = .int .i64 k ∧ (∀ j, k ≤ j → j + 1 < l.length → later (M3.at' l j) (M3.at' l (j + 1)) = false) ∧ Gi w (.slice (some ⟨b, off, none⟩) l.length c) l wr) (fun i _ => (intOf i).toNat)
    case atStart => exact ⟨l.length - 1, by omega, by rw [show ((l.length - 1 : Nat) : Int) = (l.length : Int) - 1 by omega], fun j hj hl => by omega, hG⟩
    case round =>
      clear hG
      obtain ⟨k, hk, rfl, hall, hG⟩ := hrel
      rcases k with _ | j
      · have HF : Hid (∀ i, i + 1 < l.length → later (M3.at' l i) (M3.at' l (i + 1)) = false) := show ∀ _, _ from fun i hi => hall i (by omega) hi
        have hbel := hG.bel
        clear hall
        go_wp2
        go_ret
        exact ⟨true, rfl, ⟨fun _ => HF.out, fun _ => rfl⟩, hbel⟩
      · cases hlt : later (M3.at' l j) (M3.at' l (j + 1))
        · have hn : ¬ ord (M3.at' l (j + 1)) (M3.at' l j) < 0 := by
            have := ord_neg (M3.at' l (j + 1)) (M3.at' l j)
            rw [hlt] at this
            simpa using this
          have HK : Hid (∀ i, j ≤ i → i + 1 < l.length → later (M3.at' l i) (M3.at' l (i + 1)) = false) := show ∀ _, _ from fun i h1 h2 => by
            by_cases e : i = j
            · rw [e]; exact hlt
            · exact hall i (by omega) h2
          clear hall hlt
          go_wp2_with fail
          refine region_known (by kernel_rfl) (by kernel_rfl) 0 (by decide) (by kernel_rfl) (fun _ W => Gi w (.slice (some ⟨b, off, none⟩) l.length c) l W) [fv, .slice (some ⟨b, off, none⟩) l.length c, .int .i64 ((j + 1 : Nat) : Int), .pointer (some ⟨b, off + (j + 1) * 3, none⟩), (M3.at' l (j + 1)).val, .slice (some ⟨b, off, none⟩) l.length c, .int .i64 ((j + 1 : Nat) : Int), .int .i64 (j : Int), .pointer (some ⟨b, off + j * 3, none⟩), (M3.at' l j).val, .int .i64 (ord (M3.at' l (j + 1)) (M3.at' l j)), .bool false] hG.drew ?step ?done
          case step =>
            intro L ix o' A W hj hI hL hd
            have hin : ix < 12 := by
              by_cases hl : ix < 12
              · exact hl
              · simp [hl] at hj
            have hsz : A.tmps.size = 25 := hI.size
            have hg := hI.g
            rcases ix with _ | ix
            · cases hj
              have e0 : A.eval (.tmp 1) = fv := hI.old 1 (by kernel_rfl)
              exact at_op rfl rfl (move_op rfl ⟨_, rfl, e0, hg⟩)
            rcases ix with _ | ix
            · cases hj
              have e0 : A.eval (.tmp 0) = .slice (some ⟨b, off, none⟩) l.length c := hI.old 0 (by kernel_rfl)
              exact at_op rfl rfl (move_op rfl ⟨_, rfl, e0, hg⟩)
            rcases ix with _ | ix
            · cases hj
              have e0 : A.eval (.tmp 5) = .int .i64 ((j + 1 : Nat) : Int) := hI.old 5 (by kernel_rfl)
              exact at_op rfl rfl (move_op rfl ⟨_, rfl, e0, hg⟩)
            rcases ix with _ | ix
            · cases hj
              have e0 : A.eval (.tmp 14) = .slice (some ⟨b, off, none⟩) l.length c := hI.val hd 1 14 rfl rfl (by kernel_rfl)
              have e1 : A.eval (.tmp 15) = .int .i64 ((j + 1 : Nat) : Int) := hI.val hd 2 15 rfl rfl (by kernel_rfl)
              exact at_op rfl rfl (ixF_op okM rfl e0 e1 (by omega) ⟨_, rfl, rfl, hg⟩)
            rcases ix with _ | ix
            · cases hj
              have e0 : A.eval (.tmp 16) = .pointer (some ⟨b, off + (j + 1) * 3, none⟩) := hI.val hd 3 16 rfl rfl (by kernel_rfl)
              exact at_op rfl rfl (elF_op okM rfl e0 (hg.sl.range okM (at_some (by omega))) ⟨_, rfl, rfl, hg⟩)
            rcases ix with _ | ix
            · cases hj
              have e0 : A.eval (.tmp 0) = .slice (some ⟨b, off, none⟩) l.length c := hI.old 0 (by kernel_rfl)
              exact at_op rfl rfl (move_op rfl ⟨_, rfl, e0, hg⟩)
            rcases ix with _ | ix
            · cases hj
              have e0 : A.eval (.tmp 5) = .int .i64 ((j + 1 : Nat) : Int) := hI.old 5 (by kernel_rfl)
              exact at_op rfl rfl (move_op rfl ⟨_, rfl, e0, hg⟩)
            rcases ix with _ | ix
            · cases hj
              have e0 : A.eval (.tmp 19) = .int .i64 ((j + 1 : Nat) : Int) := hI.val hd 6 19 rfl rfl (by kernel_rfl)
              exact at_op rfl rfl (bin_op (vy := .int .i64 1) rfl e0 rfl (fun w => by rw [show (j : Int) = ((j + 1 : Nat) : Int) - 1 from by omega]; exact subN _ _ _ _ w (by omega) (by omega)) ⟨_, rfl, rfl, hg⟩)
            rcases ix with _ | ix
            · cases hj
              have e0 : A.eval (.tmp 18) = .slice (some ⟨b, off, none⟩) l.length c := hI.val hd 5 18 rfl rfl (by kernel_rfl)
              have e1 : A.eval (.tmp 20) = .int .i64 (j : Int) := hI.val hd 7 20 rfl rfl (by kernel_rfl)
              exact at_op rfl rfl (ixF_op okM rfl e0 e1 (by omega) ⟨_, rfl, rfl, hg⟩)
            rcases ix with _ | ix
            · cases hj
              have e0 : A.eval (.tmp 21) = .pointer (some ⟨b, off + j * 3, none⟩) := hI.val hd 8 21 rfl rfl (by kernel_rfl)
              exact at_op rfl rfl (elF_op okM rfl e0 (hg.sl.range okM (at_some (by omega))) ⟨_, rfl, rfl, hg⟩)
            rcases ix with _ | ix
            · cases hj
              have e0 : A.eval (.tmp 13) = fv := hI.val hd 0 13 rfl rfl (by kernel_rfl)
              have e1 : A.eval (.tmp 17) = (M3.at' l (j + 1)).val := hI.val hd 4 17 rfl rfl (by kernel_rfl)
              have e2 : A.eval (.tmp 22) = (M3.at' l j).val := hI.val hd 9 22 rfl rfl (by kernel_rfl)
              refine at_op rfl rfl (callv_op (args := [.tmp 17, .tmp 22]) rfl (e0.trans HV.out) Tryz.func65 (by kernel_rfl) (by kernel_rfl) ?_)
              simp only [List.map_cons, List.map_nil, e1, e2]
              refine (byTime_impl _ _ _).mono ?_
              rintro e W1 ⟨rfl, hb⟩
              exact ⟨_, rfl, _, rfl, rfl, hg.below hb⟩
            rcases ix with _ | ix
            · cases hj
              have e0 : A.eval (.tmp 23) = .int .i64 (ord (M3.at' l (j + 1)) (M3.at' l j)) := hI.val hd 10 23 rfl rfl (by kernel_rfl)
              exact at_op rfl rfl (bin_op (vy := .int .i64 0) rfl e0 rfl (fun w => by first | (simp [go_sem, hn]; done) | (simp [go_sem]; omega)) ⟨_, rfl, rfl, hg⟩)
            omega
          case done =>
            intro A W hI
            have hg := hI.g
            have s24 : A.tmps.getD 24 undef = .bool false := hI.last 11 24 rfl
            have hA := hI.frame [13, 14, 15, 16, 17, 18, 19, 20, 21, 22, 23, 24] (by kernel_rfl)
            rw [hA]
            simp only [putAll, List.foldl_cons, List.foldl_nil, s24, Act.put, List.setIfInBounds_toArray, List.set_cons_zero, List.set_cons_succ]
            clear hA hI s24
            go_wp2
            go_roundw
            case rel => exact ⟨j, by omega, by go_num, HK.out, hg⟩
            case measure => simp [intOf]
        · have hn : ord (M3.at' l (j + 1)) (M3.at' l j) < 0 := by
            have := ord_neg (M3.at' l (j + 1)) (M3.at' l j)
            rw [hlt] at this
            simpa using this
          have HK : Hid (¬ ∀ i, i + 1 < l.length → later (M3.at' l i) (M3.at' l (i + 1)) = false) := show ¬ _ from fun hh => by
            have := hh j (by omega)
            rw [hlt] at this
            cases this
          clear hall hlt
          go_wp2_with fail
          refine region_known (by kernel_rfl) (by kernel_rfl) 0 (by decide) (by kernel_rfl) (fun _ W => Gi w (.slice (some ⟨b, off, none⟩) l.length c) l W) [fv, .slice (some ⟨b, off, none⟩) l.length c, .int .i64 ((j + 1 : Nat) : Int), .pointer (some ⟨b, off + (j + 1) * 3, none⟩), (M3.at' l (j + 1)).val, .slice (some ⟨b, off, none⟩) l.length c, .int .i64 ((j + 1 : Nat) : Int), .int .i64 (j : Int), .pointer (some ⟨b, off + j * 3, none⟩), (M3.at' l j).val, .int .i64 (ord (M3.at' l (j + 1)) (M3.at' l j)), .bool true] hG.drew ?step ?done
          case step =>
            intro L ix o' A W hj hI hL hd
            have hin : ix < 12 := by
              by_cases hl : ix < 12
              · exact hl
              · simp [hl] at hj
            have hsz : A.tmps.size = 25 := hI.size
            have hg := hI.g
            rcases ix with _ | ix
            · cases hj
              have e0 : A.eval (.tmp 1) = fv := hI.old 1 (by kernel_rfl)
              exact at_op rfl rfl (move_op rfl ⟨_, rfl, e0, hg⟩)
            rcases ix with _ | ix
            · cases hj
              have e0 : A.eval (.tmp 0) = .slice (some ⟨b, off, none⟩) l.length c := hI.old 0 (by kernel_rfl)
              exact at_op rfl rfl (move_op rfl ⟨_, rfl, e0, hg⟩)
            rcases ix with _ | ix
            · cases hj
              have e0 : A.eval (.tmp 5) = .int .i64 ((j + 1 : Nat) : Int) := hI.old 5 (by kernel_rfl)
              exact at_op rfl rfl (move_op rfl ⟨_, rfl, e0, hg⟩)
            rcases ix with _ | ix
            · cases hj
              have e0 : A.eval (.tmp 14) = .slice (some ⟨b, off, none⟩) l.length c := hI.val hd 1 14 rfl rfl (by kernel_rfl)
              have e1 : A.eval (.tmp 15) = .int .i64 ((j + 1 : Nat) : Int) := hI.val hd 2 15 rfl rfl (by kernel_rfl)
              exact at_op rfl rfl (ixF_op okM rfl e0 e1 (by omega) ⟨_, rfl, rfl, hg⟩)
            rcases ix with _ | ix
            · cases hj
              have e0 : A.eval (.tmp 16) = .pointer (some ⟨b, off + (j + 1) * 3, none⟩) := hI.val hd 3 16 rfl rfl (by kernel_rfl)
              exact at_op rfl rfl (elF_op okM rfl e0 (hg.sl.range okM (at_some (by omega))) ⟨_, rfl, rfl, hg⟩)
            rcases ix with _ | ix
            · cases hj
              have e0 : A.eval (.tmp 0) = .slice (some ⟨b, off, none⟩) l.length c := hI.old 0 (by kernel_rfl)
              exact at_op rfl rfl (move_op rfl ⟨_, rfl, e0, hg⟩)
            rcases ix with _ | ix
            · cases hj
              have e0 : A.eval (.tmp 5) = .int .i64 ((j + 1 : Nat) : Int) := hI.old 5 (by kernel_rfl)
              exact at_op rfl rfl (move_op rfl ⟨_, rfl, e0, hg⟩)
            rcases ix with _ | ix
            · cases hj
              have e0 : A.eval (.tmp 19) = .int .i64 ((j + 1 : Nat) : Int) := hI.val hd 6 19 rfl rfl (by kernel_rfl)
              exact at_op rfl rfl (bin_op (vy := .int .i64 1) rfl e0 rfl (fun w => by rw [show (j : Int) = ((j + 1 : Nat) : Int) - 1 from by omega]; exact subN _ _ _ _ w (by omega) (by omega)) ⟨_, rfl, rfl, hg⟩)
            rcases ix with _ | ix
            · cases hj
              have e0 : A.eval (.tmp 18) = .slice (some ⟨b, off, none⟩) l.length c := hI.val hd 5 18 rfl rfl (by kernel_rfl)
              have e1 : A.eval (.tmp 20) = .int .i64 (j : Int) := hI.val hd 7 20 rfl rfl (by kernel_rfl)
              exact at_op rfl rfl (ixF_op okM rfl e0 e1 (by omega) ⟨_, rfl, rfl, hg⟩)
            rcases ix with _ | ix
            · cases hj
              have e0 : A.eval (.tmp 21) = .pointer (some ⟨b, off + j * 3, none⟩) := hI.val hd 8 21 rfl rfl (by kernel_rfl)
              exact at_op rfl rfl (elF_op okM rfl e0 (hg.sl.range okM (at_some (by omega))) ⟨_, rfl, rfl, hg⟩)
            rcases ix with _ | ix
            · cases hj
              have e0 : A.eval (.tmp 13) = fv := hI.val hd 0 13 rfl rfl (by kernel_rfl)
              have e1 : A.eval (.tmp 17) = (M3.at' l (j + 1)).val := hI.val hd 4 17 rfl rfl (by kernel_rfl)
              have e2 : A.eval (.tmp 22) = (M3.at' l j).val := hI.val hd 9 22 rfl rfl (by kernel_rfl)
              refine at_op rfl rfl (callv_op (args := [.tmp 17, .tmp 22]) rfl (e0.trans HV.out) Tryz.func65 (by kernel_rfl) (by kernel_rfl) ?_)
              simp only [List.map_cons, List.map_nil, e1, e2]
              refine (byTime_impl _ _ _).mono ?_
              rintro e W1 ⟨rfl, hb⟩
              exact ⟨_, rfl, _, rfl, rfl, hg.below hb⟩
            rcases ix with _ | ix
            · cases hj
              have e0 : A.eval (.tmp 23) = .int .i64 (ord (M3.at' l (j + 1)) (M3.at' l j)) := hI.val hd 10 23 rfl rfl (by kernel_rfl)
              exact at_op rfl rfl (bin_op (vy := .int .i64 0) rfl e0 rfl (fun w => by first | (simp [go_sem, hn]; done) | (simp [go_sem]; omega)) ⟨_, rfl, rfl, hg⟩)
            omega
          case done =>
            intro A W hI
            have hg := hI.g
            have s24 : A.tmps.getD 24 undef = .bool true := hI.last 11 24 rfl
            have hA := hI.frame [13, 14, 15, 16, 17, 18, 19, 20, 21, 22, 23, 24] (by kernel_rfl)
            rw [hA]
            simp only [putAll, List.foldl_cons, List.foldl_nil, s24, Act.put, List.setIfInBounds_toArray, List.set_cons_zero, List.set_cons_succ]
            clear hA hI s24
            go_wp2
            go_ret
            exact ⟨false, rfl, ⟨fun h => (by cases h), fun h => absurd h HK.out⟩, hg.bel⟩
  · obtain ⟨a, cap, rfl, h1⟩ := h
    have hl : l = [] := List.eq_nil_of_length_eq_zero (by omega)
    subst hl
    go_enter Tryz.func71, Tryz.ntmps71
    go_wp2_with fail
    go_loopw [5] (fun i wr => i = .int .i64 (-1) ∧ wr = w) (fun i _ => 0)
    case atStart => exact ⟨rfl, rfl⟩
    case round =>
      obtain ⟨rfl, rfl⟩ := hrel
      go_wp2
      go_ret
      exact ⟨true, rfl, ⟨fun _ i hi => by simp at hi, fun _ => rfl⟩, Below.refl _ _⟩
theorem any_wrong (l : List M3) : l.any (fun m => !m.ok) = false ↔ ∀ i, i < l.length → (M3.at' l i).ok = true := by
  rw [List.any_eq_false]
  constructor
  · intro h i hi
    have := h (M3.at' l i) (List.mem_of_getElem? (at_some hi))
    simpa using this
  · intro h x hx
    obtain ⟨j, hj, rfl⟩ := List.mem_iff_getElem.1 hx
    have := h j hj
    unfold M3.at' at this
    rw [List.getD_eq_getElem?_getD, List.getElem?_eq_getElem hj] at this
    simpa using this
theorem inboxOk_impl (v : Value) (l : List M3) (w : World) (h : SlF fM w v l) :
    Calls Tryz.prog 17 #[v] w fun e w' => e = .returned (.bool (inboxOk l)) ∧ Below w.heap.size w w' := by
  have HO : Hid (inboxOk l = true ↔ l.any (fun m => !m.ok) = false ∧ (∀ i, i + 1 < l.length → later (M3.at' l i) (M3.at' l (i + 1)) = false) ∧ l.length ≤ 200) := show _ ↔ _ by rw [fits_all, any_wrong]
  have hS : Hid (SlF fM w v l) := h
  obtain ⟨a, cap, rfl, -, hlc, hcm, -⟩ := h
  unfold maxLen at hcm
  by_cases hn : l.length ≤ 200
  · cases hany : l.any (fun m => !m.ok)
    · have HA : Hid (l.any (fun m => !m.ok) = false) := hany
      clear hany
      go_enter Tryz.func17, Tryz.ntmps17
      go_wp2_with (first
        | (go_at_call 70; refine (containsWrong_impl _ _ _ hS.out).mono ?_; rintro e w1 ⟨rfl, hb1⟩; rw [HA.out])
        | (go_at_call 71; refine (sorted_impl _ _ _ (hS.out.below hb1)).mono ?_; rintro e w2 ⟨r, rfl, hr, hb2⟩; have HR : Hid (r = true ↔ ∀ i, i + 1 < l.length → later (M3.at' l i) (M3.at' l (i + 1)) = false) := hr; clear hr))
      go_ret
      exact ⟨ret_bool (by rw [Bool.eq_iff_iff, HO.out, HR.out]; exact ⟨fun h => ⟨HA.out, h, hn⟩, fun h => h.2.1⟩), below_more hb1 hb2⟩
    · have HA : Hid (l.any (fun m => !m.ok) = true) := hany
      have HF : Hid (inboxOk l = false) := show _ = _ by
        rw [Bool.eq_false_iff]
        intro e
        have := HO.out.1 e
        rw [hany] at this
        simp at this
      clear hany
      go_enter Tryz.func17, Tryz.ntmps17
      go_wp2_with (first
        | (go_at_call 70; refine (containsWrong_impl _ _ _ hS.out).mono ?_; rintro e w1 ⟨rfl, hb1⟩; rw [HA.out]))
      go_ret
      exact ⟨ret_bool HF.out.symm, hb1⟩
  · have HF : Hid (inboxOk l = false) := show _ = _ by
      rw [Bool.eq_false_iff]
      intro e
      exact hn (HO.out.1 e).2.2
    go_enter Tryz.func17, Tryz.ntmps17
    go_wp2
    go_ret
    exact ⟨ret_bool HF.out.symm, Below.refl _ _⟩
end Go.Proofs.YtghmkacamabndaaGreatDoor.Mem
namespace Go.Proofs.YtghmkacamabndaaGreatDoor.Mem
open Go.ChangeShapes Go.WideShapes Go.RowKit Base Num Slc Slf Rw Tmr Reg

end Go.Proofs.YtghmkacamabndaaGreatDoor.Mem
namespace Go.Proofs.YtghmkacamabndaaGreatDoor.Mem
open Go.ChangeShapes Go.WideShapes Go.RowKit Base Num Slc Slf Rw Tmr Reg

section
variable {o : Oper} {a : Act} {w : World} {K : Act → World → Prop} {Q : Exit → Act → World → Prop} {x y z : Operand} {v : Value} {l : List M3} {k : Nat}
theorem lenM_op {ad : Option Addr} {n c : Nat} (ho : o.op = .call { callee := .builtin .len, args := #[x], argTypes := #[31] }) (hx : a.eval x = .slice ad n c) (h : K (a.put o.dst (.int .i64 (n : Int))) w) : o.wp Tryz.prog a w K Q := by
  refine val_op (v := .int .i64 (n : Int)) ?_ h
  clear h
  generalize a.eval = ev at hx ⊢
  unfold execOp
  simp only [ho]
  have hu := okM.und
  simp [go_sem, hx, hu]
end
end Go.Proofs.YtghmkacamabndaaGreatDoor.Mem
