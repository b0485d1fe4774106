/-
  What FnExactStepOf leans on: part 5.
-/
import Derived.Deep.LoopGhost
import Derived.Test.YtghmkacamabndaaGreatDoorSteP1
import Derived.Test.YtghmkacamabndaaGreatDoorSteP2
import Derived.Test.YtghmkacamabndaaGreatDoorSteP3
import Derived.Test.YtghmkacamabndaaGreatDoorSteP4
set_option linter.unusedVariables false
set_option linter.unusedSimpArgs false
set_option maxRecDepth 20000
namespace Go.Proofs.YtghmkacamabndaaGreatDoor.Reg
open Go.RowKit Base

def waitsBut (ops : Array Oper) (s t : Nat) : Bool := (List.range ops.size).all fun i => i == t || (wider ops ops.size [s]).contains i
def hasDep (ops : Array Oper) (j i : Nat) : Bool := match ops[j]? with
  | some o => (deps o).contains i
  | none => false
def twoT (ops : Array Oper) (s1 s2 k1 : Nat) (E1 : Value → World → Prop) (E2 : World → Prop) (vals : List Value) (j : Nat) (f : Nat → Value) (W : World) : Prop :=
  if j = s1 then E1 (f k1) W else if j = s2 then E2 W else knownT ops vals j f W
def twoR (s1 s2 k1 : Nat) (E1 : Value → World → Prop) (i : Nat) (f : Nat → Value) (W W' : World) : Prop :=
  if i = s1 then True else if i = s2 then E1 (f k1) W' else Below W.heap.size W W'
section
variable {P : Program} {ops : Array Oper} {Q : Exit → Act → World → Prop} {s1 s2 k1 : Nat} {a0 a : Act} {L : Nat → Bool} {w w' : World} {i : Nat} {o : Oper} {v : Value} {vals : List Value} {E1 : Value → World → Prop} {E2 : World → Prop}
theorem mono_two {n : Nat} (hds : dstOk ops n = true) (hk1 : (ops[s1]?).bind (·.dst) = some k1) (hdep : hasDep ops s2 s1 = true) (hne : s1 ≠ s2)
    (hE1 : ∀ v W W', E1 v W → Below W.heap.size W W' → E1 v W') (hE2 : ∀ W W', E2 W → Below W.heap.size W W' → E2 W') : MonoF ops (twoT ops s1 s2 k1 E1 E2 vals) (twoR s1 s2 k1 E1) := by
  intro L i j oi oj f f' w w' hi hj hLi hLj hd hf hT hR
  unfold twoT at hT ⊢
  unfold twoR at hR
  by_cases j1 : j = s1
  · rw [if_pos j1] at hT ⊢
    have i1 : i ≠ s1 := fun e => by rw [e, ← j1, hLj] at hLi; cases hLi
    rw [if_neg i1] at hR
    by_cases i2 : i = s2
    · rw [if_pos i2] at hR; exact hR
    · rw [if_neg i2] at hR
      have hk : f' k1 = f k1 := hf k1 (fun e => by
        refine i1 (dst_one hds (by rw [hi]; exact e) hk1))
      rw [hk]; exact hE1 _ _ _ hT hR
  · rw [if_neg j1] at hT ⊢
    by_cases j2 : j = s2
    · rw [if_pos j2] at hT ⊢
      have i1 : i ≠ s1 := fun e => by
        have h1 := hdep
        unfold hasDep at h1
        rw [← j2, hj] at h1
        have := hd s1 (List.contains_iff_mem.1 h1)
        rw [← e, hLi] at this; cases this
      have i2 : i ≠ s2 := fun e => by rw [e, ← j2, hLj] at hLi; cases hLi
      rw [if_neg i1, if_neg i2] at hR
      exact hE2 _ _ hT hR
    · rw [if_neg j2] at hT ⊢
      intro k hk
      rw [hf k (fun e => ?_)]
      · exact hT k hk
      · have : i = j := dst_one hds (by rw [hi]; exact e) hk
        rw [this, hLj] at hLi; cases hLi
theorem InvS.val2 {G : Bool → World → Prop} (h : InvS ops s1 G (twoT ops s1 s2 k1 E1 E2 vals) a0 L a w) (hr : ∀ d ∈ deps o, L d = true) (j k : Nat) {oj : Oper} (hj : ops[j]? = some oj) (hk : oj.dst = some k) (hd : (deps o).contains j = true) (h1 : j ≠ s1) (h2 : j ≠ s2) : a.eval (.tmp k) = vals.getD j undef := by
  have := h.get hr j hj hd
  unfold twoT at this
  rw [if_neg h1, if_neg h2] at this
  exact this k (by rw [hj]; exact hk)
theorem region_two {id : Nat} (hm : P.follows .mixedOrders = true) (hac : acyc ops = true) (s1 s2 k1 : Nat) (hs1 : s1 < ops.size) (hk1 : (ops[s1]?).bind (·.dst) = some k1) (hn2 : (ops[s2]?).bind (·.dst) = none) (hall : waitsBut ops s1 s2 = true) (hdep : hasDep ops s2 s1 = true) (hne : s1 ≠ s2) (hds : dstOk ops a0.tmps.size = true)
    (G : World → Prop) (E1 : Value → World → Prop) (E2 : World → Prop) (hE1 : ∀ v W W', E1 v W → Below W.heap.size W W' → E1 v W') (hE2 : ∀ W W', E2 W → Below W.heap.size W W' → E2 W') (vals : List Value) (hG : G w.drew)
    (step : ∀ (L : Nat → Bool) (i : Nat) (o : Oper) (a : Act) (w : World), i ≠ s1 → i ≠ s2 → ops[i]? = some o → InvS ops s1 (ge G fun _ => True) (twoT ops s1 s2 k1 E1 E2 vals) a0 L a w → G w → (∀ d ∈ deps o, L d = true) →
      wpOp P ops Q i (fun a' w' => ∃ v, a' = a.put o.dst v ∧ v = vals.getD i undef ∧ G w' ∧ Below w.heap.size w w') a w)
    (first : ∀ (L : Nat → Bool) (o : Oper) (a : Act) (w : World), ops[s1]? = some o → InvS ops s1 (ge G fun _ => True) (twoT ops s1 s2 k1 E1 E2 vals) a0 L a w → G w → (∀ d ∈ deps o, L d = true) →
      wpOp P ops Q s1 (fun a' w' => ∃ v, a' = a.put o.dst v ∧ E1 v w') a w)
    (second : ∀ (L : Nat → Bool) (o : Oper) (a : Act) (w : World), ops[s2]? = some o → InvS ops s1 (ge G fun _ => True) (twoT ops s1 s2 k1 E1 E2 vals) a0 L a w → E1 (a.tmps.getD k1 undef) w → (∀ d ∈ deps o, L d = true) →
      wpOp P ops Q s2 (fun a' w' => a' = a.put o.dst undef ∧ E1 (a.tmps.getD k1 undef) w' ∧ E2 w') a w)
    (done : ∀ a w, InvS ops s1 (ge G fun _ => True) (twoT ops s1 s2 k1 E1 E2 vals) a0 (fun _ => true) a w → E1 (a.tmps.getD k1 undef) w → E2 w → Q .normal a w)
    (h2s : s2 < ops.size) : (Code.region id ops true).wp P Q a0 w := by
  refine region_genS hm hac s1 hs1 (ge G fun _ => True) (twoT ops s1 s2 k1 E1 E2 vals) (twoR s1 s2 k1 E1) (mono_two hds hk1 hdep hne hE1 hE2) (by simpa [ge] using hG) ?_ ?_
  · intro L i o a w hi hI hL hd
    have hil : i < ops.size := (Array.getElem?_eq_some_iff.1 hi).1
    by_cases i2 : i = s2
    · subst i2
      have hd1 : L s1 = true := hd s1 (by
        have h1 := hdep
        unfold hasDep at h1
        rw [hi] at h1
        exact List.contains_iff_mem.1 h1)
      obtain ⟨o1, ho1⟩ : ∃ o1, ops[s1]? = some o1 := ⟨_, Array.getElem?_eq_getElem hs1⟩
      have hT := hI.told s1 o1 ho1 hd1
      unfold twoT at hT
      rw [if_pos rfl] at hT
      have hnd : o.dst = none := by rw [hi] at hn2; exact hn2
      refine wpOp_mono ?_ (second L o a w hi hI hT hd)
      rintro a' w' ⟨rfl, he1, he2⟩
      refine ⟨undef, rfl, ?_, by simp [ge, hd1], ?_⟩
      · unfold twoT
        rw [if_neg (Ne.symm hne), if_pos rfl]; exact he2
      · unfold twoR
        rw [if_neg (Ne.symm hne), if_pos rfl, hnd]; exact he1
    · have hLs : L s1 = false := by
        cases hq : L s1 with
        | false => rfl
        | true =>
          have h1 := List.all_eq_true.1 hall i (List.mem_range.2 hil)
          rw [Bool.or_eq_true] at h1
          rcases h1 with h1 | h1
          · exact absurd (by simpa using h1) i2
          · have := wider_listed (L := L) hI.closed ops.size [s1] (fun j hj => by simp at hj; rw [hj]; exact hq) i (List.contains_iff_mem.1 h1)
            rw [this] at hL; cases hL
      have hg : G w := by have := hI.g; simpa [ge, hLs] using this
      by_cases i1 : i = s1
      · subst i1
        refine wpOp_mono ?_ (first L o a w hi hI hg hd)
        rintro a' w' ⟨v, rfl, he⟩
        refine ⟨v, rfl, ?_, by simp [ge], ?_⟩
        · unfold twoT
          rw [if_pos rfl]
          have hk' : o.dst = some k1 := by rw [hi] at hk1; exact hk1
          rw [hk']
          show E1 ((a.put (some k1) v).tmps.getD k1 undef) w'
          rw [getD_put_same _ _ _ (by rw [hI.size]; exact dst_lt hds (i := i) (by rw [hi]; exact hk'))]
          exact he
        · unfold twoR
          rw [if_pos rfl]; trivial
      · refine wpOp_mono ?_ (step L i o a w i1 i2 hi hI hg hd)
        rintro a' w' ⟨v, rfl, hv, he, hb⟩
        refine ⟨v, rfl, ?_, by simpa [ge, hLs, Ne.symm i1] using he, ?_⟩
        · unfold twoT
          rw [if_neg i1, if_neg i2]
          intro k hk
          rw [hi] at hk
          have hk' : o.dst = some k := hk
          rw [hk']
          show (a.put (some k) v).tmps.getD k undef = _
          rw [getD_put_same _ _ _ (by rw [hI.size]; exact dst_lt hds (i := i) (by rw [hi]; exact hk')), hv]
        · unfold twoR
          rw [if_neg i1, if_neg i2]; exact hb
  · intro a w hI
    obtain ⟨o1, ho1⟩ : ∃ o1, ops[s1]? = some o1 := ⟨_, Array.getElem?_eq_getElem hs1⟩
    obtain ⟨o2, ho2⟩ : ∃ o2, ops[s2]? = some o2 := ⟨_, Array.getElem?_eq_getElem h2s⟩
    have hT1 := hI.told s1 o1 ho1 rfl
    have hT2 := hI.told s2 o2 ho2 rfl
    unfold twoT at hT1 hT2
    rw [if_pos rfl] at hT1
    rw [if_neg (Ne.symm hne), if_pos rfl] at hT2
    exact done a w hI hT1 hT2
end
end Go.Proofs.YtghmkacamabndaaGreatDoor.Reg
namespace Go.Proofs.YtghmkacamabndaaGreatDoor.Mem
open Go.ChangeShapes Go.WideShapes Go.RowKit Base Num Slc Slf Rw Tmr Srl Rom Opl Reg

structure Lw (w : World) (base g gz : Nat) (x y vo ve : Value) (s : St) (W : World) : Prop where
  row : SRow W g x y vo ve s
  z : SRow W gz nil64 nil64 nil64 nil64 St.nul
  so : So base W x y vo ve s
  mild : Mild base w W
theorem Lw.below {w W W' : World} {base g gz : Nat} {x y vo ve : Value} {s : St} (h : Lw w base g gz x y vo ve s W) (hb : Below W.heap.size W W') : Lw w base g gz x y vo ve s W' := ⟨h.row.below hb, h.z.below hb, h.so.below hb, h.mild.trans (Mild.of hb)⟩
theorem Lw.drew {w W : World} {base g gz : Nat} {x y vo ve : Value} {s : St} (h : Lw w base g gz x y vo ve s W) : Lw w base g gz x y vo ve s W.drew := h.below (drew_below (n := 1) rfl)
def LE1 (w : World) (base g gz : Nat) (x y : Value) (s : St) (v : Value) (W : World) : Prop :=
  ∃ vo ve, v = s.val x y vo ve ∧ So base W x y vo ve s ∧ SRow W gz nil64 nil64 nil64 nil64 St.nul ∧ Mild base w W ∧ ∃ x0 y0 o0 e0 s0, SRow W g x0 y0 o0 e0 s0
def LE2 (w : World) (base g gz : Nat) (x y : Value) (s : St) (W : World) : Prop := ∃ vo ve, Lw w base g gz x y vo ve s W
theorem LE1.below {w : World} {base g gz : Nat} {x y : Value} {s : St} {v : Value} {W W' : World} (h : LE1 w base g gz x y s v W) (hb : Below W.heap.size W W') : LE1 w base g gz x y s v W' := by
  obtain ⟨vo, ve, e, h1, h2, h3, x0, y0, o0, e0, s0, h4⟩ := h
  exact ⟨vo, ve, e, h1.below hb, h2.below hb, h3.trans (Mild.of hb), x0, y0, o0, e0, s0, h4.below hb⟩
theorem LE2.below {w : World} {base g gz : Nat} {x y : Value} {s : St} {W W' : World} (h : LE2 w base g gz x y s W) (hb : Below W.heap.size W W') : LE2 w base g gz x y s W' := by
  obtain ⟨vo, ve, h⟩ := h
  exact ⟨vo, ve, h.below hb⟩
theorem through_more (s : St) (q : Int) : (s.through q).o = s.o ∧ (s.through q).e.length = s.e.length + 1 := ⟨rfl, by show (s.e ++ [_]).length = _; simp⟩
theorem arrive_more (s : St) (m : M3) : (s.arrive m).o.length ≤ s.o.length + 1 ∧ (s.arrive m).e.length ≤ s.e.length + 1 := by
  have sp : ∀ p : Sr, (s.port p).o = s.o ∧ (s.port p).e = s.e := fun p => ⟨rfl, rfl⟩
  have ss : ∀ (p : Sr) (n : M3), ((s.port p).sends n).o.length = s.o.length + 1 ∧ ((s.port p).sends n).e = s.e := fun p n => ⟨by show (s.o ++ [n]).length = _; simp, rfl⟩
  unfold St.arrive
  split
  · split
    · obtain ⟨h1, h2⟩ := through_more ((s.port (s.m.p.beat m.v).1).sends ⟨m.t + 8, 2, (s.m.p.beat m.v).2.1⟩) m.t
      obtain ⟨h3, h4⟩ := ss (s.m.p.beat m.v).1 ⟨m.t + 8, 2, (s.m.p.beat m.v).2.1⟩
      rw [h1, h2, h3, h4]; omega
    · obtain ⟨h3, h4⟩ := ss (s.m.p.beat m.v).1 ⟨m.t + 8, 2, (s.m.p.beat m.v).2.1⟩
      rw [h3, h4]; omega
  split
  · split
    · obtain ⟨h1, h2⟩ := through_more (s.port (s.m.p.answer m.v m.t).1) m.t
      rw [h1, h2]
      show s.o.length ≤ _ ∧ s.e.length + 1 ≤ _
      omega
    · show s.o.length ≤ _ ∧ s.e.length ≤ _
      omega
  split
  · show s.o.length ≤ _ ∧ s.e.length ≤ _
    omega
  · omega
theorem send_bounds (p : Sr) (fin : Int) : -1 ≤ (p.send fin).2.1 ∧ (p.send fin).2.1 ≤ 1000000000 := by
  unfold Sr.send
  split
  · rename_i hok
    simp only [Sr.ok, Bool.and_eq_true, clk] at hok
    have := inn_true hok.1.1.1.2
    split
    · show -1 ≤ p.x ∧ p.x ≤ 1000000000
      omega
    · show (-1 : Int) ≤ -1 ∧ (-1 : Int) ≤ 1000000000
      omega
  · show (-1 : Int) ≤ -1 ∧ (-1 : Int) ≤ 1000000000
    omega
set_option maxHeartbeats 4000000 in
theorem l9Events_spec (v vi x y vo ve : Value) (s : St) (l : List M3) (fin : Int) (w : World) (base : Nat) (hv : v = s.val x y vo ve) (h : So base w x y vo ve s) (hs : SlF fM w vi l) (hvi : 0 < l.length → ∀ k, vi.ownBlock = some k → k < base)
    (hlen : l.length ≤ 200) (hT : ∀ i, i < l.length → 0 ≤ (M3.at' l i).t ∧ (M3.at' l i).t ≤ 1000000100) (hu : s.u = 0) (ho : s.o.length ≤ 1000) (he : s.e.length ≤ 1000) :
    Calls Tryz.prog 128 #[v, vi, .int .i64 fin] w fun e w' => Arrd base w w' e x y (s.evs l fin) := by
  have hle := h.ow.le
  have hone := hs.one
  obtain ⟨F, hF⟩ : ∃ F, s.evs l fin = F := ⟨_, rfl⟩
  rw [hF]
  have hm0 : s.meas l ≤ 401 := by
    unfold St.meas
    split <;> omega
  have HV : Hid (SlF fM w vi l ∧ (0 < l.length → ∀ k, vi.ownBlock = some k → k < base) ∧ (∀ i, i < l.length → 0 ≤ (M3.at' l i).t ∧ (M3.at' l i).t ≤ 1000000100)) := ⟨hs, hvi, hT⟩
  obtain ⟨av, cv, rfl, -, hlc, hcm, -⟩ := id hs
  unfold maxLen at hcm
  have HI : Hid (s.events l fin (s.meas l) = F ∧ s.meas l ≤ 401) := ⟨hF, hm0⟩
  obtain ⟨N0, hN⟩ : ∃ N0, s.meas l = N0 := ⟨_, rfl⟩
  have HN : Hid (s.meas l = N0) := hN
  clear hF hm0 hN hs hvi hT
  go_enter Tryz.func128, Tryz.ntmps128
  go_wp2_with (first
    | (refine box_s rfl rfl hv ?_; intro w0 r0 hB0)
    | (refine al_st rfl rfl ?_; intro w1 z1 hB1; have lg := r0.lt; have hB2 := below_more hB0 hB1; have hG : Lw w base w.heap.size w0.heap.size x y vo ve s w1 := ⟨r0.below hB1, z1, h.below hB2, Mild.of hB2⟩))
  have hgz : w0.heap.size ≠ w.heap.size := by omega
  have hg0 : w.heap.size ≤ w.heap.size := Nat.le_refl _
  have hz0 : w.heap.size ≤ w0.heap.size := by omega
  obtain ⟨g, hg⟩ : ∃ g, w.heap.size = g := ⟨_, rfl⟩
  obtain ⟨gz, hgz'⟩ : ∃ gz, w0.heap.size = gz := ⟨_, rfl⟩
  have HG : Hid (w.heap.size ≤ g ∧ w.heap.size ≤ gz ∧ base ≤ g) := ⟨by omega, by omega, by omega⟩
  rw [hgz', hg] at hgz
  rw [hgz', hg] at hG
  rw [hgz', hg]
  clear hg hgz' hg0 hz0 r0 z1 hB0 hB1 hB2 lg
  simp only [Act.put, List.setIfInBounds_toArray, List.set_cons_zero, List.set_cons_succ]
  go_loopg [] N0 (fun n wr => ∃ S vo ve, Lw w base g gz x y vo ve S wr ∧ S.events l fin n = F ∧ S.meas l ≤ n ∧ S.o.length + n ≤ 2000 ∧ S.e.length + n ≤ 2000 ∧ 0 ≤ S.u)
  case atStart => exact ⟨s, vo, ve, hG, by rw [← HN.out]; exact HI.out.1, Nat.le_of_eq HN.out, by have := HI.out.2; have := HN.out; omega, by have := HI.out.2; have := HN.out; omega, by omega⟩
  case round =>
    clear hG h hv ho he hu HI HN
    obtain ⟨S, vo, ve, hG, hF, hm, hno, hne, hu0⟩ := hrel
    obtain ⟨j, hj⟩ : ∃ j : Nat, S.u = (j : Int) := ⟨S.u.toNat, by omega⟩
    obtain ⟨X, hX⟩ : ∃ X, S.m.p.x = X := ⟨_, rfl⟩
    have kx : wr.cell? ⟨g, 22, none⟩ = some (.int .i64 X) := by rw [← hX]; exact (sw hG.row).px
    have ku : wr.cell? ⟨g, 27, none⟩ = some (.int .i64 (j : Int)) := by rw [← hj]; exact (sw hG.row).u
    have hju : S.u.toNat = j := by omega
    have HK : Hid (S.events l fin gk = F ∧ S.meas l ≤ gk ∧ S.o.length + gk ≤ 2000 ∧ S.e.length + gk ≤ 2000 ∧ S.u = (j : Int) ∧ S.m.p.x = X) := ⟨hF, hm, hno, hne, hj, hX⟩
    have hto : S.o.length ≤ 2000 := by omega
    have hte : S.e.length ≤ 2000 := by omega
    have HJ : Hid (∀ b : Bool, (decide (S.u < l.length) && decide ((M3.at' l j).t ≤ fin) && (X == 0 || decide (fin < X) || decide ((M3.at' l j).t ≤ X))) = b → S.takes l fin = b) := fun b hb => by unfold St.takes; rw [hju, hX]; exact hb
    have HD : Hid (∀ b : Bool, (X == 0 || decide (fin < X)) = b → S.idle fin = b) := fun b hb => by unfold St.idle; rw [hX]; exact hb
    have HU : Hid (S.u = (j : Int)) := hj
    clear hF hm hno hne hX hj hju hu0
    by_cases hlt : j < l.length
    · have hvs := hG.mild.old HV.out.1 HV.out.2.1
      obtain ⟨b, off, c', e, -, -, -⟩ := hvs.shape (by omega)
      simp only [Value.slice.injEq] at e
      obtain ⟨rfl, -, rfl⟩ := e
      obtain ⟨tt, htt⟩ : ∃ tt, (M3.at' l j).t = tt := ⟨_, rfl⟩
      have hc : wr.cell? ⟨b, off + j * 3, none⟩ = some (.int .i64 tt) := by rw [← htt]; exact hvs.cell okM (at_some hlt) (j := 0) (by decide)
      have HT : Hid ((M3.at' l j).t = tt) := htt
      clear htt hvs
      have hlt' : (j : Int) < (l.length : Int) := by omega
      by_cases h1 : tt ≤ fin
      · by_cases hx : X = 0
        · have HA : Hid (S.takes l fin = true) := HJ.out true (by rw [HT.out, HU.out]; simp [h1, hx, hlt'])
          subst hx
          have hp : 0 < gk := by
            have h1 := (events_take HA.out (by have := HU.out; omega) HK.out.2.1).2
            have h2 := meas_taken HA.out (by have := HU.out; omega)
            have h3 := HK.out.2.1
            omega
          obtain ⟨S', hS'⟩ : ∃ S', S.arrive (M3.at' l j) = S' := ⟨_, rfl⟩
          have hu' : S'.u = (j : Int) := by rw [← hS', arrive_u]; exact HU.out
          have HS : Hid (S.arrive (M3.at' l j) = S') := hS'
          have HU' : Hid (S'.u = (j : Int)) := hu'
          clear hS' hu'
          go_wp2_with (refine ixF okM (r := j) rfl rfl rfl rfl hlt ?_)
          refine region_two (by kernel_rfl) (by kernel_rfl) 6 7 55 (by decide) rfl rfl (by kernel_rfl) (by kernel_rfl) (by decide) (by kernel_rfl) (fun W => Lw w base g gz x y vo ve S W) (fun v W => LE1 w base g gz x y S' v W) (fun W => LE2 w base g gz x y S' W) (fun v W W' h hb => h.below hb) (fun W W' h hb => h.below hb) [S.val x y vo ve, .slice (some ⟨b, off, none⟩) l.length cv, .pointer (some ⟨g, 27, none⟩), .int .i64 (j : Int), .pointer (some ⟨b, off + j * 3, none⟩), (M3.at' l j).val, undef, undef] hG.drew ?step ?first ?second ?done (by decide)
          case step =>
            intro L ix o' A W hn1 hn2 hj hI hg hd
            have hin : ix < 8 := by
              by_cases hl : ix < 8
              · exact hl
              · simp [hl] at hj
            have hsz : A.tmps.size = 89 := hI.size
            rcases ix with _ | ix
            · cases hj
              have e0 : A.eval (.tmp 3) = .pointer (some ⟨g, 0, none⟩) := hI.old 3 (by kernel_rfl)
              exact at_op rfl rfl (wp_load_row _ _ rfl _ e0 _ _ _ _ hg.row.row Tryz.underlying36 rfl info_st ⟨_, rfl, rfl, hg, Below.refl _ _⟩)
            rcases ix with _ | ix
            · cases hj
              have e0 : A.eval (.tmp 1) = .slice (some ⟨b, off, none⟩) l.length cv := hI.old 1 (by kernel_rfl)
              exact at_op rfl rfl (move_op rfl ⟨_, rfl, e0, hg, Below.refl _ _⟩)
            rcases ix with _ | ix
            · cases hj
              have e0 : A.eval (.tmp 3) = .pointer (some ⟨g, 0, none⟩) := hI.old 3 (by kernel_rfl)
              refine at_op rfl rfl (val_op (v := .pointer (some ⟨g, 27, none⟩)) ?_ ⟨_, rfl, rfl, hg, Below.refl _ _⟩)
              unfold execOp
              simp only [List.getElem_toArray, List.getElem_cons_zero, List.getElem_cons_succ, e0]
              simp [go_sem]
            rcases ix with _ | ix
            · cases hj
              have e0 : A.eval (.tmp 51) = .pointer (some ⟨g, 27, none⟩) := hI.val2 hd 2 51 rfl rfl (by kernel_rfl) (by decide) (by decide)
              exact at_op rfl rfl (load_op rfl Tryz.underlying2 e0 (by have := (sw hg.row).u; rwa [HU.out] at this) ⟨_, rfl, rfl, hg, Below.refl _ _⟩)
            rcases ix with _ | ix
            · cases hj
              have e0 : A.eval (.tmp 50) = .slice (some ⟨b, off, none⟩) l.length cv := hI.val2 hd 1 50 rfl rfl (by kernel_rfl) (by decide) (by decide)
              have e1 : A.eval (.tmp 52) = .int .i64 (j : Int) := hI.val2 hd 3 52 rfl rfl (by kernel_rfl) (by decide) (by decide)
              exact at_op rfl rfl (ixF_op okM rfl e0 e1 hlt ⟨_, rfl, rfl, hg, Below.refl _ _⟩)
            rcases ix with _ | ix
            · cases hj
              have e0 : A.eval (.tmp 53) = .pointer (some ⟨b, off + j * 3, none⟩) := hI.val2 hd 4 53 rfl rfl (by kernel_rfl) (by decide) (by decide)
              exact at_op rfl rfl (elF_op okM rfl e0 ((hg.mild.old HV.out.1 HV.out.2.1).range okM (at_some hlt)) ⟨_, rfl, rfl, hg, Below.refl _ _⟩)
            rcases ix with _ | ix
            · exact absurd rfl hn1
            rcases ix with _ | ix
            · exact absurd rfl hn2
            omega
          case first =>
            intro L o' A W hj hI hg hd
            cases hj
            have e0 : A.eval (.tmp 49) = S.val x y vo ve := hI.val2 hd 0 49 rfl rfl (by kernel_rfl) (by decide) (by decide)
            have e1 : A.eval (.tmp 54) = (M3.at' l j).val := hI.val2 hd 5 54 rfl rfl (by kernel_rfl) (by decide) (by decide)
            refine at_op rfl rfl (call_op rfl Tryz.func177 (by kernel_rfl) (by kernel_rfl) ?_)
            simp only [List.map_cons, List.map_nil, e0, e1]
            refine (l9Arrive_spec _ x y vo ve S (M3.at' l j) W base rfl hg.so (HV.out.2.2 j hlt) (by omega) (by omega)).mono ?_
            rw [HS.out]
            rintro e W1 ⟨vo1, ve1, rfl, so1, t1⟩
            exact ⟨_, rfl, _, rfl, vo1, ve1, rfl, so1, t1.row hg.z plain_st, hg.mild.trans t1, _, _, _, _, _, t1.row hg.row plain_st⟩
          case second =>
            intro L o' A W hj hI hE hd
            cases hj
            have e0 : A.eval (.tmp 3) = .pointer (some ⟨g, 0, none⟩) := hI.old 3 (by kernel_rfl)
            obtain ⟨vo1, ve1, ev, so1, z1, M1, x0, y0, o0, q0, s0, r1⟩ := hE
            have e1 : A.eval (.tmp 55) = S'.val x y vo1 ve1 := ev
            refine at_op rfl rfl (stS_op rfl e0 e1 r1 (one_own so1.ow.hx) (one_own so1.ow.hy) (so1.o.one okM) (so1.e.one okE) (fun W2 r2 o2 => ?_))
            have so2 := so1.row o2 r1 plain_st (by decide)
            have z2 := z1.onto o2 hgz
            have M2 := M1.new o2 HG.out.1
            exact ⟨rfl, ⟨vo1, ve1, ev, so2, z2, M2, _, _, _, _, _, r2⟩, vo1, ve1, r2, z2, so2, M2⟩
          case done =>
            intro A W hI hE1 hE2
            have hA := hI.frame [49, 50, 51, 52, 53, 54, 55] (by kernel_rfl)
            rw [hA]
            simp only [putAll, List.foldl_cons, List.foldl_nil, Act.put, List.setIfInBounds_toArray, List.set_cons_zero, List.set_cons_succ]
            clear hA hI
            obtain ⟨vo2, ve2, hL⟩ := hE2
            clear hE1
            have r5 := hL.row
            have ku2 : W.cell? ⟨g, 27, none⟩ = some (.int .i64 (j : Int)) := by have := (sw hL.row).u; rwa [HU'.out] at this
            go_wp2_with (refine st_sn (s' := { S' with u := (j : Int) + 1 }) rfl rfl rfl rfl r5 rfl rfl ?_; rintro w6 r6 o6 -)
            have so6 := (hL.so.row o6 r5 plain_st (by decide)).as (s' := { S' with u := (j : Int) + 1 }) rfl rfl rfl rfl
            have z6 := hL.z.onto o6 hgz
            have M6 := hL.mild.new o6 HG.out.1
            go_roundg (gk - 1)
            case measure => omega
            case rel =>
              have ht := events_take HA.out (by have := HU.out; omega) HK.out.2.1
              have et : S.taken l = { S' with u := (j : Int) + 1 } := by
                unfold St.taken
                rw [show S.u.toNat = j by have := HU.out; omega, HS.out, HU.out]
              rw [et] at ht
              have hmo := arrive_more S (M3.at' l j)
              rw [HS.out] at hmo
              have h3 := HK.out
              refine ⟨_, vo2, ve2, ⟨r6, z6, so6, M6⟩, ht.1.symm.trans h3.1, ht.2, ?_, ?_, ?_⟩
              · show S'.o.length + (gk - 1) ≤ 2000; omega
              · show S'.e.length + (gk - 1) ≤ 2000; omega
              · show 0 ≤ (j : Int) + 1; omega
        · have hx0 : (X == 0) = false := by simpa using hx
          by_cases h2 : fin < X
          · have HA : Hid (S.takes l fin = true) := HJ.out true (by rw [HT.out, HU.out]; simp [h1, h2, hlt'])
            have hp : 0 < gk := by
              have h1 := (events_take HA.out (by have := HU.out; omega) HK.out.2.1).2
              have h2 := meas_taken HA.out (by have := HU.out; omega)
              have h3 := HK.out.2.1
              omega
            obtain ⟨S', hS'⟩ : ∃ S', S.arrive (M3.at' l j) = S' := ⟨_, rfl⟩
            have hu' : S'.u = (j : Int) := by rw [← hS', arrive_u]; exact HU.out
            have HS : Hid (S.arrive (M3.at' l j) = S') := hS'
            have HU' : Hid (S'.u = (j : Int)) := hu'
            clear hS' hu'
            go_wp2_with (refine ixF okM (r := j) rfl rfl rfl rfl hlt ?_)
            refine region_two (by kernel_rfl) (by kernel_rfl) 6 7 55 (by decide) rfl rfl (by kernel_rfl) (by kernel_rfl) (by decide) (by kernel_rfl) (fun W => Lw w base g gz x y vo ve S W) (fun v W => LE1 w base g gz x y S' v W) (fun W => LE2 w base g gz x y S' W) (fun v W W' h hb => h.below hb) (fun W W' h hb => h.below hb) [S.val x y vo ve, .slice (some ⟨b, off, none⟩) l.length cv, .pointer (some ⟨g, 27, none⟩), .int .i64 (j : Int), .pointer (some ⟨b, off + j * 3, none⟩), (M3.at' l j).val, undef, undef] hG.drew ?step ?first ?second ?done (by decide)
            case step =>
              intro L ix o' A W hn1 hn2 hj hI hg hd
              have hin : ix < 8 := by
                by_cases hl : ix < 8
                · exact hl
                · simp [hl] at hj
              have hsz : A.tmps.size = 89 := hI.size
              rcases ix with _ | ix
              · cases hj
                have e0 : A.eval (.tmp 3) = .pointer (some ⟨g, 0, none⟩) := hI.old 3 (by kernel_rfl)
                exact at_op rfl rfl (wp_load_row _ _ rfl _ e0 _ _ _ _ hg.row.row Tryz.underlying36 rfl info_st ⟨_, rfl, rfl, hg, Below.refl _ _⟩)
              rcases ix with _ | ix
              · cases hj
                have e0 : A.eval (.tmp 1) = .slice (some ⟨b, off, none⟩) l.length cv := hI.old 1 (by kernel_rfl)
                exact at_op rfl rfl (move_op rfl ⟨_, rfl, e0, hg, Below.refl _ _⟩)
              rcases ix with _ | ix
              · cases hj
                have e0 : A.eval (.tmp 3) = .pointer (some ⟨g, 0, none⟩) := hI.old 3 (by kernel_rfl)
                refine at_op rfl rfl (val_op (v := .pointer (some ⟨g, 27, none⟩)) ?_ ⟨_, rfl, rfl, hg, Below.refl _ _⟩)
                unfold execOp
                simp only [List.getElem_toArray, List.getElem_cons_zero, List.getElem_cons_succ, e0]
                simp [go_sem]
              rcases ix with _ | ix
              · cases hj
                have e0 : A.eval (.tmp 51) = .pointer (some ⟨g, 27, none⟩) := hI.val2 hd 2 51 rfl rfl (by kernel_rfl) (by decide) (by decide)
                exact at_op rfl rfl (load_op rfl Tryz.underlying2 e0 (by have := (sw hg.row).u; rwa [HU.out] at this) ⟨_, rfl, rfl, hg, Below.refl _ _⟩)
              rcases ix with _ | ix
              · cases hj
                have e0 : A.eval (.tmp 50) = .slice (some ⟨b, off, none⟩) l.length cv := hI.val2 hd 1 50 rfl rfl (by kernel_rfl) (by decide) (by decide)
                have e1 : A.eval (.tmp 52) = .int .i64 (j : Int) := hI.val2 hd 3 52 rfl rfl (by kernel_rfl) (by decide) (by decide)
                exact at_op rfl rfl (ixF_op okM rfl e0 e1 hlt ⟨_, rfl, rfl, hg, Below.refl _ _⟩)
              rcases ix with _ | ix
              · cases hj
                have e0 : A.eval (.tmp 53) = .pointer (some ⟨b, off + j * 3, none⟩) := hI.val2 hd 4 53 rfl rfl (by kernel_rfl) (by decide) (by decide)
                exact at_op rfl rfl (elF_op okM rfl e0 ((hg.mild.old HV.out.1 HV.out.2.1).range okM (at_some hlt)) ⟨_, rfl, rfl, hg, Below.refl _ _⟩)
              rcases ix with _ | ix
              · exact absurd rfl hn1
              rcases ix with _ | ix
              · exact absurd rfl hn2
              omega
            case first =>
              intro L o' A W hj hI hg hd
              cases hj
              have e0 : A.eval (.tmp 49) = S.val x y vo ve := hI.val2 hd 0 49 rfl rfl (by kernel_rfl) (by decide) (by decide)
              have e1 : A.eval (.tmp 54) = (M3.at' l j).val := hI.val2 hd 5 54 rfl rfl (by kernel_rfl) (by decide) (by decide)
              refine at_op rfl rfl (call_op rfl Tryz.func177 (by kernel_rfl) (by kernel_rfl) ?_)
              simp only [List.map_cons, List.map_nil, e0, e1]
              refine (l9Arrive_spec _ x y vo ve S (M3.at' l j) W base rfl hg.so (HV.out.2.2 j hlt) (by omega) (by omega)).mono ?_
              rw [HS.out]
              rintro e W1 ⟨vo1, ve1, rfl, so1, t1⟩
              exact ⟨_, rfl, _, rfl, vo1, ve1, rfl, so1, t1.row hg.z plain_st, hg.mild.trans t1, _, _, _, _, _, t1.row hg.row plain_st⟩
            case second =>
              intro L o' A W hj hI hE hd
              cases hj
              have e0 : A.eval (.tmp 3) = .pointer (some ⟨g, 0, none⟩) := hI.old 3 (by kernel_rfl)
              obtain ⟨vo1, ve1, ev, so1, z1, M1, x0, y0, o0, q0, s0, r1⟩ := hE
              have e1 : A.eval (.tmp 55) = S'.val x y vo1 ve1 := ev
              refine at_op rfl rfl (stS_op rfl e0 e1 r1 (one_own so1.ow.hx) (one_own so1.ow.hy) (so1.o.one okM) (so1.e.one okE) (fun W2 r2 o2 => ?_))
              have so2 := so1.row o2 r1 plain_st (by decide)
              have z2 := z1.onto o2 hgz
              have M2 := M1.new o2 HG.out.1
              exact ⟨rfl, ⟨vo1, ve1, ev, so2, z2, M2, _, _, _, _, _, r2⟩, vo1, ve1, r2, z2, so2, M2⟩
            case done =>
              intro A W hI hE1 hE2
              have hA := hI.frame [49, 50, 51, 52, 53, 54, 55] (by kernel_rfl)
              rw [hA]
              simp only [putAll, List.foldl_cons, List.foldl_nil, Act.put, List.setIfInBounds_toArray, List.set_cons_zero, List.set_cons_succ]
              clear hA hI
              obtain ⟨vo2, ve2, hL⟩ := hE2
              clear hE1
              have r5 := hL.row
              have ku2 : W.cell? ⟨g, 27, none⟩ = some (.int .i64 (j : Int)) := by have := (sw hL.row).u; rwa [HU'.out] at this
              go_wp2_with (refine st_sn (s' := { S' with u := (j : Int) + 1 }) rfl rfl rfl rfl r5 rfl rfl ?_; rintro w6 r6 o6 -)
              have so6 := (hL.so.row o6 r5 plain_st (by decide)).as (s' := { S' with u := (j : Int) + 1 }) rfl rfl rfl rfl
              have z6 := hL.z.onto o6 hgz
              have M6 := hL.mild.new o6 HG.out.1
              go_roundg (gk - 1)
              case measure => omega
              case rel =>
                have ht := events_take HA.out (by have := HU.out; omega) HK.out.2.1
                have et : S.taken l = { S' with u := (j : Int) + 1 } := by
                  unfold St.taken
                  rw [show S.u.toNat = j by have := HU.out; omega, HS.out, HU.out]
                rw [et] at ht
                have hmo := arrive_more S (M3.at' l j)
                rw [HS.out] at hmo
                have h3 := HK.out
                refine ⟨_, vo2, ve2, ⟨r6, z6, so6, M6⟩, ht.1.symm.trans h3.1, ht.2, ?_, ?_, ?_⟩
                · show S'.o.length + (gk - 1) ≤ 2000; omega
                · show S'.e.length + (gk - 1) ≤ 2000; omega
                · show 0 ≤ (j : Int) + 1; omega
          · by_cases h3 : tt ≤ X
            · have HA : Hid (S.takes l fin = true) := HJ.out true (by rw [HT.out, HU.out]; simp [h1, h3, hlt'])
              have hp : 0 < gk := by
                have h1 := (events_take HA.out (by have := HU.out; omega) HK.out.2.1).2
                have h2 := meas_taken HA.out (by have := HU.out; omega)
                have h3 := HK.out.2.1
                omega
              obtain ⟨S', hS'⟩ : ∃ S', S.arrive (M3.at' l j) = S' := ⟨_, rfl⟩
              have hu' : S'.u = (j : Int) := by rw [← hS', arrive_u]; exact HU.out
              have HS : Hid (S.arrive (M3.at' l j) = S') := hS'
              have HU' : Hid (S'.u = (j : Int)) := hu'
              clear hS' hu'
              go_wp2_with (refine ixF okM (r := j) rfl rfl rfl rfl hlt ?_)
              refine region_two (by kernel_rfl) (by kernel_rfl) 6 7 55 (by decide) rfl rfl (by kernel_rfl) (by kernel_rfl) (by decide) (by kernel_rfl) (fun W => Lw w base g gz x y vo ve S W) (fun v W => LE1 w base g gz x y S' v W) (fun W => LE2 w base g gz x y S' W) (fun v W W' h hb => h.below hb) (fun W W' h hb => h.below hb) [S.val x y vo ve, .slice (some ⟨b, off, none⟩) l.length cv, .pointer (some ⟨g, 27, none⟩), .int .i64 (j : Int), .pointer (some ⟨b, off + j * 3, none⟩), (M3.at' l j).val, undef, undef] hG.drew ?step ?first ?second ?done (by decide)
              case step =>
                intro L ix o' A W hn1 hn2 hj hI hg hd
                have hin : ix < 8 := by
                  by_cases hl : ix < 8
                  · exact hl
                  · simp [hl] at hj
                have hsz : A.tmps.size = 89 := hI.size
                rcases ix with _ | ix
                · cases hj
                  have e0 : A.eval (.tmp 3) = .pointer (some ⟨g, 0, none⟩) := hI.old 3 (by kernel_rfl)
                  exact at_op rfl rfl (wp_load_row _ _ rfl _ e0 _ _ _ _ hg.row.row Tryz.underlying36 rfl info_st ⟨_, rfl, rfl, hg, Below.refl _ _⟩)
                rcases ix with _ | ix
                · cases hj
                  have e0 : A.eval (.tmp 1) = .slice (some ⟨b, off, none⟩) l.length cv := hI.old 1 (by kernel_rfl)
                  exact at_op rfl rfl (move_op rfl ⟨_, rfl, e0, hg, Below.refl _ _⟩)
                rcases ix with _ | ix
                · cases hj
                  have e0 : A.eval (.tmp 3) = .pointer (some ⟨g, 0, none⟩) := hI.old 3 (by kernel_rfl)
                  refine at_op rfl rfl (val_op (v := .pointer (some ⟨g, 27, none⟩)) ?_ ⟨_, rfl, rfl, hg, Below.refl _ _⟩)
                  unfold execOp
                  simp only [List.getElem_toArray, List.getElem_cons_zero, List.getElem_cons_succ, e0]
                  simp [go_sem]
                rcases ix with _ | ix
                · cases hj
                  have e0 : A.eval (.tmp 51) = .pointer (some ⟨g, 27, none⟩) := hI.val2 hd 2 51 rfl rfl (by kernel_rfl) (by decide) (by decide)
                  exact at_op rfl rfl (load_op rfl Tryz.underlying2 e0 (by have := (sw hg.row).u; rwa [HU.out] at this) ⟨_, rfl, rfl, hg, Below.refl _ _⟩)
                rcases ix with _ | ix
                · cases hj
                  have e0 : A.eval (.tmp 50) = .slice (some ⟨b, off, none⟩) l.length cv := hI.val2 hd 1 50 rfl rfl (by kernel_rfl) (by decide) (by decide)
                  have e1 : A.eval (.tmp 52) = .int .i64 (j : Int) := hI.val2 hd 3 52 rfl rfl (by kernel_rfl) (by decide) (by decide)
                  exact at_op rfl rfl (ixF_op okM rfl e0 e1 hlt ⟨_, rfl, rfl, hg, Below.refl _ _⟩)
                rcases ix with _ | ix
                · cases hj
                  have e0 : A.eval (.tmp 53) = .pointer (some ⟨b, off + j * 3, none⟩) := hI.val2 hd 4 53 rfl rfl (by kernel_rfl) (by decide) (by decide)
                  exact at_op rfl rfl (elF_op okM rfl e0 ((hg.mild.old HV.out.1 HV.out.2.1).range okM (at_some hlt)) ⟨_, rfl, rfl, hg, Below.refl _ _⟩)
                rcases ix with _ | ix
                · exact absurd rfl hn1
                rcases ix with _ | ix
                · exact absurd rfl hn2
                omega
              case first =>
                intro L o' A W hj hI hg hd
                cases hj
                have e0 : A.eval (.tmp 49) = S.val x y vo ve := hI.val2 hd 0 49 rfl rfl (by kernel_rfl) (by decide) (by decide)
                have e1 : A.eval (.tmp 54) = (M3.at' l j).val := hI.val2 hd 5 54 rfl rfl (by kernel_rfl) (by decide) (by decide)
                refine at_op rfl rfl (call_op rfl Tryz.func177 (by kernel_rfl) (by kernel_rfl) ?_)
                simp only [List.map_cons, List.map_nil, e0, e1]
                refine (l9Arrive_spec _ x y vo ve S (M3.at' l j) W base rfl hg.so (HV.out.2.2 j hlt) (by omega) (by omega)).mono ?_
                rw [HS.out]
                rintro e W1 ⟨vo1, ve1, rfl, so1, t1⟩
                exact ⟨_, rfl, _, rfl, vo1, ve1, rfl, so1, t1.row hg.z plain_st, hg.mild.trans t1, _, _, _, _, _, t1.row hg.row plain_st⟩
              case second =>
                intro L o' A W hj hI hE hd
                cases hj
                have e0 : A.eval (.tmp 3) = .pointer (some ⟨g, 0, none⟩) := hI.old 3 (by kernel_rfl)
                obtain ⟨vo1, ve1, ev, so1, z1, M1, x0, y0, o0, q0, s0, r1⟩ := hE
                have e1 : A.eval (.tmp 55) = S'.val x y vo1 ve1 := ev
                refine at_op rfl rfl (stS_op rfl e0 e1 r1 (one_own so1.ow.hx) (one_own so1.ow.hy) (so1.o.one okM) (so1.e.one okE) (fun W2 r2 o2 => ?_))
                have so2 := so1.row o2 r1 plain_st (by decide)
                have z2 := z1.onto o2 hgz
                have M2 := M1.new o2 HG.out.1
                exact ⟨rfl, ⟨vo1, ve1, ev, so2, z2, M2, _, _, _, _, _, r2⟩, vo1, ve1, r2, z2, so2, M2⟩
              case done =>
                intro A W hI hE1 hE2
                have hA := hI.frame [49, 50, 51, 52, 53, 54, 55] (by kernel_rfl)
                rw [hA]
                simp only [putAll, List.foldl_cons, List.foldl_nil, Act.put, List.setIfInBounds_toArray, List.set_cons_zero, List.set_cons_succ]
                clear hA hI
                obtain ⟨vo2, ve2, hL⟩ := hE2
                clear hE1
                have r5 := hL.row
                have ku2 : W.cell? ⟨g, 27, none⟩ = some (.int .i64 (j : Int)) := by have := (sw hL.row).u; rwa [HU'.out] at this
                go_wp2_with (refine st_sn (s' := { S' with u := (j : Int) + 1 }) rfl rfl rfl rfl r5 rfl rfl ?_; rintro w6 r6 o6 -)
                have so6 := (hL.so.row o6 r5 plain_st (by decide)).as (s' := { S' with u := (j : Int) + 1 }) rfl rfl rfl rfl
                have z6 := hL.z.onto o6 hgz
                have M6 := hL.mild.new o6 HG.out.1
                go_roundg (gk - 1)
                case measure => omega
                case rel =>
                  have ht := events_take HA.out (by have := HU.out; omega) HK.out.2.1
                  have et : S.taken l = { S' with u := (j : Int) + 1 } := by
                    unfold St.taken
                    rw [show S.u.toNat = j by have := HU.out; omega, HS.out, HU.out]
                  rw [et] at ht
                  have hmo := arrive_more S (M3.at' l j)
                  rw [HS.out] at hmo
                  have h3 := HK.out
                  refine ⟨_, vo2, ve2, ⟨r6, z6, so6, M6⟩, ht.1.symm.trans h3.1, ht.2, ?_, ?_, ?_⟩
                  · show S'.o.length + (gk - 1) ≤ 2000; omega
                  · show S'.e.length + (gk - 1) ≤ 2000; omega
                  · show 0 ≤ (j : Int) + 1; omega
            · have HA : Hid (S.takes l fin = false) := HJ.out false (by rw [HT.out]; simp [h2, h3, hx])
              have HE : Hid (S.idle fin = false) := HD.out false (by simp [h2, hx])
              obtain ⟨P, A, B, hP⟩ : ∃ P A B, S.m.p.send fin = (P, A, B) := ⟨_, _, _, rfl⟩
              have hAb : -1 ≤ A ∧ A ≤ 1000000000 := by have := send_bounds S.m.p fin; rwa [hP] at this
              have HP : Hid (S.m.p.send fin = (P, A, B)) := hP
              clear hP
              have lrow := hG.row.lt
              have lz := hG.z.lt
              have hle0 := hG.so.ow.le
              go_wp2_with (first
                | (refine ixF okM (r := j) rfl rfl rfl rfl hlt ?_)
                | (refine ld_sp rfl rfl rfl hG.row ?_)
                | (go_at_call 178; refine (serialSends_spec S.m.p fin _).mono ?_; rw [HP.out]; rintro e w3 ⟨rfl, hb3⟩; have G3 := hG.below hb3; have l3 := G3.row.lt; have lz3 := G3.z.lt; have hM3 := G3.mild.size; clear kx ku)
                | (refine al_p rfl rfl ?_; intro w4 p4 hb4; have G4 := G3.below hb4; have lp := p4.lt)
                | (refine st_pp rfl rfl rfl rfl p4 ?_; rintro w5 p5 o5; have r5 := G4.row.onto o5 (by omega); have z5 := G4.z.onto o5 (by omega); have so5 := G4.so.row o5 p4 plain_p (by decide); have M5 := G4.mild.new o5 (by omega))
                | (refine ld_pp rfl rfl rfl p5 ?_)
                | (refine st_sp rfl rfl rfl rfl r5 ?_; rintro w6 r6 o6 -; have z6 := z5.onto o6 hgz; have so6 := (so5.row o6 r5 plain_st (by decide)).as (s' := S.port P) rfl rfl rfl rfl; have M6 := M5.new o6 HG.out.1; have ko6 := (sw r6).o; have hal : Below w6.heap.size w6 (w6.alloc (.cells #[.int .i64 (A + 8), .int .i64 1, .int .i64 B] 40)) := (Below.refl _ _).alloc (Nat.le_refl _) _; have hlit := own_litF fM okM w6.heap.size w6 #[.int .i64 (A + 8), .int .i64 1, .int .i64 B] [⟨A + 8, 1, B⟩] rfl (by unfold maxLen; simp) (Nat.le_refl _); have so7 := so6.below hal)
                | (at_builtin; refine appF okM rfl (.tmp 81) (.tmp 86) rfl base S.o [⟨A + 8, 1, B⟩] so7.o (hlit.sl okM) (by simp; omega) (by have := so7.ow.le; omega) ?_; intro v8 w8 ho8 hg8; have t8 := Mild.grown not_plainM so7.o hg8; have r8 := t8.row (r6.below hal) plain_st; have z8 := t8.row (z6.below hal) plain_st; have so8 : So base w8 x y v8 ve ((S.port P).sends ⟨A + 8, 1, B⟩) := ⟨(t8.ow so7.ow).as rfl rfl, ho8, so7.e.grown hg8 (fun k hk e => (OwnF.apart so7.o so7.e (by decide)) k hk e)⟩; have M8 := (M6.trans (Mild.of hal)).trans t8)
                | (refine st_so (l := S.o ++ [⟨A + 8, 1, B⟩]) rfl rfl rfl rfl r8 (ho8.one okM) ?_; rintro w9 r9 o9 -; have z9 := z8.onto o9 hgz; have so9 := so8.row o9 r8 plain_st (by decide); have M9 := M8.new o9 HG.out.1))
              go_roundg (gk - 1)
              case measure =>
                have h2 := meas_beats (l := l) HE.out
                have h3 := HK.out.2.1
                omega
              case rel =>
                have ht := events_beat HA.out HE.out HK.out.2.1
                have h2 := meas_beats (l := l) HE.out
                have et : S.beats fin = (S.port P).sends ⟨A + 8, 1, B⟩ := by
                  unfold St.beats
                  rw [HP.out]
                rw [et] at ht h2
                have h3 := HK.out
                refine ⟨_, v8, ve, ⟨r9, z9, so9, M9⟩, ht.1.symm.trans h3.1, ht.2, ?_, ?_, ?_⟩
                · show (S.o ++ [_]).length + (gk - 1) ≤ 2000
                  simp
                  omega
                · show S.e.length + (gk - 1) ≤ 2000; omega
                · show 0 ≤ S.u
                  have := HU.out
                  omega
      · have HA : Hid (S.takes l fin = false) := HJ.out false (by rw [HT.out]; simp [h1])
        by_cases hx : X = 0
        · have HE : Hid (S.idle fin = true) := HD.out true (by simp [hx])
          subst hx
          go_wp2_with (first
            | (refine ixF okM (r := j) rfl rfl rfl rfl hlt ?_)
            | (refine ld_s' rfl rfl rfl hG.row ?_)
            | (refine st_s rfl rfl rfl rfl hG.z (one_own hG.so.ow.hx) (one_own hG.so.ow.hy) (hG.so.o.one okM) (hG.so.e.one okE) ?_; rintro w6 r6 o6 -))
          refine ret_s rfl rfl r6 rfl ?_
          have e1 := HK.out.1
          rw [events_done HA.out HE.out] at e1
          rw [← e1]
          exact ⟨vo, ve, rfl, hG.so.row o6 hG.z plain_st (by decide), hG.mild.new o6 HG.out.2.1⟩
        · have hx0 : (X == 0) = false := by simpa using hx
          by_cases h2 : fin < X
          · have HE : Hid (S.idle fin = true) := HD.out true (by simp [h2])
            go_wp2_with (first
              | (refine ixF okM (r := j) rfl rfl rfl rfl hlt ?_)
              | (refine ld_s' rfl rfl rfl hG.row ?_)
              | (refine st_s rfl rfl rfl rfl hG.z (one_own hG.so.ow.hx) (one_own hG.so.ow.hy) (hG.so.o.one okM) (hG.so.e.one okE) ?_; rintro w6 r6 o6 -))
            refine ret_s rfl rfl r6 rfl ?_
            have e1 := HK.out.1
            rw [events_done HA.out HE.out] at e1
            rw [← e1]
            exact ⟨vo, ve, rfl, hG.so.row o6 hG.z plain_st (by decide), hG.mild.new o6 HG.out.2.1⟩
          · have HE : Hid (S.idle fin = false) := HD.out false (by simp [h2, hx])
            obtain ⟨P, A, B, hP⟩ : ∃ P A B, S.m.p.send fin = (P, A, B) := ⟨_, _, _, rfl⟩
            have hAb : -1 ≤ A ∧ A ≤ 1000000000 := by have := send_bounds S.m.p fin; rwa [hP] at this
            have HP : Hid (S.m.p.send fin = (P, A, B)) := hP
            clear hP
            have lrow := hG.row.lt
            have lz := hG.z.lt
            have hle0 := hG.so.ow.le
            go_wp2_with (first
              | (refine ixF okM (r := j) rfl rfl rfl rfl hlt ?_)
              | (refine ld_sp rfl rfl rfl hG.row ?_)
              | (go_at_call 178; refine (serialSends_spec S.m.p fin _).mono ?_; rw [HP.out]; rintro e w3 ⟨rfl, hb3⟩; have G3 := hG.below hb3; have l3 := G3.row.lt; have lz3 := G3.z.lt; have hM3 := G3.mild.size; clear kx ku)
              | (refine al_p rfl rfl ?_; intro w4 p4 hb4; have G4 := G3.below hb4; have lp := p4.lt)
              | (refine st_pp rfl rfl rfl rfl p4 ?_; rintro w5 p5 o5; have r5 := G4.row.onto o5 (by omega); have z5 := G4.z.onto o5 (by omega); have so5 := G4.so.row o5 p4 plain_p (by decide); have M5 := G4.mild.new o5 (by omega))
              | (refine ld_pp rfl rfl rfl p5 ?_)
              | (refine st_sp rfl rfl rfl rfl r5 ?_; rintro w6 r6 o6 -; have z6 := z5.onto o6 hgz; have so6 := (so5.row o6 r5 plain_st (by decide)).as (s' := S.port P) rfl rfl rfl rfl; have M6 := M5.new o6 HG.out.1; have ko6 := (sw r6).o; have hal : Below w6.heap.size w6 (w6.alloc (.cells #[.int .i64 (A + 8), .int .i64 1, .int .i64 B] 40)) := (Below.refl _ _).alloc (Nat.le_refl _) _; have hlit := own_litF fM okM w6.heap.size w6 #[.int .i64 (A + 8), .int .i64 1, .int .i64 B] [⟨A + 8, 1, B⟩] rfl (by unfold maxLen; simp) (Nat.le_refl _); have so7 := so6.below hal)
              | (at_builtin; refine appF okM rfl (.tmp 81) (.tmp 86) rfl base S.o [⟨A + 8, 1, B⟩] so7.o (hlit.sl okM) (by simp; omega) (by have := so7.ow.le; omega) ?_; intro v8 w8 ho8 hg8; have t8 := Mild.grown not_plainM so7.o hg8; have r8 := t8.row (r6.below hal) plain_st; have z8 := t8.row (z6.below hal) plain_st; have so8 : So base w8 x y v8 ve ((S.port P).sends ⟨A + 8, 1, B⟩) := ⟨(t8.ow so7.ow).as rfl rfl, ho8, so7.e.grown hg8 (fun k hk e => (OwnF.apart so7.o so7.e (by decide)) k hk e)⟩; have M8 := (M6.trans (Mild.of hal)).trans t8)
              | (refine st_so (l := S.o ++ [⟨A + 8, 1, B⟩]) rfl rfl rfl rfl r8 (ho8.one okM) ?_; rintro w9 r9 o9 -; have z9 := z8.onto o9 hgz; have so9 := so8.row o9 r8 plain_st (by decide); have M9 := M8.new o9 HG.out.1))
            go_roundg (gk - 1)
            case measure =>
              have h2 := meas_beats (l := l) HE.out
              have h3 := HK.out.2.1
              omega
            case rel =>
              have ht := events_beat HA.out HE.out HK.out.2.1
              have h2 := meas_beats (l := l) HE.out
              have et : S.beats fin = (S.port P).sends ⟨A + 8, 1, B⟩ := by
                unfold St.beats
                rw [HP.out]
              rw [et] at ht h2
              have h3 := HK.out
              refine ⟨_, v8, ve, ⟨r9, z9, so9, M9⟩, ht.1.symm.trans h3.1, ht.2, ?_, ?_, ?_⟩
              · show (S.o ++ [_]).length + (gk - 1) ≤ 2000
                simp
                omega
              · show S.e.length + (gk - 1) ≤ 2000; omega
              · show 0 ≤ S.u
                have := HU.out
                omega
    · have hlt' : ¬ (j : Int) < (l.length : Int) := by omega
      have HA : Hid (S.takes l fin = false) := HJ.out false (by rw [HU.out]; simp [hlt'])
      by_cases hx : X = 0
      · have HE : Hid (S.idle fin = true) := HD.out true (by simp [hx])
        subst hx
        go_wp2_with (first
          | (refine ixF okM (r := j) rfl rfl rfl rfl hlt ?_)
          | (refine ld_s' rfl rfl rfl hG.row ?_)
          | (refine st_s rfl rfl rfl rfl hG.z (one_own hG.so.ow.hx) (one_own hG.so.ow.hy) (hG.so.o.one okM) (hG.so.e.one okE) ?_; rintro w6 r6 o6 -))
        refine ret_s rfl rfl r6 rfl ?_
        have e1 := HK.out.1
        rw [events_done HA.out HE.out] at e1
        rw [← e1]
        exact ⟨vo, ve, rfl, hG.so.row o6 hG.z plain_st (by decide), hG.mild.new o6 HG.out.2.1⟩
      · have hx0 : (X == 0) = false := by simpa using hx
        by_cases h2 : fin < X
        · have HE : Hid (S.idle fin = true) := HD.out true (by simp [h2])
          go_wp2_with (first
            | (refine ixF okM (r := j) rfl rfl rfl rfl hlt ?_)
            | (refine ld_s' rfl rfl rfl hG.row ?_)
            | (refine st_s rfl rfl rfl rfl hG.z (one_own hG.so.ow.hx) (one_own hG.so.ow.hy) (hG.so.o.one okM) (hG.so.e.one okE) ?_; rintro w6 r6 o6 -))
          refine ret_s rfl rfl r6 rfl ?_
          have e1 := HK.out.1
          rw [events_done HA.out HE.out] at e1
          rw [← e1]
          exact ⟨vo, ve, rfl, hG.so.row o6 hG.z plain_st (by decide), hG.mild.new o6 HG.out.2.1⟩
        · have HE : Hid (S.idle fin = false) := HD.out false (by simp [h2, hx])
          obtain ⟨P, A, B, hP⟩ : ∃ P A B, S.m.p.send fin = (P, A, B) := ⟨_, _, _, rfl⟩
          have hAb : -1 ≤ A ∧ A ≤ 1000000000 := by have := send_bounds S.m.p fin; rwa [hP] at this
          have HP : Hid (S.m.p.send fin = (P, A, B)) := hP
          clear hP
          have lrow := hG.row.lt
          have lz := hG.z.lt
          have hle0 := hG.so.ow.le
          go_wp2_with (first
            | (refine ixF okM (r := j) rfl rfl rfl rfl hlt ?_)
            | (refine ld_sp rfl rfl rfl hG.row ?_)
            | (go_at_call 178; refine (serialSends_spec S.m.p fin _).mono ?_; rw [HP.out]; rintro e w3 ⟨rfl, hb3⟩; have G3 := hG.below hb3; have l3 := G3.row.lt; have lz3 := G3.z.lt; have hM3 := G3.mild.size; clear kx ku)
            | (refine al_p rfl rfl ?_; intro w4 p4 hb4; have G4 := G3.below hb4; have lp := p4.lt)
            | (refine st_pp rfl rfl rfl rfl p4 ?_; rintro w5 p5 o5; have r5 := G4.row.onto o5 (by omega); have z5 := G4.z.onto o5 (by omega); have so5 := G4.so.row o5 p4 plain_p (by decide); have M5 := G4.mild.new o5 (by omega))
            | (refine ld_pp rfl rfl rfl p5 ?_)
            | (refine st_sp rfl rfl rfl rfl r5 ?_; rintro w6 r6 o6 -; have z6 := z5.onto o6 hgz; have so6 := (so5.row o6 r5 plain_st (by decide)).as (s' := S.port P) rfl rfl rfl rfl; have M6 := M5.new o6 HG.out.1; have ko6 := (sw r6).o; have hal : Below w6.heap.size w6 (w6.alloc (.cells #[.int .i64 (A + 8), .int .i64 1, .int .i64 B] 40)) := (Below.refl _ _).alloc (Nat.le_refl _) _; have hlit := own_litF fM okM w6.heap.size w6 #[.int .i64 (A + 8), .int .i64 1, .int .i64 B] [⟨A + 8, 1, B⟩] rfl (by unfold maxLen; simp) (Nat.le_refl _); have so7 := so6.below hal)
            | (at_builtin; refine appF okM rfl (.tmp 81) (.tmp 86) rfl base S.o [⟨A + 8, 1, B⟩] so7.o (hlit.sl okM) (by simp; omega) (by have := so7.ow.le; omega) ?_; intro v8 w8 ho8 hg8; have t8 := Mild.grown not_plainM so7.o hg8; have r8 := t8.row (r6.below hal) plain_st; have z8 := t8.row (z6.below hal) plain_st; have so8 : So base w8 x y v8 ve ((S.port P).sends ⟨A + 8, 1, B⟩) := ⟨(t8.ow so7.ow).as rfl rfl, ho8, so7.e.grown hg8 (fun k hk e => (OwnF.apart so7.o so7.e (by decide)) k hk e)⟩; have M8 := (M6.trans (Mild.of hal)).trans t8)
            | (refine st_so (l := S.o ++ [⟨A + 8, 1, B⟩]) rfl rfl rfl rfl r8 (ho8.one okM) ?_; rintro w9 r9 o9 -; have z9 := z8.onto o9 hgz; have so9 := so8.row o9 r8 plain_st (by decide); have M9 := M8.new o9 HG.out.1))
          go_roundg (gk - 1)
          case measure =>
            have h2 := meas_beats (l := l) HE.out
            have h3 := HK.out.2.1
            omega
          case rel =>
            have ht := events_beat HA.out HE.out HK.out.2.1
            have h2 := meas_beats (l := l) HE.out
            have et : S.beats fin = (S.port P).sends ⟨A + 8, 1, B⟩ := by
              unfold St.beats
              rw [HP.out]
            rw [et] at ht h2
            have h3 := HK.out
            refine ⟨_, v8, ve, ⟨r9, z9, so9, M9⟩, ht.1.symm.trans h3.1, ht.2, ?_, ?_, ?_⟩
            · show (S.o ++ [_]).length + (gk - 1) ≤ 2000
              simp
              omega
            · show S.e.length + (gk - 1) ≤ 2000; omega
            · show 0 ≤ S.u
              have := HU.out
              omega
end Go.Proofs.YtghmkacamabndaaGreatDoor.Mem
namespace Go.Proofs.YtghmkacamabndaaGreatDoor.Mem
open Go.ChangeShapes Go.WideShapes Go.RowKit Base Num Slc Slf Rw Tmr Reg

theorem inboxOk_few {l : List M3} (h : inboxOk l = true) : l.length ≤ 200 := by
  simp only [inboxOk, Bool.and_eq_true, decide_eq_true_eq] at h
  exact h.2
end Go.Proofs.YtghmkacamabndaaGreatDoor.Mem
namespace Go.Proofs.YtghmkacamabndaaGreatDoor.Mem
open Go.ChangeShapes Go.WideShapes Go.RowKit Base Num Slc Rw Tmr Srl Rom RomOf Opl Reg
section
variable {base : Nat} {w : World} {x y v : Value} {m : Mc}

def Did (base : Nat) (w w' : World) (e : Ending) (x y : Value) (r : Mc × Int) : Prop := e = .returned (.tuple #[r.1.val x y, .int .i64 r.2]) ∧ Ow base w' x y r.1 ∧ But y w w'
set_option maxRecDepth 100000 in
set_option maxHeartbeats 1000000 in
theorem l7Do_0 (hv : v = m.val x y) (h : Ow base w x y m) (hok : m.ok = true) (n : Int) (hn : bok n = true) :
    Calls Tryz.prog 175 #[v, .int .i64 0, .int .i64 n] w fun e w' => Did base w w' e x y (m.does n 0) := by
  go_enter Tryz.func175, Tryz.ntmps175
  go_wp2_with (first
    | (refine box_m rfl rfl hv ?_; intro w0 r0 hB0)
    | (refine al_mc rfl rfl ?_; intro w1 z1 hB1; have r1 := r0.below hB1; have hB2 := hB0.trans (hB1.mono hB0.size); have l0 := r0.lt; have lz := z1.lt; have h1 := h.below hB2)
    | (refine ld_mc rfl rfl rfl r1 ?_)
    | (refine st_mc rfl rfl rfl rfl z1 (one_own h.hx) (one_own h.hy) ?_; intro w6 r6 o6 s6))
  refine ret_mc2 rfl rfl r6 rfl rfl ?_
  have hB6 := below_onto hB2 o6 (by omega)
  exact ⟨rfl, (h.below hB6).as rfl rfl, .of hB6⟩
set_option maxRecDepth 100000 in
set_option maxHeartbeats 1000000 in
theorem l7Do_1 (hv : v = m.val x y) (h : Ow base w x y m) (hok : m.ok = true) (n : Int) (hn : bok n = true) :
    Calls Tryz.prog 175 #[v, .int .i64 1, .int .i64 n] w fun e w' => Did base w w' e x y (m.does n 1) := by
  go_enter Tryz.func175, Tryz.ntmps175
  go_wp2_with (first
    | (refine box_m rfl rfl hv ?_; intro w0 r0 hB0)
    | (refine al_mc rfl rfl ?_; intro w1 z1 hB1; have r1 := r0.below hB1; have hB2 := hB0.trans (hB1.mono hB0.size); have l0 := r0.lt; have lz := z1.lt; have h1 := h.below hB2)
    | (refine st_num (m' := (m.does n 1).1) rfl rfl rfl rfl r1 rfl rfl ?_; intro w2 r2 o2 s2; have z2 := z1.onto o2 (by omega); have hB3 := below_onto hB2 o2 (by omega))
    | (refine ld_mc rfl rfl rfl r2 ?_)
    | (refine st_mc rfl rfl rfl rfl z2 (one_own h.hx) (one_own h.hy) ?_; intro w6 r6 o6 s6))
  refine ret_mc2 rfl rfl r6 rfl rfl ?_
  have hB6 := below_onto hB3 o6 (by omega)
  exact ⟨rfl, (h.below hB6).as rfl rfl, .of hB6⟩
set_option maxRecDepth 100000 in
set_option maxHeartbeats 1000000 in
theorem l7Do_2 (hv : v = m.val x y) (h : Ow base w x y m) (hok : m.ok = true) (n : Int) (hn : bok n = true) :
    Calls Tryz.prog 175 #[v, .int .i64 2, .int .i64 n] w fun e w' => Did base w w' e x y (m.does n 2) := by
  go_enter Tryz.func175, Tryz.ntmps175
  go_wp2_with (first
    | (refine box_m rfl rfl hv ?_; intro w0 r0 hB0)
    | (refine al_mc rfl rfl ?_; intro w1 z1 hB1; have r1 := r0.below hB1; have hB2 := hB0.trans (hB1.mono hB0.size); have l0 := r0.lt; have lz := z1.lt; have h1 := h.below hB2)
    | (refine st_num (m' := (m.does n 2).1) rfl rfl rfl rfl r1 rfl rfl ?_; intro w2 r2 o2 s2; have z2 := z1.onto o2 (by omega); have hB3 := below_onto hB2 o2 (by omega))
    | (refine ld_mc rfl rfl rfl r2 ?_)
    | (refine st_mc rfl rfl rfl rfl z2 (one_own h.hx) (one_own h.hy) ?_; intro w6 r6 o6 s6))
  refine ret_mc2 rfl rfl r6 rfl rfl ?_
  have hB6 := below_onto hB3 o6 (by omega)
  exact ⟨rfl, (h.below hB6).as rfl rfl, .of hB6⟩
set_option maxRecDepth 100000 in
set_option maxHeartbeats 1000000 in
theorem l7Do_3 (hv : v = m.val x y) (h : Ow base w x y m) (hok : m.ok = true) (n : Int) (hn : bok n = true) :
    Calls Tryz.prog 175 #[v, .int .i64 3, .int .i64 n] w fun e w' => Did base w w' e x y (m.does n 3) := by
  go_enter Tryz.func175, Tryz.ntmps175
  go_wp2_with (first
    | (refine box_m rfl rfl hv ?_; intro w0 r0 hB0)
    | (refine al_mc rfl rfl ?_; intro w1 z1 hB1; have r1 := r0.below hB1; have hB2 := hB0.trans (hB1.mono hB0.size); have l0 := r0.lt; have lz := z1.lt; have h1 := h.below hB2; have kc := (cw r1).b)
    | (refine st_num (m' := (m.does n 3).1) rfl rfl rfl rfl r1 rfl rfl ?_; intro w2 r2 o2 s2; have z2 := z1.onto o2 (by omega); have hB3 := below_onto hB2 o2 (by omega))
    | (refine ld_mc rfl rfl rfl r2 ?_)
    | (refine st_mc rfl rfl rfl rfl z2 (one_own h.hx) (one_own h.hy) ?_; intro w6 r6 o6 s6))
  refine ret_mc2 rfl rfl r6 rfl rfl ?_
  have hB6 := below_onto hB3 o6 (by omega)
  exact ⟨rfl, (h.below hB6).as rfl rfl, .of hB6⟩
set_option maxRecDepth 100000 in
set_option maxHeartbeats 1000000 in
theorem l7Do_4 (hv : v = m.val x y) (h : Ow base w x y m) (hok : m.ok = true) (n : Int) (hn : bok n = true) :
    Calls Tryz.prog 175 #[v, .int .i64 4, .int .i64 n] w fun e w' => Did base w w' e x y (m.does n 4) := by
  go_enter Tryz.func175, Tryz.ntmps175
  go_wp2_with (first
    | (refine box_m rfl rfl hv ?_; intro w0 r0 hB0)
    | (refine al_mc rfl rfl ?_; intro w1 z1 hB1; have r1 := r0.below hB1; have hB2 := hB0.trans (hB1.mono hB0.size); have l0 := r0.lt; have lz := z1.lt; have h1 := h.below hB2; have kc := (cw r1).a)
    | (refine st_num (m' := (m.does n 4).1) rfl rfl rfl rfl r1 rfl rfl ?_; intro w2 r2 o2 s2; have z2 := z1.onto o2 (by omega); have hB3 := below_onto hB2 o2 (by omega))
    | (refine ld_mc rfl rfl rfl r2 ?_)
    | (refine st_mc rfl rfl rfl rfl z2 (one_own h.hx) (one_own h.hy) ?_; intro w6 r6 o6 s6))
  refine ret_mc2 rfl rfl r6 rfl rfl ?_
  have hB6 := below_onto hB3 o6 (by omega)
  exact ⟨rfl, (h.below hB6).as rfl rfl, .of hB6⟩
set_option maxRecDepth 100000 in
set_option maxHeartbeats 1000000 in
theorem l7Do_27 (hv : v = m.val x y) (h : Ow base w x y m) (hok : m.ok = true) (n : Int) (hn : bok n = true) :
    Calls Tryz.prog 175 #[v, .int .i64 27, .int .i64 n] w fun e w' => Did base w w' e x y (m.does n 27) := by
  go_enter Tryz.func175, Tryz.ntmps175
  go_wp2_with (first
    | (refine box_m rfl rfl hv ?_; intro w0 r0 hB0)
    | (refine al_mc rfl rfl ?_; intro w1 z1 hB1; have r1 := r0.below hB1; have hB2 := hB0.trans (hB1.mono hB0.size); have l0 := r0.lt; have lz := z1.lt; have h1 := h.below hB2)
    | (refine st_yes (m' := (m.does n 27).1) rfl rfl rfl rfl r1 rfl rfl ?_; intro w2 r2 o2 s2; have z2 := z1.onto o2 (by omega); have hB3 := below_onto hB2 o2 (by omega))
    | (refine ld_mc rfl rfl rfl r2 ?_)
    | (refine st_mc rfl rfl rfl rfl z2 (one_own h.hx) (one_own h.hy) ?_; intro w6 r6 o6 s6))
  refine ret_mc2 rfl rfl r6 rfl rfl ?_
  have hB6 := below_onto hB3 o6 (by omega)
  exact ⟨rfl, (h.below hB6).as rfl rfl, .of hB6⟩
set_option maxRecDepth 100000 in
set_option maxHeartbeats 1000000 in
theorem l7Do_28 (hv : v = m.val x y) (h : Ow base w x y m) (hok : m.ok = true) (n : Int) (hn : bok n = true) :
    Calls Tryz.prog 175 #[v, .int .i64 28, .int .i64 n] w fun e w' => Did base w w' e x y (m.does n 28) := by
  go_enter Tryz.func175, Tryz.ntmps175
  go_wp2_with (first
    | (refine box_m rfl rfl hv ?_; intro w0 r0 hB0)
    | (refine al_mc rfl rfl ?_; intro w1 z1 hB1; have r1 := r0.below hB1; have hB2 := hB0.trans (hB1.mono hB0.size); have l0 := r0.lt; have lz := z1.lt; have h1 := h.below hB2)
    | (refine st_yes (m' := (m.does n 28).1) rfl rfl rfl rfl r1 rfl rfl ?_; intro w2 r2 o2 s2; have z2 := z1.onto o2 (by omega); have hB3 := below_onto hB2 o2 (by omega))
    | (refine ld_mc rfl rfl rfl r2 ?_)
    | (refine st_mc rfl rfl rfl rfl z2 (one_own h.hx) (one_own h.hy) ?_; intro w6 r6 o6 s6))
  refine ret_mc2 rfl rfl r6 rfl rfl ?_
  have hB6 := below_onto hB3 o6 (by omega)
  exact ⟨rfl, (h.below hB6).as rfl rfl, .of hB6⟩
set_option maxRecDepth 100000 in
set_option maxHeartbeats 1000000 in
theorem l7Do_30 (hv : v = m.val x y) (h : Ow base w x y m) (hok : m.ok = true) (n : Int) (hn : bok n = true) :
    Calls Tryz.prog 175 #[v, .int .i64 30, .int .i64 n] w fun e w' => Did base w w' e x y (m.does n 30) := by
  go_enter Tryz.func175, Tryz.ntmps175
  go_wp2_with (first
    | (refine box_m rfl rfl hv ?_; intro w0 r0 hB0)
    | (refine al_mc rfl rfl ?_; intro w1 z1 hB1; have r1 := r0.below hB1; have hB2 := hB0.trans (hB1.mono hB0.size); have l0 := r0.lt; have lz := z1.lt; have h1 := h.below hB2)
    | (refine st_yes (m' := (m.does n 30).1) rfl rfl rfl rfl r1 rfl rfl ?_; intro w2 r2 o2 s2; have z2 := z1.onto o2 (by omega); have hB3 := below_onto hB2 o2 (by omega))
    | (refine ld_mc rfl rfl rfl r2 ?_)
    | (refine st_mc rfl rfl rfl rfl z2 (one_own h.hx) (one_own h.hy) ?_; intro w6 r6 o6 s6))
  refine ret_mc2 rfl rfl r6 rfl rfl ?_
  have hB6 := below_onto hB3 o6 (by omega)
  exact ⟨rfl, (h.below hB6).as rfl rfl, .of hB6⟩
set_option maxRecDepth 100000 in
set_option maxHeartbeats 1000000 in
theorem l7Do_5 (hv : v = m.val x y) (h : Ow base w x y m) (hok : m.ok = true) (n : Int) (hn : bok n = true) :
    Calls Tryz.prog 175 #[v, .int .i64 5, .int .i64 n] w fun e w' => Did base w w' e x y (m.does n 5) := by
  go_enter Tryz.func175, Tryz.ntmps175
  go_wp2_with (first
    | (refine box_m rfl rfl hv ?_; intro w0 r0 hB0)
    | (refine al_mc rfl rfl ?_; intro w1 z1 hB1; have r1 := r0.below hB1; have hB2 := hB0.trans (hB1.mono hB0.size); have l0 := r0.lt; have lz := z1.lt; have h1 := h.below hB2)
    | (refine ld_mc rfl rfl rfl r1 ?_)
    | (go_at_call 173; refine (l6Read_spec _ m _ _ h1.sl (Mc.right hok) (bok_iff.1 hn)).mono ?_; rintro e w2 ⟨rfl, hb2⟩; have hB3 := hB2.trans (hb2.mono hB2.size); have z2 := z1.below hb2; have r2 := r1.below hb2)
    | (refine st_num (m' := (m.does n 5).1) rfl rfl rfl rfl r2 rfl rfl ?_; intro w3 r3 o3 s3; have z3 := z2.onto o3 (by omega); have hB4 := below_onto hB3 o3 (by omega))
    | (refine ld_mc rfl rfl rfl r3 ?_)
    | (refine st_mc rfl rfl rfl rfl z3 (one_own h.hx) (one_own h.hy) ?_; intro w6 r6 o6 s6))
  refine ret_mc2 rfl rfl r6 rfl rfl ?_
  have hB6 := below_onto hB4 o6 (by omega)
  exact ⟨rfl, (h.below hB6).as rfl rfl, .of hB6⟩
set_option maxRecDepth 100000 in
set_option maxHeartbeats 1000000 in
theorem l7Do_7 (hv : v = m.val x y) (h : Ow base w x y m) (hok : m.ok = true) (n : Int) (hn : bok n = true) :
    Calls Tryz.prog 175 #[v, .int .i64 7, .int .i64 n] w fun e w' => Did base w w' e x y (m.does n 7) := by
  go_enter Tryz.func175, Tryz.ntmps175
  go_wp2_with (first
    | (refine box_m rfl rfl hv ?_; intro w0 r0 hB0)
    | (refine al_mc rfl rfl ?_; intro w1 z1 hB1; have r1 := r0.below hB1; have hB2 := hB0.trans (hB1.mono hB0.size); have l0 := r0.lt; have lz := z1.lt; have h1 := h.below hB2; have kc := (cw r1).b)
    | (refine ld_mc rfl rfl rfl r1 ?_)
    | (go_at_call 173; refine (l6Read_spec _ m _ _ h1.sl (Mc.right hok) (bok_iff.1 (okm.1 hok).b)).mono ?_; rintro e w2 ⟨rfl, hb2⟩; have hB3 := hB2.trans (hb2.mono hB2.size); have z2 := z1.below hb2; have r2 := r1.below hb2)
    | (refine st_num (m' := (m.does n 7).1) rfl rfl rfl rfl r2 rfl rfl ?_; intro w3 r3 o3 s3; have z3 := z2.onto o3 (by omega); have hB4 := below_onto hB3 o3 (by omega))
    | (refine ld_mc rfl rfl rfl r3 ?_)
    | (refine st_mc rfl rfl rfl rfl z3 (one_own h.hx) (one_own h.hy) ?_; intro w6 r6 o6 s6))
  refine ret_mc2 rfl rfl r6 rfl rfl ?_
  have hB6 := below_onto hB4 o6 (by omega)
  exact ⟨rfl, (h.below hB6).as rfl rfl, .of hB6⟩
set_option maxRecDepth 100000 in
set_option maxHeartbeats 1000000 in
theorem l7Do_6 (hv : v = m.val x y) (h : Ow base w x y m) (hok : m.ok = true) (n : Int) (hn : bok n = true) :
    Calls Tryz.prog 175 #[v, .int .i64 6, .int .i64 n] w fun e w' => Did base w w' e x y (m.does n 6) := by
  obtain ⟨g, hg, hgl⟩ := ram_block h.hy hok
  go_enter Tryz.func175, Tryz.ntmps175
  go_wp2_with (first
    | (refine box_m rfl rfl hv ?_; intro w0 r0 hB0)
    | (refine al_mc rfl rfl ?_; intro w1 z1 hB1; have r1 := r0.below hB1; have hB2 := hB0.trans (hB1.mono hB0.size); have l0 := r0.lt; have lz := z1.lt; have h1 := h.below hB2; have ka := (cw r1).a)
    | (refine ld_mc rfl rfl rfl r1 ?_)
    | (go_at_call 233; refine (l7Put_spec rfl h1 hok _ _ hn (okm.1 hok).a).mono ?_; rintro e w3 ⟨rfl, h3, hb3⟩; have z3 := hb3.row hg z1 (by omega))
    | (refine st_mc rfl rfl rfl rfl z3 (one_own h.hx) (one_own h.hy) ?_; intro w6 r6 o6 s6))
  refine ret_mc2 rfl rfl r6 rfl rfl ?_
  exact ⟨rfl, h3.at o6 (fun e => by have := (h.hx.lt _ e).2; omega) (fun e => by have := (h.hy.lt _ e).2; omega), ((But.of hB2).trans hb3).new o6 (by omega)⟩
set_option maxRecDepth 100000 in
set_option maxHeartbeats 1000000 in
theorem l7Do_8 (hv : v = m.val x y) (h : Ow base w x y m) (hok : m.ok = true) (n : Int) (hn : bok n = true) :
    Calls Tryz.prog 175 #[v, .int .i64 8, .int .i64 n] w fun e w' => Did base w w' e x y (m.does n 8) := by
  obtain ⟨g, hg, hgl⟩ := ram_block h.hy hok
  go_enter Tryz.func175, Tryz.ntmps175
  go_wp2_with (first
    | (refine box_m rfl rfl hv ?_; intro w0 r0 hB0)
    | (refine al_mc rfl rfl ?_; intro w1 z1 hB1; have r1 := r0.below hB1; have hB2 := hB0.trans (hB1.mono hB0.size); have l0 := r0.lt; have lz := z1.lt; have h1 := h.below hB2; have ka := (cw r1).a; have kb := (cw r1).b)
    | (refine ld_mc rfl rfl rfl r1 ?_)
    | (go_at_call 233; refine (l7Put_spec rfl h1 hok _ _ (okm.1 hok).b (okm.1 hok).a).mono ?_; rintro e w3 ⟨rfl, h3, hb3⟩; have z3 := hb3.row hg z1 (by omega))
    | (refine st_mc rfl rfl rfl rfl z3 (one_own h.hx) (one_own h.hy) ?_; intro w6 r6 o6 s6))
  refine ret_mc2 rfl rfl r6 rfl rfl ?_
  exact ⟨rfl, h3.at o6 (fun e => by have := (h.hx.lt _ e).2; omega) (fun e => by have := (h.hy.lt _ e).2; omega), ((But.of hB2).trans hb3).new o6 (by omega)⟩
set_option maxRecDepth 100000 in
set_option maxHeartbeats 1000000 in
theorem l7Do_25 (hv : v = m.val x y) (h : Ow base w x y m) (hok : m.ok = true) (n : Int) (hn : bok n = true) :
    Calls Tryz.prog 175 #[v, .int .i64 25, .int .i64 n] w fun e w' => Did base w w' e x y (m.does n 25) := by
  obtain ⟨g, hg, hgl⟩ := ram_block h.hy hok
  go_enter Tryz.func175, Tryz.ntmps175
  go_wp2_with (first
    | (refine box_m rfl rfl hv ?_; intro w0 r0 hB0)
    | (refine al_mc rfl rfl ?_; intro w1 z1 hB1; have r1 := r0.below hB1; have hB2 := hB0.trans (hB1.mono hB0.size); have l0 := r0.lt; have lz := z1.lt; have h1 := h.below hB2; have ka := (cw r1).a)
    | (refine ld_mc rfl rfl rfl r1 ?_)
    | (go_at_call 172; refine (l7Push_spec rfl h1 hok _ (okm.1 hok).a).mono ?_; rintro e w3 ⟨rfl, h3, hb3⟩; have z3 := hb3.row hg z1 (by omega))
    | (refine st_mc rfl rfl rfl rfl z3 (one_own h.hx) (one_own h.hy) ?_; intro w6 r6 o6 s6))
  refine ret_mc2 rfl rfl r6 rfl rfl ?_
  exact ⟨rfl, h3.at o6 (fun e => by have := (h.hx.lt _ e).2; omega) (fun e => by have := (h.hy.lt _ e).2; omega), ((But.of hB2).trans hb3).new o6 (by omega)⟩
set_option maxRecDepth 100000 in
set_option maxHeartbeats 1000000 in
theorem l7Do_9 (hv : v = m.val x y) (h : Ow base w x y m) (hok : m.ok = true) (n : Int) (hn : bok n = true) :
    Calls Tryz.prog 175 #[v, .int .i64 9, .int .i64 n] w fun e w' => Did base w w' e x y (m.does n 9) := by
  go_enter Tryz.func175, Tryz.ntmps175
  go_wp2_with (first
    | (refine box_m rfl rfl hv ?_; intro w0 r0 hB0)
    | (refine al_mc rfl rfl ?_; intro w1 z1 hB1; have r1 := r0.below hB1; have hB2 := hB0.trans (hB1.mono hB0.size); have l0 := r0.lt; have lz := z1.lt; have h1 := h.below hB2)
    | (refine ld_mc rfl rfl rfl r1 ?_)
    | (go_at_call 236; refine (l7Alu_9 rfl h1 n).mono ?_; rintro e w2 ⟨rfl, hb2⟩; have hB3 := hB2.trans (hb2.mono hB2.size); have z2 := z1.below hb2; have r2 := r1.below hb2)
    | (refine st_mc rfl rfl rfl rfl r2 (one_own h.hx) (one_own h.hy) ?_; intro w3 r3 o3 s3; have z3 := z2.onto o3 (by omega); have hB4 := below_onto hB3 o3 (by omega))
    | (refine ld_mc rfl rfl rfl r3 ?_)
    | (refine st_mc rfl rfl rfl rfl z3 (one_own h.hx) (one_own h.hy) ?_; intro w6 r6 o6 s6))
  refine ret_mc2 rfl rfl r6 rfl rfl ?_
  have hB6 := below_onto hB4 o6 (by omega)
  exact ⟨rfl, (h.below hB6).as rfl rfl, .of hB6⟩
set_option maxRecDepth 100000 in
set_option maxHeartbeats 1000000 in
theorem l7Do_10 (hv : v = m.val x y) (h : Ow base w x y m) (hok : m.ok = true) (n : Int) (hn : bok n = true) :
    Calls Tryz.prog 175 #[v, .int .i64 10, .int .i64 n] w fun e w' => Did base w w' e x y (m.does n 10) := by
  go_enter Tryz.func175, Tryz.ntmps175
  go_wp2_with (first
    | (refine box_m rfl rfl hv ?_; intro w0 r0 hB0)
    | (refine al_mc rfl rfl ?_; intro w1 z1 hB1; have r1 := r0.below hB1; have hB2 := hB0.trans (hB1.mono hB0.size); have l0 := r0.lt; have lz := z1.lt; have h1 := h.below hB2)
    | (refine ld_mc rfl rfl rfl r1 ?_)
    | (go_at_call 236; refine (l7Alu_10 rfl h1 n).mono ?_; rintro e w2 ⟨rfl, hb2⟩; have hB3 := hB2.trans (hb2.mono hB2.size); have z2 := z1.below hb2; have r2 := r1.below hb2)
    | (refine st_mc rfl rfl rfl rfl r2 (one_own h.hx) (one_own h.hy) ?_; intro w3 r3 o3 s3; have z3 := z2.onto o3 (by omega); have hB4 := below_onto hB3 o3 (by omega))
    | (refine ld_mc rfl rfl rfl r3 ?_)
    | (refine st_mc rfl rfl rfl rfl z3 (one_own h.hx) (one_own h.hy) ?_; intro w6 r6 o6 s6))
  refine ret_mc2 rfl rfl r6 rfl rfl ?_
  have hB6 := below_onto hB4 o6 (by omega)
  exact ⟨rfl, (h.below hB6).as rfl rfl, .of hB6⟩
set_option maxRecDepth 100000 in
set_option maxHeartbeats 1000000 in
theorem l7Do_11 (hv : v = m.val x y) (h : Ow base w x y m) (hok : m.ok = true) (n : Int) (hn : bok n = true) :
    Calls Tryz.prog 175 #[v, .int .i64 11, .int .i64 n] w fun e w' => Did base w w' e x y (m.does n 11) := by
  go_enter Tryz.func175, Tryz.ntmps175
  go_wp2_with (first
    | (refine box_m rfl rfl hv ?_; intro w0 r0 hB0)
    | (refine al_mc rfl rfl ?_; intro w1 z1 hB1; have r1 := r0.below hB1; have hB2 := hB0.trans (hB1.mono hB0.size); have l0 := r0.lt; have lz := z1.lt; have h1 := h.below hB2)
    | (refine ld_mc rfl rfl rfl r1 ?_)
    | (go_at_call 236; refine (l7Alu_11 rfl h1 n).mono ?_; rintro e w2 ⟨rfl, hb2⟩; have hB3 := hB2.trans (hb2.mono hB2.size); have z2 := z1.below hb2; have r2 := r1.below hb2)
    | (refine st_mc rfl rfl rfl rfl r2 (one_own h.hx) (one_own h.hy) ?_; intro w3 r3 o3 s3; have z3 := z2.onto o3 (by omega); have hB4 := below_onto hB3 o3 (by omega))
    | (refine ld_mc rfl rfl rfl r3 ?_)
    | (refine st_mc rfl rfl rfl rfl z3 (one_own h.hx) (one_own h.hy) ?_; intro w6 r6 o6 s6))
  refine ret_mc2 rfl rfl r6 rfl rfl ?_
  have hB6 := below_onto hB4 o6 (by omega)
  exact ⟨rfl, (h.below hB6).as rfl rfl, .of hB6⟩
set_option maxRecDepth 100000 in
set_option maxHeartbeats 1000000 in
theorem l7Do_12 (hv : v = m.val x y) (h : Ow base w x y m) (hok : m.ok = true) (n : Int) (hn : bok n = true) :
    Calls Tryz.prog 175 #[v, .int .i64 12, .int .i64 n] w fun e w' => Did base w w' e x y (m.does n 12) := by
  go_enter Tryz.func175, Tryz.ntmps175
  go_wp2_with (first
    | (refine box_m rfl rfl hv ?_; intro w0 r0 hB0)
    | (refine al_mc rfl rfl ?_; intro w1 z1 hB1; have r1 := r0.below hB1; have hB2 := hB0.trans (hB1.mono hB0.size); have l0 := r0.lt; have lz := z1.lt; have h1 := h.below hB2)
    | (refine ld_mc rfl rfl rfl r1 ?_)
    | (go_at_call 236; refine (l7Alu_12 rfl h1 n).mono ?_; rintro e w2 ⟨rfl, hb2⟩; have hB3 := hB2.trans (hb2.mono hB2.size); have z2 := z1.below hb2; have r2 := r1.below hb2)
    | (refine st_mc rfl rfl rfl rfl r2 (one_own h.hx) (one_own h.hy) ?_; intro w3 r3 o3 s3; have z3 := z2.onto o3 (by omega); have hB4 := below_onto hB3 o3 (by omega))
    | (refine ld_mc rfl rfl rfl r3 ?_)
    | (refine st_mc rfl rfl rfl rfl z3 (one_own h.hx) (one_own h.hy) ?_; intro w6 r6 o6 s6))
  refine ret_mc2 rfl rfl r6 rfl rfl ?_
  have hB6 := below_onto hB4 o6 (by omega)
  exact ⟨rfl, (h.below hB6).as rfl rfl, .of hB6⟩
set_option maxRecDepth 100000 in
set_option maxHeartbeats 1000000 in
theorem l7Do_13 (hv : v = m.val x y) (h : Ow base w x y m) (hok : m.ok = true) (n : Int) (hn : bok n = true) :
    Calls Tryz.prog 175 #[v, .int .i64 13, .int .i64 n] w fun e w' => Did base w w' e x y (m.does n 13) := by
  go_enter Tryz.func175, Tryz.ntmps175
  go_wp2_with (first
    | (refine box_m rfl rfl hv ?_; intro w0 r0 hB0)
    | (refine al_mc rfl rfl ?_; intro w1 z1 hB1; have r1 := r0.below hB1; have hB2 := hB0.trans (hB1.mono hB0.size); have l0 := r0.lt; have lz := z1.lt; have h1 := h.below hB2)
    | (refine ld_mc rfl rfl rfl r1 ?_)
    | (go_at_call 236; refine (l7Alu_13 rfl h1 n).mono ?_; rintro e w2 ⟨rfl, hb2⟩; have hB3 := hB2.trans (hb2.mono hB2.size); have z2 := z1.below hb2; have r2 := r1.below hb2)
    | (refine st_mc rfl rfl rfl rfl r2 (one_own h.hx) (one_own h.hy) ?_; intro w3 r3 o3 s3; have z3 := z2.onto o3 (by omega); have hB4 := below_onto hB3 o3 (by omega))
    | (refine ld_mc rfl rfl rfl r3 ?_)
    | (refine st_mc rfl rfl rfl rfl z3 (one_own h.hx) (one_own h.hy) ?_; intro w6 r6 o6 s6))
  refine ret_mc2 rfl rfl r6 rfl rfl ?_
  have hB6 := below_onto hB4 o6 (by omega)
  exact ⟨rfl, (h.below hB6).as rfl rfl, .of hB6⟩
set_option maxRecDepth 100000 in
set_option maxHeartbeats 1000000 in
theorem l7Do_14 (hv : v = m.val x y) (h : Ow base w x y m) (hok : m.ok = true) (n : Int) (hn : bok n = true) :
    Calls Tryz.prog 175 #[v, .int .i64 14, .int .i64 n] w fun e w' => Did base w w' e x y (m.does n 14) := by
  go_enter Tryz.func175, Tryz.ntmps175
  go_wp2_with (first
    | (refine box_m rfl rfl hv ?_; intro w0 r0 hB0)
    | (refine al_mc rfl rfl ?_; intro w1 z1 hB1; have r1 := r0.below hB1; have hB2 := hB0.trans (hB1.mono hB0.size); have l0 := r0.lt; have lz := z1.lt; have h1 := h.below hB2)
    | (refine ld_mc rfl rfl rfl r1 ?_)
    | (go_at_call 236; refine (l7Alu_14 rfl h1 n).mono ?_; rintro e w2 ⟨rfl, hb2⟩; have hB3 := hB2.trans (hb2.mono hB2.size); have z2 := z1.below hb2; have r2 := r1.below hb2)
    | (refine st_mc rfl rfl rfl rfl r2 (one_own h.hx) (one_own h.hy) ?_; intro w3 r3 o3 s3; have z3 := z2.onto o3 (by omega); have hB4 := below_onto hB3 o3 (by omega))
    | (refine ld_mc rfl rfl rfl r3 ?_)
    | (refine st_mc rfl rfl rfl rfl z3 (one_own h.hx) (one_own h.hy) ?_; intro w6 r6 o6 s6))
  refine ret_mc2 rfl rfl r6 rfl rfl ?_
  have hB6 := below_onto hB4 o6 (by omega)
  exact ⟨rfl, (h.below hB6).as rfl rfl, .of hB6⟩
set_option maxRecDepth 100000 in
set_option maxHeartbeats 1000000 in
theorem l7Do_15 (hv : v = m.val x y) (h : Ow base w x y m) (hok : m.ok = true) (n : Int) (hn : bok n = true) :
    Calls Tryz.prog 175 #[v, .int .i64 15, .int .i64 n] w fun e w' => Did base w w' e x y (m.does n 15) := by
  go_enter Tryz.func175, Tryz.ntmps175
  go_wp2_with (first
    | (refine box_m rfl rfl hv ?_; intro w0 r0 hB0)
    | (refine al_mc rfl rfl ?_; intro w1 z1 hB1; have r1 := r0.below hB1; have hB2 := hB0.trans (hB1.mono hB0.size); have l0 := r0.lt; have lz := z1.lt; have h1 := h.below hB2)
    | (refine ld_mc rfl rfl rfl r1 ?_)
    | (go_at_call 236; refine (l7Alu_15 rfl h1 n).mono ?_; rintro e w2 ⟨rfl, hb2⟩; have hB3 := hB2.trans (hb2.mono hB2.size); have z2 := z1.below hb2; have r2 := r1.below hb2)
    | (refine st_mc rfl rfl rfl rfl r2 (one_own h.hx) (one_own h.hy) ?_; intro w3 r3 o3 s3; have z3 := z2.onto o3 (by omega); have hB4 := below_onto hB3 o3 (by omega))
    | (refine ld_mc rfl rfl rfl r3 ?_)
    | (refine st_mc rfl rfl rfl rfl z3 (one_own h.hx) (one_own h.hy) ?_; intro w6 r6 o6 s6))
  refine ret_mc2 rfl rfl r6 rfl rfl ?_
  have hB6 := below_onto hB4 o6 (by omega)
  exact ⟨rfl, (h.below hB6).as rfl rfl, .of hB6⟩
set_option maxRecDepth 100000 in
set_option maxHeartbeats 1000000 in
theorem l7Do_16 (hv : v = m.val x y) (h : Ow base w x y m) (hok : m.ok = true) (n : Int) (hn : bok n = true) :
    Calls Tryz.prog 175 #[v, .int .i64 16, .int .i64 n] w fun e w' => Did base w w' e x y (m.does n 16) := by
  go_enter Tryz.func175, Tryz.ntmps175
  go_wp2_with (first
    | (refine box_m rfl rfl hv ?_; intro w0 r0 hB0)
    | (refine al_mc rfl rfl ?_; intro w1 z1 hB1; have r1 := r0.below hB1; have hB2 := hB0.trans (hB1.mono hB0.size); have l0 := r0.lt; have lz := z1.lt; have h1 := h.below hB2)
    | (refine ld_mc rfl rfl rfl r1 ?_)
    | (go_at_call 236; refine (l7Alu_16 rfl h1 n).mono ?_; rintro e w2 ⟨rfl, hb2⟩; have hB3 := hB2.trans (hb2.mono hB2.size); have z2 := z1.below hb2; have r2 := r1.below hb2)
    | (refine st_mc rfl rfl rfl rfl r2 (one_own h.hx) (one_own h.hy) ?_; intro w3 r3 o3 s3; have z3 := z2.onto o3 (by omega); have hB4 := below_onto hB3 o3 (by omega))
    | (refine ld_mc rfl rfl rfl r3 ?_)
    | (refine st_mc rfl rfl rfl rfl z3 (one_own h.hx) (one_own h.hy) ?_; intro w6 r6 o6 s6))
  refine ret_mc2 rfl rfl r6 rfl rfl ?_
  have hB6 := below_onto hB4 o6 (by omega)
  exact ⟨rfl, (h.below hB6).as rfl rfl, .of hB6⟩
set_option maxRecDepth 100000 in
set_option maxHeartbeats 1000000 in
theorem l7Do_17 (hv : v = m.val x y) (h : Ow base w x y m) (hok : m.ok = true) (n : Int) (hn : bok n = true) :
    Calls Tryz.prog 175 #[v, .int .i64 17, .int .i64 n] w fun e w' => Did base w w' e x y (m.does n 17) := by
  go_enter Tryz.func175, Tryz.ntmps175
  go_wp2_with (first
    | (refine box_m rfl rfl hv ?_; intro w0 r0 hB0)
    | (refine al_mc rfl rfl ?_; intro w1 z1 hB1; have r1 := r0.below hB1; have hB2 := hB0.trans (hB1.mono hB0.size); have l0 := r0.lt; have lz := z1.lt; have h1 := h.below hB2)
    | (refine ld_mc rfl rfl rfl r1 ?_)
    | (go_at_call 237; refine (l7CountB_17 rfl h1).mono ?_; rintro e w2 ⟨rfl, hb2⟩; have hB3 := hB2.trans (hb2.mono hB2.size); have z2 := z1.below hb2; have r2 := r1.below hb2)
    | (refine st_mc rfl rfl rfl rfl r2 (one_own h.hx) (one_own h.hy) ?_; intro w3 r3 o3 s3; have z3 := z2.onto o3 (by omega); have hB4 := below_onto hB3 o3 (by omega))
    | (refine ld_mc rfl rfl rfl r3 ?_)
    | (refine st_mc rfl rfl rfl rfl z3 (one_own h.hx) (one_own h.hy) ?_; intro w6 r6 o6 s6))
  refine ret_mc2 rfl rfl r6 rfl rfl ?_
  have hB6 := below_onto hB4 o6 (by omega)
  exact ⟨rfl, (h.below hB6).as rfl rfl, .of hB6⟩
set_option maxRecDepth 100000 in
set_option maxHeartbeats 1000000 in
theorem l7Do_18 (hv : v = m.val x y) (h : Ow base w x y m) (hok : m.ok = true) (n : Int) (hn : bok n = true) :
    Calls Tryz.prog 175 #[v, .int .i64 18, .int .i64 n] w fun e w' => Did base w w' e x y (m.does n 18) := by
  go_enter Tryz.func175, Tryz.ntmps175
  go_wp2_with (first
    | (refine box_m rfl rfl hv ?_; intro w0 r0 hB0)
    | (refine al_mc rfl rfl ?_; intro w1 z1 hB1; have r1 := r0.below hB1; have hB2 := hB0.trans (hB1.mono hB0.size); have l0 := r0.lt; have lz := z1.lt; have h1 := h.below hB2)
    | (refine ld_mc rfl rfl rfl r1 ?_)
    | (go_at_call 237; refine (l7CountB_18 rfl h1).mono ?_; rintro e w2 ⟨rfl, hb2⟩; have hB3 := hB2.trans (hb2.mono hB2.size); have z2 := z1.below hb2; have r2 := r1.below hb2)
    | (refine st_mc rfl rfl rfl rfl r2 (one_own h.hx) (one_own h.hy) ?_; intro w3 r3 o3 s3; have z3 := z2.onto o3 (by omega); have hB4 := below_onto hB3 o3 (by omega))
    | (refine ld_mc rfl rfl rfl r3 ?_)
    | (refine st_mc rfl rfl rfl rfl z3 (one_own h.hx) (one_own h.hy) ?_; intro w6 r6 o6 s6))
  refine ret_mc2 rfl rfl r6 rfl rfl ?_
  have hB6 := below_onto hB4 o6 (by omega)
  exact ⟨rfl, (h.below hB6).as rfl rfl, .of hB6⟩
set_option maxRecDepth 100000 in
set_option maxHeartbeats 1000000 in
theorem l7Do_19 (hv : v = m.val x y) (h : Ow base w x y m) (hok : m.ok = true) (n : Int) (hn : bok n = true) :
    Calls Tryz.prog 175 #[v, .int .i64 19, .int .i64 n] w fun e w' => Did base w w' e x y (m.does n 19) := by
  obtain ⟨g, hg, hgl⟩ := ram_block h.hy hok
  go_enter Tryz.func175, Tryz.ntmps175
  go_wp2_with (first
    | (refine box_m rfl rfl hv ?_; intro w0 r0 hB0)
    | (refine al_mc rfl rfl ?_; intro w1 z1 hB1; have r1 := r0.below hB1; have hB2 := hB0.trans (hB1.mono hB0.size); have l0 := r0.lt; have lz := z1.lt; have h1 := h.below hB2)
    | (refine ld_mc rfl rfl rfl r1 ?_)
    | (go_at_call 238; refine (l7Jump_19 rfl h1 hok _).mono ?_; rintro e w3 ⟨rfl, h3, hb3⟩; have z3 := hb3.row hg z1 (by omega))
    | (refine st_mc rfl rfl rfl rfl z3 (one_own h.hx) (one_own h.hy) ?_; intro w6 r6 o6 s6))
  refine ret_mc2 rfl rfl r6 rfl rfl ?_
  exact ⟨rfl, h3.at o6 (fun e => by have := (h.hx.lt _ e).2; omega) (fun e => by have := (h.hy.lt _ e).2; omega), ((But.of hB2).trans hb3).new o6 (by omega)⟩
set_option maxRecDepth 100000 in
set_option maxHeartbeats 1000000 in
theorem l7Do_20_t (hv : v = m.val x y) (h : Ow base w x y m) (hok : m.ok = true) (n : Int) (hn : bok n = true) (hc : m.z = true) :
    Calls Tryz.prog 175 #[v, .int .i64 20, .int .i64 n] w fun e w' => Did base w w' e x y (m.does n 20) := by
  obtain ⟨g, hg, hgl⟩ := ram_block h.hy hok
  have HC : Hid (m.z = true) := hc
  clear hc
  go_enter Tryz.func175, Tryz.ntmps175
  go_wp2_with (first
    | (refine box_m rfl rfl hv ?_; intro w0 r0 hB0)
    | (refine al_mc rfl rfl ?_; intro w1 z1 hB1; have r1 := r0.below hB1; have hB2 := hB0.trans (hB1.mono hB0.size); have l0 := r0.lt; have lz := z1.lt; have h1 := h.below hB2)
    | (refine ld_mc rfl rfl rfl r1 ?_)
    | (go_at_call 238; refine (l7Jump_20_t rfl h1 hok _ HC.out).mono ?_; rintro e w3 ⟨rfl, h3, hb3⟩; have z3 := hb3.row hg z1 (by omega))
    | (refine st_mc rfl rfl rfl rfl z3 (one_own h.hx) (one_own h.hy) ?_; intro w6 r6 o6 s6))
  refine ret_mc2 rfl rfl r6 rfl rfl ?_
  exact ⟨rfl, h3.at o6 (fun e => by have := (h.hx.lt _ e).2; omega) (fun e => by have := (h.hy.lt _ e).2; omega), ((But.of hB2).trans hb3).new o6 (by omega)⟩
set_option maxRecDepth 100000 in
set_option maxHeartbeats 1000000 in
theorem l7Do_20_f (hv : v = m.val x y) (h : Ow base w x y m) (hok : m.ok = true) (n : Int) (hn : bok n = true) (hc : m.z = false) :
    Calls Tryz.prog 175 #[v, .int .i64 20, .int .i64 n] w fun e w' => Did base w w' e x y (m.does n 20) := by
  obtain ⟨g, hg, hgl⟩ := ram_block h.hy hok
  have HC : Hid (m.z = false) := hc
  clear hc
  go_enter Tryz.func175, Tryz.ntmps175
  go_wp2_with (first
    | (refine box_m rfl rfl hv ?_; intro w0 r0 hB0)
    | (refine al_mc rfl rfl ?_; intro w1 z1 hB1; have r1 := r0.below hB1; have hB2 := hB0.trans (hB1.mono hB0.size); have l0 := r0.lt; have lz := z1.lt; have h1 := h.below hB2)
    | (refine ld_mc rfl rfl rfl r1 ?_)
    | (go_at_call 238; refine (l7Jump_20_f rfl h1 hok _ HC.out).mono ?_; rintro e w3 ⟨rfl, h3, hb3⟩; have z3 := hb3.row hg z1 (by omega))
    | (refine st_mc rfl rfl rfl rfl z3 (one_own h.hx) (one_own h.hy) ?_; intro w6 r6 o6 s6))
  refine ret_mc2 rfl rfl r6 rfl rfl ?_
  exact ⟨rfl, h3.at o6 (fun e => by have := (h.hx.lt _ e).2; omega) (fun e => by have := (h.hy.lt _ e).2; omega), ((But.of hB2).trans hb3).new o6 (by omega)⟩
set_option maxRecDepth 100000 in
set_option maxHeartbeats 1000000 in
theorem l7Do_21_t (hv : v = m.val x y) (h : Ow base w x y m) (hok : m.ok = true) (n : Int) (hn : bok n = true) (hc : m.z = true) :
    Calls Tryz.prog 175 #[v, .int .i64 21, .int .i64 n] w fun e w' => Did base w w' e x y (m.does n 21) := by
  obtain ⟨g, hg, hgl⟩ := ram_block h.hy hok
  have HC : Hid (m.z = true) := hc
  clear hc
  go_enter Tryz.func175, Tryz.ntmps175
  go_wp2_with (first
    | (refine box_m rfl rfl hv ?_; intro w0 r0 hB0)
    | (refine al_mc rfl rfl ?_; intro w1 z1 hB1; have r1 := r0.below hB1; have hB2 := hB0.trans (hB1.mono hB0.size); have l0 := r0.lt; have lz := z1.lt; have h1 := h.below hB2)
    | (refine ld_mc rfl rfl rfl r1 ?_)
    | (go_at_call 238; refine (l7Jump_21_t rfl h1 hok _ HC.out).mono ?_; rintro e w3 ⟨rfl, h3, hb3⟩; have z3 := hb3.row hg z1 (by omega))
    | (refine st_mc rfl rfl rfl rfl z3 (one_own h.hx) (one_own h.hy) ?_; intro w6 r6 o6 s6))
  refine ret_mc2 rfl rfl r6 rfl rfl ?_
  exact ⟨rfl, h3.at o6 (fun e => by have := (h.hx.lt _ e).2; omega) (fun e => by have := (h.hy.lt _ e).2; omega), ((But.of hB2).trans hb3).new o6 (by omega)⟩
set_option maxRecDepth 100000 in
set_option maxHeartbeats 1000000 in
theorem l7Do_21_f (hv : v = m.val x y) (h : Ow base w x y m) (hok : m.ok = true) (n : Int) (hn : bok n = true) (hc : m.z = false) :
    Calls Tryz.prog 175 #[v, .int .i64 21, .int .i64 n] w fun e w' => Did base w w' e x y (m.does n 21) := by
  obtain ⟨g, hg, hgl⟩ := ram_block h.hy hok
  have HC : Hid (m.z = false) := hc
  clear hc
  go_enter Tryz.func175, Tryz.ntmps175
  go_wp2_with (first
    | (refine box_m rfl rfl hv ?_; intro w0 r0 hB0)
    | (refine al_mc rfl rfl ?_; intro w1 z1 hB1; have r1 := r0.below hB1; have hB2 := hB0.trans (hB1.mono hB0.size); have l0 := r0.lt; have lz := z1.lt; have h1 := h.below hB2)
    | (refine ld_mc rfl rfl rfl r1 ?_)
    | (go_at_call 238; refine (l7Jump_21_f rfl h1 hok _ HC.out).mono ?_; rintro e w3 ⟨rfl, h3, hb3⟩; have z3 := hb3.row hg z1 (by omega))
    | (refine st_mc rfl rfl rfl rfl z3 (one_own h.hx) (one_own h.hy) ?_; intro w6 r6 o6 s6))
  refine ret_mc2 rfl rfl r6 rfl rfl ?_
  exact ⟨rfl, h3.at o6 (fun e => by have := (h.hx.lt _ e).2; omega) (fun e => by have := (h.hy.lt _ e).2; omega), ((But.of hB2).trans hb3).new o6 (by omega)⟩
set_option maxRecDepth 100000 in
set_option maxHeartbeats 1000000 in
theorem l7Do_22_t (hv : v = m.val x y) (h : Ow base w x y m) (hok : m.ok = true) (n : Int) (hn : bok n = true) (hc : m.c = true) :
    Calls Tryz.prog 175 #[v, .int .i64 22, .int .i64 n] w fun e w' => Did base w w' e x y (m.does n 22) := by
  obtain ⟨g, hg, hgl⟩ := ram_block h.hy hok
  have HC : Hid (m.c = true) := hc
  clear hc
  go_enter Tryz.func175, Tryz.ntmps175
  go_wp2_with (first
    | (refine box_m rfl rfl hv ?_; intro w0 r0 hB0)
    | (refine al_mc rfl rfl ?_; intro w1 z1 hB1; have r1 := r0.below hB1; have hB2 := hB0.trans (hB1.mono hB0.size); have l0 := r0.lt; have lz := z1.lt; have h1 := h.below hB2)
    | (refine ld_mc rfl rfl rfl r1 ?_)
    | (go_at_call 238; refine (l7Jump_22_t rfl h1 hok _ HC.out).mono ?_; rintro e w3 ⟨rfl, h3, hb3⟩; have z3 := hb3.row hg z1 (by omega))
    | (refine st_mc rfl rfl rfl rfl z3 (one_own h.hx) (one_own h.hy) ?_; intro w6 r6 o6 s6))
  refine ret_mc2 rfl rfl r6 rfl rfl ?_
  exact ⟨rfl, h3.at o6 (fun e => by have := (h.hx.lt _ e).2; omega) (fun e => by have := (h.hy.lt _ e).2; omega), ((But.of hB2).trans hb3).new o6 (by omega)⟩
set_option maxRecDepth 100000 in
set_option maxHeartbeats 1000000 in
theorem l7Do_22_f (hv : v = m.val x y) (h : Ow base w x y m) (hok : m.ok = true) (n : Int) (hn : bok n = true) (hc : m.c = false) :
    Calls Tryz.prog 175 #[v, .int .i64 22, .int .i64 n] w fun e w' => Did base w w' e x y (m.does n 22) := by
  obtain ⟨g, hg, hgl⟩ := ram_block h.hy hok
  have HC : Hid (m.c = false) := hc
  clear hc
  go_enter Tryz.func175, Tryz.ntmps175
  go_wp2_with (first
    | (refine box_m rfl rfl hv ?_; intro w0 r0 hB0)
    | (refine al_mc rfl rfl ?_; intro w1 z1 hB1; have r1 := r0.below hB1; have hB2 := hB0.trans (hB1.mono hB0.size); have l0 := r0.lt; have lz := z1.lt; have h1 := h.below hB2)
    | (refine ld_mc rfl rfl rfl r1 ?_)
    | (go_at_call 238; refine (l7Jump_22_f rfl h1 hok _ HC.out).mono ?_; rintro e w3 ⟨rfl, h3, hb3⟩; have z3 := hb3.row hg z1 (by omega))
    | (refine st_mc rfl rfl rfl rfl z3 (one_own h.hx) (one_own h.hy) ?_; intro w6 r6 o6 s6))
  refine ret_mc2 rfl rfl r6 rfl rfl ?_
  exact ⟨rfl, h3.at o6 (fun e => by have := (h.hx.lt _ e).2; omega) (fun e => by have := (h.hy.lt _ e).2; omega), ((But.of hB2).trans hb3).new o6 (by omega)⟩
set_option maxRecDepth 100000 in
set_option maxHeartbeats 1000000 in
theorem l7Do_23 (hv : v = m.val x y) (h : Ow base w x y m) (hok : m.ok = true) (n : Int) (hn : bok n = true) :
    Calls Tryz.prog 175 #[v, .int .i64 23, .int .i64 n] w fun e w' => Did base w w' e x y (m.does n 23) := by
  obtain ⟨g, hg, hgl⟩ := ram_block h.hy hok
  go_enter Tryz.func175, Tryz.ntmps175
  go_wp2_with (first
    | (refine box_m rfl rfl hv ?_; intro w0 r0 hB0)
    | (refine al_mc rfl rfl ?_; intro w1 z1 hB1; have r1 := r0.below hB1; have hB2 := hB0.trans (hB1.mono hB0.size); have l0 := r0.lt; have lz := z1.lt; have h1 := h.below hB2)
    | (refine ld_mc rfl rfl rfl r1 ?_)
    | (go_at_call 238; refine (l7Jump_23 rfl h1 hok _).mono ?_; rintro e w3 ⟨rfl, h3, hb3⟩; have z3 := hb3.row hg z1 (by omega))
    | (refine st_mc rfl rfl rfl rfl z3 (one_own h.hx) (one_own h.hy) ?_; intro w6 r6 o6 s6))
  refine ret_mc2 rfl rfl r6 rfl rfl ?_
  exact ⟨rfl, h3.at o6 (fun e => by have := (h.hx.lt _ e).2; omega) (fun e => by have := (h.hy.lt _ e).2; omega), ((But.of hB2).trans hb3).new o6 (by omega)⟩
set_option maxRecDepth 100000 in
set_option maxHeartbeats 1000000 in
theorem l7Do_24_t (hv : v = m.val x y) (h : Ow base w x y m) (hok : m.ok = true) (n : Int) (hn : bok n = true) (hc : m.e = true) :
    Calls Tryz.prog 175 #[v, .int .i64 24, .int .i64 n] w fun e w' => Did base w w' e x y (m.does n 24) := by
  obtain ⟨g, hg, hgl⟩ := ram_block h.hy hok
  have HC : Hid (m.e = true) := hc
  clear hc
  go_enter Tryz.func175, Tryz.ntmps175
  go_wp2_with (first
    | (refine box_m rfl rfl hv ?_; intro w0 r0 hB0)
    | (refine al_mc rfl rfl ?_; intro w1 z1 hB1; have r1 := r0.below hB1; have hB2 := hB0.trans (hB1.mono hB0.size); have l0 := r0.lt; have lz := z1.lt; have h1 := h.below hB2)
    | (refine ld_mc rfl rfl rfl r1 ?_)
    | (go_at_call 238; refine (l7Jump_24_t rfl h1 hok _ HC.out).mono ?_; rintro e w3 ⟨rfl, h3, hb3⟩; have z3 := hb3.row hg z1 (by omega))
    | (refine st_mc rfl rfl rfl rfl z3 (one_own h.hx) (one_own h.hy) ?_; intro w6 r6 o6 s6))
  refine ret_mc2 rfl rfl r6 rfl rfl ?_
  exact ⟨rfl, h3.at o6 (fun e => by have := (h.hx.lt _ e).2; omega) (fun e => by have := (h.hy.lt _ e).2; omega), ((But.of hB2).trans hb3).new o6 (by omega)⟩
set_option maxRecDepth 100000 in
set_option maxHeartbeats 1000000 in
theorem l7Do_24_f (hv : v = m.val x y) (h : Ow base w x y m) (hok : m.ok = true) (n : Int) (hn : bok n = true) (hc : m.e = false) :
    Calls Tryz.prog 175 #[v, .int .i64 24, .int .i64 n] w fun e w' => Did base w w' e x y (m.does n 24) := by
  obtain ⟨g, hg, hgl⟩ := ram_block h.hy hok
  have HC : Hid (m.e = false) := hc
  clear hc
  go_enter Tryz.func175, Tryz.ntmps175
  go_wp2_with (first
    | (refine box_m rfl rfl hv ?_; intro w0 r0 hB0)
    | (refine al_mc rfl rfl ?_; intro w1 z1 hB1; have r1 := r0.below hB1; have hB2 := hB0.trans (hB1.mono hB0.size); have l0 := r0.lt; have lz := z1.lt; have h1 := h.below hB2)
    | (refine ld_mc rfl rfl rfl r1 ?_)
    | (go_at_call 238; refine (l7Jump_24_f rfl h1 hok _ HC.out).mono ?_; rintro e w3 ⟨rfl, h3, hb3⟩; have z3 := hb3.row hg z1 (by omega))
    | (refine st_mc rfl rfl rfl rfl z3 (one_own h.hx) (one_own h.hy) ?_; intro w6 r6 o6 s6))
  refine ret_mc2 rfl rfl r6 rfl rfl ?_
  exact ⟨rfl, h3.at o6 (fun e => by have := (h.hx.lt _ e).2; omega) (fun e => by have := (h.hy.lt _ e).2; omega), ((But.of hB2).trans hb3).new o6 (by omega)⟩
set_option maxRecDepth 100000 in
set_option maxHeartbeats 1000000 in
theorem l7Do_29_t (hv : v = m.val x y) (h : Ow base w x y m) (hok : m.ok = true) (n : Int) (hn : bok n = true) (hc : m.e = true) :
    Calls Tryz.prog 175 #[v, .int .i64 29, .int .i64 n] w fun e w' => Did base w w' e x y (m.does n 29) := by
  obtain ⟨g, hg, hgl⟩ := ram_block h.hy hok
  have HC : Hid (m.e = true) := hc
  clear hc
  go_enter Tryz.func175, Tryz.ntmps175
  go_wp2_with (first
    | (refine box_m rfl rfl hv ?_; intro w0 r0 hB0)
    | (refine al_mc rfl rfl ?_; intro w1 z1 hB1; have r1 := r0.below hB1; have hB2 := hB0.trans (hB1.mono hB0.size); have l0 := r0.lt; have lz := z1.lt; have h1 := h.below hB2)
    | (refine ld_mc rfl rfl rfl r1 ?_)
    | (go_at_call 238; refine (l7Jump_29_t rfl h1 hok _ HC.out).mono ?_; rintro e w3 ⟨rfl, h3, hb3⟩; have z3 := hb3.row hg z1 (by omega))
    | (refine st_mc rfl rfl rfl rfl z3 (one_own h.hx) (one_own h.hy) ?_; intro w6 r6 o6 s6))
  refine ret_mc2 rfl rfl r6 rfl rfl ?_
  exact ⟨rfl, h3.at o6 (fun e => by have := (h.hx.lt _ e).2; omega) (fun e => by have := (h.hy.lt _ e).2; omega), ((But.of hB2).trans hb3).new o6 (by omega)⟩
set_option maxRecDepth 100000 in
set_option maxHeartbeats 1000000 in
theorem l7Do_29_f (hv : v = m.val x y) (h : Ow base w x y m) (hok : m.ok = true) (n : Int) (hn : bok n = true) (hc : m.e = false) :
    Calls Tryz.prog 175 #[v, .int .i64 29, .int .i64 n] w fun e w' => Did base w w' e x y (m.does n 29) := by
  obtain ⟨g, hg, hgl⟩ := ram_block h.hy hok
  have HC : Hid (m.e = false) := hc
  clear hc
  go_enter Tryz.func175, Tryz.ntmps175
  go_wp2_with (first
    | (refine box_m rfl rfl hv ?_; intro w0 r0 hB0)
    | (refine al_mc rfl rfl ?_; intro w1 z1 hB1; have r1 := r0.below hB1; have hB2 := hB0.trans (hB1.mono hB0.size); have l0 := r0.lt; have lz := z1.lt; have h1 := h.below hB2)
    | (refine ld_mc rfl rfl rfl r1 ?_)
    | (go_at_call 238; refine (l7Jump_29_f rfl h1 hok _ HC.out).mono ?_; rintro e w3 ⟨rfl, h3, hb3⟩; have z3 := hb3.row hg z1 (by omega))
    | (refine st_mc rfl rfl rfl rfl z3 (one_own h.hx) (one_own h.hy) ?_; intro w6 r6 o6 s6))
  refine ret_mc2 rfl rfl r6 rfl rfl ?_
  exact ⟨rfl, h3.at o6 (fun e => by have := (h.hx.lt _ e).2; omega) (fun e => by have := (h.hy.lt _ e).2; omega), ((But.of hB2).trans hb3).new o6 (by omega)⟩
set_option maxRecDepth 100000 in
set_option maxHeartbeats 1000000 in
theorem l7Do_26 (hv : v = m.val x y) (h : Ow base w x y m) (hok : m.ok = true) (n : Int) (hn : bok n = true) :
    Calls Tryz.prog 175 #[v, .int .i64 26, .int .i64 n] w fun e w' => Did base w w' e x y (m.does n 26) := by
  go_enter Tryz.func175, Tryz.ntmps175
  go_wp2_with (first
    | (refine box_m rfl rfl hv ?_; intro w0 r0 hB0)
    | (refine al_mc rfl rfl ?_; intro w1 z1 hB1; have r1 := r0.below hB1; have hB2 := hB0.trans (hB1.mono hB0.size); have l0 := r0.lt; have lz := z1.lt; have h1 := h.below hB2)
    | (refine ld_mc rfl rfl rfl r1 ?_)
    | (go_at_call 239; refine (l7Pop_spec rfl h1 hok).mono ?_; rintro e w2 ⟨rfl, h2, hb2⟩; have hB3 := hB2.trans (hb2.mono hB2.size); have z2 := z1.below hb2; have r2 := r1.below hb2)
    | (refine st_mc rfl rfl rfl rfl r2 (one_own h.hx) (one_own h.hy) ?_; intro w3 r3 o3 s3; have z3 := z2.onto o3 (by omega); have hB4 := below_onto hB3 o3 (by omega))
    | (refine st_num (m' := (m.does n 26).1) rfl rfl rfl rfl r3 rfl rfl ?_; intro w4 r4 o4 s4; have z4 := z3.onto o4 (by omega); have hB5 := below_onto hB4 o4 (by omega))
    | (refine ld_mc rfl rfl rfl r4 ?_)
    | (refine st_mc rfl rfl rfl rfl z4 (one_own h.hx) (one_own h.hy) ?_; intro w6 r6 o6 s6))
  refine ret_mc2 rfl rfl r6 rfl rfl ?_
  have hB6 := below_onto hB5 o6 (by omega)
  exact ⟨rfl, (h.below hB6).as rfl rfl, .of hB6⟩
theorem l7Do_spec (hv : v = m.val x y) (h : Ow base w x y m) (hok : m.ok = true) (n : Int) (hn : bok n = true) (k : Nat) (hk : k < 31) :
    Calls Tryz.prog 175 #[v, .int .i64 (k : Int), .int .i64 n] w fun e w' => Did base w w' e x y (m.does n k) := by
  match k with
  | 0 => exact l7Do_0 hv h hok n hn
  | 1 => exact l7Do_1 hv h hok n hn
  | 2 => exact l7Do_2 hv h hok n hn
  | 3 => exact l7Do_3 hv h hok n hn
  | 4 => exact l7Do_4 hv h hok n hn
  | 5 => exact l7Do_5 hv h hok n hn
  | 6 => exact l7Do_6 hv h hok n hn
  | 7 => exact l7Do_7 hv h hok n hn
  | 8 => exact l7Do_8 hv h hok n hn
  | 9 => exact l7Do_9 hv h hok n hn
  | 10 => exact l7Do_10 hv h hok n hn
  | 11 => exact l7Do_11 hv h hok n hn
  | 12 => exact l7Do_12 hv h hok n hn
  | 13 => exact l7Do_13 hv h hok n hn
  | 14 => exact l7Do_14 hv h hok n hn
  | 15 => exact l7Do_15 hv h hok n hn
  | 16 => exact l7Do_16 hv h hok n hn
  | 17 => exact l7Do_17 hv h hok n hn
  | 18 => exact l7Do_18 hv h hok n hn
  | 19 => exact l7Do_19 hv h hok n hn
  | 20 =>
    cases hc : m.z
    · exact l7Do_20_f hv h hok n hn hc
    · exact l7Do_20_t hv h hok n hn hc
  | 21 =>
    cases hc : m.z
    · exact l7Do_21_f hv h hok n hn hc
    · exact l7Do_21_t hv h hok n hn hc
  | 22 =>
    cases hc : m.c
    · exact l7Do_22_f hv h hok n hn hc
    · exact l7Do_22_t hv h hok n hn hc
  | 23 => exact l7Do_23 hv h hok n hn
  | 24 =>
    cases hc : m.e
    · exact l7Do_24_f hv h hok n hn hc
    · exact l7Do_24_t hv h hok n hn hc
  | 25 => exact l7Do_25 hv h hok n hn
  | 26 => exact l7Do_26 hv h hok n hn
  | 27 => exact l7Do_27 hv h hok n hn
  | 28 => exact l7Do_28 hv h hok n hn
  | 29 =>
    cases hc : m.e
    · exact l7Do_29_f hv h hok n hn hc
    · exact l7Do_29_t hv h hok n hn hc
  | 30 => exact l7Do_30 hv h hok n hn
  | k + 31 => omega
end
end Go.Proofs.YtghmkacamabndaaGreatDoor.Mem
namespace Go.Proofs.YtghmkacamabndaaGreatDoor.Mem
open Go.ChangeShapes Go.WideShapes Go.RowKit Base Num Slc Rw Tmr Srl Rom RomOf Opl Reg
section
variable {ops : Array Oper} {rest : List Oper} {o : Oper} {a : Act} {w : World} {Q : Exit → Act → World → Prop} {g : Nat} {x y : Value} {m : Mc}
theorem ret_mc3' {fn : Func} {R : Ending → World → Prop} {q u u2 : Tmp} {v v2 : Value} (h : fn.results = #[.cell q 30, .tmp u, .tmp u2]) (hp : a.tmps.getD q undef = .pointer (some ⟨g, 0, none⟩)) (hr : MRow w g x y m) (hde : a.defers = []) (hv : a.tmps.getD u undef = v) (hv2 : a.tmps.getD u2 undef = v2)
    (hR : R (.returned (.tuple #[m.val x y, v, v2])) w) : bodyPost Tryz.prog fn R .ret a w := ret_row_tmp2 h hp hr Tryz.underlying30 rfl info_mc hde hv hv2 hR
variable {op : Oper} {K : Act → World → Prop} {p q : Operand} {x0 y0 : Value} {m0 : Mc}
theorem sm_op' (ho : op.op = .store 30 p q) (hx : a.eval p = .pointer (some ⟨g, 0, none⟩)) (hy : a.eval q = m.val x y) (hr : MRow w g x0 y0 m0) (h1 : x.oneCell' = true) (h2 : y.oneCell' = true)
    (h : ∀ w', MRow w' g x y m → Onto g w w' → K (a.put op.dst undef) w') : op.wp Tryz.prog a w K Q :=
  wp_store_row _ p q ho g _ hx hy _ _ hr.row info_mc rfl (all_one h1 h2 m)
    (h _ (Row.of (setRow_heap w g _ _ _ _ hr.row)) ⟨rfl, rfl, rfl, by simp, fun k hk _ => setRow_other w g k _ hk⟩)
end
section
variable {base : Nat} {w : World} {x y v : Value} {m : Mc}
def Ran (base : Nat) (w w' : World) (e : Ending) (x y : Value) (r : Mc × Int × Int) : Prop := e = .returned (.tuple #[r.1.val x y, .int .i64 r.2.1, .int .i64 r.2.2]) ∧ Ow base w' x y r.1 ∧ But y w w'
theorem l7Run_idle (hv : v = m.val x y) (h : Ow base w x y m) (hi : (m.h || m.s) = true) : Calls Tryz.prog 127 #[v] w fun e w' => Ran base w w' e x y (m, 1, -1) := by
  cases hh : m.h
  · have hs : m.s = true := by simpa [hh] using hi
    go_enter Tryz.func127, Tryz.ntmps127
    go_wp2_with (first
      | (refine box_m rfl rfl hv ?_; intro w0 r0 hB0)
      | (refine al_mc rfl rfl ?_; intro w1 z1 hB1; have r1 := r0.below hB1; have hB2 := hB0.trans (hB1.mono hB0.size); have l0 := r0.lt; have lz := z1.lt; have kh := (cw r1).h; have ks := (cw r1).s; rw [hh] at kh; rw [hs] at ks)
      | (refine ld_mc rfl rfl rfl r1 ?_)
      | (refine st_mc rfl rfl rfl rfl z1 (one_own h.hx) (one_own h.hy) ?_; intro w6 r6 o6 s6))
    refine ret_mc3' rfl rfl r6 rfl rfl rfl ?_
    have hB6 := below_onto hB2 o6 (by omega)
    exact ⟨rfl, h.below hB6, .of hB6⟩
  · go_enter Tryz.func127, Tryz.ntmps127
    go_wp2_with (first
      | (refine box_m rfl rfl hv ?_; intro w0 r0 hB0)
      | (refine al_mc rfl rfl ?_; intro w1 z1 hB1; have r1 := r0.below hB1; have hB2 := hB0.trans (hB1.mono hB0.size); have l0 := r0.lt; have lz := z1.lt; have kh := (cw r1).h; rw [hh] at kh)
      | (refine ld_mc rfl rfl rfl r1 ?_)
      | (refine st_mc rfl rfl rfl rfl z1 (one_own h.hx) (one_own h.hy) ?_; intro w6 r6 o6 s6))
    refine ret_mc3' rfl rfl r6 rfl rfl rfl ?_
    have hB6 := below_onto hB2 o6 (by omega)
    exact ⟨rfl, h.below hB6, .of hB6⟩
theorem l7Run_stuck (hv : v = m.val x y) (h : Ow base w x y m) (hok : m.ok = true) (hi : (m.h || m.s) = false) (hz : m.size' = 0) : Calls Tryz.prog 127 #[v] w fun e w' => Ran base w w' e x y ({ m with s := true }, 1, -1) := by
  have hh : m.h = false := by simp at hi; exact hi.1
  have hs : m.s = false := by simp at hi; exact hi.2
  have hpc := bok_iff.1 (okm.1 hok).pc
  have HC : Hid ((line (m.read m.pc)).2.1 = 0) := hz
  clear hz
  go_enter Tryz.func127, Tryz.ntmps127
  go_wp2_with (first
    | (refine box_m rfl rfl hv ?_; intro w0 r0 hB0)
    | (refine al_mc rfl rfl ?_; intro w1 z1 hB1; have r1 := r0.below hB1; have hB2 := hB0.trans (hB1.mono hB0.size); have l0 := r0.lt; have lz := z1.lt; have h1 := h.below hB2; have kh := (cw r1).h; have ks := (cw r1).s; have kp := (cw r1).pc; rw [hh] at kh; rw [hs] at ks)
    | (refine ld_mc rfl rfl rfl r1 ?_)
    | (go_at_call 173; refine (l6Read_spec _ m _ _ h1.sl (Mc.right hok) hpc).mono ?_; rintro e w2 ⟨rfl, hb2⟩; have hB3 := hB2.trans (hb2.mono hB2.size); have z2 := z1.below hb2; have r2 := r1.below hb2; clear kh ks kp)
    | (go_at_call 174; refine (sizeOf_spec _ _).mono ?_; rintro e w3 ⟨rfl, hb3⟩; rw [HC.out]; have hB4 := hB3.trans (hb3.mono hB3.size); have z3 := z2.below hb3; have r3 := r2.below hb3)
    | (refine st_yes (m' := { m with s := true }) rfl rfl rfl rfl r3 rfl rfl ?_; intro w4 r4 o4 s4; have z4 := z3.onto o4 (by omega); have hB5 := below_onto hB4 o4 (by omega))
    | (refine ld_mc rfl rfl rfl r4 ?_)
    | (refine st_mc rfl rfl rfl rfl z4 (one_own h.hx) (one_own h.hy) ?_; intro w6 r6 o6 s6))
  refine ret_mc3' rfl rfl r6 rfl rfl rfl ?_
  have hB6 := below_onto hB5 o6 (by omega)
  exact ⟨rfl, (h.below hB6).as rfl rfl, .of hB6⟩
structure Gy (w : World) (base g g2 : Nat) (x y : Value) (m : Mc) (b : Bool) (W : World) : Prop where
  row : MRow W g x y m
  ow : Ow base W x y m
  but : But y w W
  res : if b = true then MRow W g2 x y m else MRow W g2 nil64 nil64 Mc.nul
theorem Gy.below {w W W' : World} {base g g2 : Nat} {x y : Value} {m : Mc} {b : Bool} (h : Gy w base g g2 x y m b W) (hb : Below W.heap.size W W') : Gy w base g g2 x y m b W' :=
  ⟨h.row.below hb, h.ow.below hb, h.but.trans (.of hb), by have := h.res; cases b <;> exact Row.below this hb⟩
theorem Gy.lay {w W W' : World} {base g g2 : Nat} {x y : Value} {m : Mc} {b : Bool} (h : Gy w base g g2 x y m b W) (hr : MRow W' g2 x y m) (ho : Onto g2 W W') (h1 : g ≠ g2) (h2 : w.heap.size ≤ g2) (n1 : x.ownBlock ≠ some g2) (n2 : y.ownBlock ≠ some g2) : Gy w base g g2 x y m true W' :=
  ⟨h.row.onto ho h1, h.ow.at ho n1 n2, h.but.new ho h2, by simpa using hr⟩
set_option maxRecDepth 100000 in
set_option maxHeartbeats 2000000 in
theorem l7Run_does (hv : v = m.val x y) (h : Ow base w x y m) (hok : m.ok = true) (hi : (m.h || m.s) = false) (k : Nat) (hk : k < 31) (hcode : m.code = (k : Int)) :
    Calls Tryz.prog 127 #[v] w fun e w' => Ran base w w' e x y ((m.onw.does m.opnd k).1, (line (k : Int)).2.2, (m.onw.does m.opnd k).2) := by
  have hh : m.h = false := by simp at hi; exact hi.1
  have hs : m.s = false := by simp at hi; exact hi.2
  have hpc := bok_iff.1 (okm.1 hok).pc
  obtain ⟨g, hg, hgl⟩ := ram_block h.hy hok
  have HC : Hid (m.read m.pc = (k : Int)) := hcode
  obtain ⟨sz, HS⟩ : ∃ sz, Hid (sz = (line (k : Int)).2.1) := ⟨_, show _ = _ from rfl⟩
  have hsz : 1 ≤ sz ∧ sz ≤ 2 := by have := size_in k hk; have := HS.out; omega
  have hz0 : (sz == 0) = false := by simp; omega
  have HO : Hid (m.onw = { m with pc := (m.pc + sz) % 256 }) := show _ = _ by unfold Mc.onw Mc.size'; rw [hcode, ← HS.out]
  have hrem1 := rem_pos' (a := m.pc + 1) (r := 256) (by omega)
  have hrem2 := rem_pos' (a := m.pc + sz) (r := 256) (by omega)
  have hq : 0 ≤ (m.pc + 1) % 256 ∧ (m.pc + 1) % 256 ≤ 255 := by omega
  have HP : Hid (m.read ((m.pc + 1) % 256) = m.opnd) := show _ = _ from rfl
  clear hcode
  go_enter Tryz.func127, Tryz.ntmps127
  go_wp2_with (first
    | (refine box_m rfl rfl hv ?_; intro w0 r0 hB0)
    | (refine al_mc rfl rfl ?_; intro w1 z1 hB1; have r1 := r0.below hB1; have hB2 := hB0.trans (hB1.mono hB0.size); have l0 := r0.lt; have lz := z1.lt; have h1 := h.below hB2; have kh := (cw r1).h; have ks := (cw r1).s; have kp := (cw r1).pc; rw [hh] at kh; rw [hs] at ks)
    | (refine ld_mc rfl rfl rfl r1 ?_))
  go_at_call 173
  refine (l6Read_spec _ m _ _ h1.sl (Mc.right hok) hpc).mono ?_
  rintro e w2 ⟨rfl, hb2⟩
  rw [HC.out]
  have hB3 := hB2.trans (hb2.mono hB2.size)
  have z2 := z1.below hb2
  have r2 := r1.below hb2
  clear kh ks kp
  go_wp2_with (first
    | (go_at_call 174; refine (sizeOf_spec _ _).mono ?_; rintro e w3 ⟨rfl, hb3⟩; rw [← HS.out]; have hB4 := hB3.trans (hb3.mono hB3.size); have z3 := z2.below hb3; have r3 := r2.below hb3; have kp := (cw r3).pc; have h3 := h.below hB4)
    | (refine ld_mc rfl rfl rfl r3 ?_))
  go_at_call 173
  refine (l6Read_spec _ m _ _ h3.sl (Mc.right hok) hq).mono ?_
  rintro e w4 ⟨rfl, hb4⟩
  rw [HP.out]
  have hB5 := hB4.trans (hb4.mono hB4.size)
  have z4 := z3.below hb4
  have r4 := r3.below hb4
  have kp4 := (cw r4).pc
  have lz4 := z4.lt
  have lr4 := r4.lt
  clear kp
  obtain ⟨N, HN⟩ : ∃ N, Hid (N = m.opnd) := ⟨_, show _ = _ from rfl⟩
  rw [← HN.out]
  have hnb : bok N = true := by rw [HN.out]; exact opnd_ok hok
  obtain ⟨M, HM⟩ : ∃ M, Hid (M = (m.onw.does m.opnd k).1) := ⟨_, show _ = _ from rfl⟩
  obtain ⟨O, HQ⟩ : ∃ O, Hid (O = (m.onw.does m.opnd k).2) := ⟨_, show _ = _ from rfl⟩
  obtain ⟨m5, H5⟩ : ∃ m5 : Mc, Hid (m5 = { m with pc := (m.pc + sz) % 256 }) := ⟨_, show _ = _ from rfl⟩
  have hDo : ∀ (W : World), Ow base W x y m5 → Calls Tryz.prog 175 #[m5.val x y, .int .i64 (k : Int), .int .i64 N] W fun e w' => e = .returned (.tuple #[M.val x y, .int .i64 O]) ∧ Ow base w' x y M ∧ But y W w' := fun W hW => by
    rw [HM.out, HQ.out, HO.out, ← HN.out, ← H5.out]
    exact l7Do_spec rfl hW (by rw [H5.out]; exact ok_pc hok (bok_mod _)) _ hnb k hk
  clear hnb
  have hc5 : (m.cells x y).setIfInBounds 4 (.int .i64 ((m.pc + sz) % 256)) = m5.cells x y := by rw [H5.out]; rfl
  have hr5 : m5.rom = m.rom ∧ m5.ram = m.ram := by rw [H5.out]; exact ⟨rfl, rfl⟩
  go_wp2_with (first
    | (refine st_num (m' := m5) rfl rfl rfl rfl r4 rfl hc5 ?_; intro w5 r5 o5 s5; have z5 := z4.onto o5 (by omega); have hB6 := below_onto hB5 o5 (by omega); have h5 := (h.below hB6).as (m' := m5) hr5.1 hr5.2; clear hc5 hr5 kp4 hrem1 hrem2 hz0)
    | (refine ld_mc rfl rfl rfl r5 ?_)
    | (go_at_call 175; refine (hDo _ h5).mono ?_; rintro e w6 ⟨rfl, h6, hb6⟩; have z6 := hb6.row hg z5 (by omega); have hsz6 := (hb6 g hg).size; have hsB6 := hB6.size)
    | (refine al_mc rfl rfl ?_; intro w7 z7 hb7; have z7' := z6.below hb7; have h7 := h6.below hb7; have l7 := z7.lt; have l6 := z6.lt; have hsz7 := hb7.size)
    | (refine st_mc rfl rfl rfl rfl z7 (one_own h.hx) (one_own h.hy) ?_; intro w8 r8 o8 s8))
  have hGy : Gy w base w6.heap.size w0.heap.size x y M false w8 :=
    ⟨r8, h7.at o8 (fun e => by have := (h.hx.lt _ e).2; omega) (fun e => by have := (h.hy.lt _ e).2; omega), (((But.of hB6).trans hb6).trans (.of hb7)).new o8 (by omega), z7'.onto o8 (by omega)⟩
  have hs0 := hB0.size
  refine region_known (by kernel_rfl) (by kernel_rfl) 4 (by decide) (by kernel_rfl) (Gy w base w6.heap.size w0.heap.size x y M)
    [M.val x y, .int .i64 (k : Int), .int .i64 (line (k : Int)).2.2, .int .i64 O, undef, .int .i64 (line (k : Int)).2.2, .int .i64 O] (hGy.below (below_drewN (Below.refl _ _) 1)) ?step ?done
  case step =>
    intro L ix o' A W hi hI hL hd
    have hin : ix < 7 := by
      by_cases hl : ix < 7
      · exact hl
      · simp [hl] at hi
    have hg' := hI.g
    rcases ix with _ | ix
    · cases hi
      have e0 : A.eval (.tmp 8) = .pointer (some ⟨w6.heap.size, 0, none⟩) := hI.old 8 (by kernel_rfl)
      exact at_op rfl rfl (wp_load_row _ _ rfl _ e0 _ _ _ _ hg'.row.row Tryz.underlying30 rfl info_mc ⟨_, rfl, rfl, by simpa using hg'⟩)
    rcases ix with _ | ix
    · cases hi
      have e0 : A.eval (.tmp 5) = .int .i64 (k : Int) := hI.old 5 (by kernel_rfl)
      exact at_op rfl rfl (move_op rfl ⟨_, rfl, e0, by simpa using hg'⟩)
    rcases ix with _ | ix
    · cases hi
      have e0 : A.eval (.tmp 47) = .int .i64 (k : Int) := hI.val hd 1 47 rfl rfl (by kernel_rfl)
      refine at_op rfl rfl (call_op rfl Tryz.func176 (by kernel_rfl) (by kernel_rfl) ?_)
      simp only [List.map_cons, List.map_nil, e0]
      refine (costOf_spec _ _).mono ?_
      rintro e W1 ⟨rfl, hb⟩
      exact ⟨_, rfl, _, rfl, rfl, by simpa using hg'.below hb⟩
    rcases ix with _ | ix
    · cases hi
      have e0 : A.eval (.tmp 9) = .int .i64 O := hI.old 9 (by kernel_rfl)
      exact at_op rfl rfl (move_op rfl ⟨_, rfl, e0, by simpa using hg'⟩)
    rcases ix with _ | ix
    · cases hi
      have e0 : A.eval (.tmp 2) = .pointer (some ⟨w0.heap.size, 0, none⟩) := hI.old 2 (by kernel_rfl)
      have e1 : A.eval (.tmp 46) = M.val x y := hI.val hd 0 46 rfl rfl (by kernel_rfl)
      have hres : MRow W w0.heap.size nil64 nil64 Mc.nul := by have := hg'.res; simpa [hL] using this
      refine at_op rfl rfl (sm_op' rfl e0 e1 hres (one_own hg'.ow.hx) (one_own hg'.ow.hy) (fun W1 hr hon => ⟨_, rfl, rfl, ?_⟩))
      have := hg'.lay hr hon (by omega) (by omega) (fun e => by have := (h.hx.lt _ e).2; omega) (fun e => by have := (h.hy.lt _ e).2; omega)
      simpa using this
    rcases ix with _ | ix
    · cases hi
      have e0 : A.eval (.tmp 48) = .int .i64 (line (k : Int)).2.2 := hI.val hd 2 48 rfl rfl (by kernel_rfl)
      exact at_op rfl rfl (assign_op rfl ⟨_, rfl, e0, by simpa using hg'⟩)
    rcases ix with _ | ix
    · cases hi
      have e0 : A.eval (.tmp 49) = .int .i64 O := hI.val hd 3 49 rfl rfl (by kernel_rfl)
      exact at_op rfl rfl (assign_op rfl ⟨_, rfl, e0, by simpa using hg'⟩)
    omega
  case done =>
    intro A W hI
    have hg' := hI.g
    have hres : MRow W w0.heap.size x y M := by have := hg'.res; simpa using this
    have a2 : A.tmps.getD 2 undef = .pointer (some ⟨w0.heap.size, 0, none⟩) := hI.old 2 (by kernel_rfl)
    have a3 : A.tmps.getD 3 undef = .int .i64 (line (k : Int)).2.2 := hI.last 5 3 rfl
    have a4 : A.tmps.getD 4 undef = .int .i64 O := hI.last 6 4 rfl
    go_wp2_with fail
    refine ret_mc3' rfl a2 hres hI.defers a3 a4 ?_
    rw [← HM.out, ← HQ.out]
    exact ⟨rfl, hg'.ow, hg'.but⟩
theorem l7Run_spec (hv : v = m.val x y) (h : Ow base w x y m) (hok : m.ok = true) : Calls Tryz.prog 127 #[v] w fun e w' => Ran base w w' e x y m.exec := by
  unfold Mc.exec
  cases hi : (m.h || m.s)
  · rw [if_neg (by decide)]
    by_cases hz : m.size' = 0
    · rw [if_pos hz]; exact l7Run_stuck hv h hok hi hz
    · rw [if_neg hz]
      have hc : 0 ≤ m.code ∧ m.code < 31 := by
        by_cases h : 0 ≤ m.code ∧ m.code < 31
        · exact h
        · exact absurd (by unfold Mc.size'; rw [size_no _ h]) hz
      obtain ⟨k, hk⟩ : ∃ k : Nat, m.code = (k : Int) := ⟨m.code.toNat, by omega⟩
      have hk31 : k < 31 := by omega
      rw [hk, Int.toNat_natCast]
      exact l7Run_does hv h hok hi k hk31 hk
  · rw [if_pos rfl]; exact l7Run_idle hv h hi
end
end Go.Proofs.YtghmkacamabndaaGreatDoor.Mem
namespace Go.Proofs.YtghmkacamabndaaGreatDoor.Mem
open Go.ChangeShapes Go.WideShapes Go.RowKit Base Num Slc Slf Rw Tmr Srl Rom Opl Reg

structure Tame (base : Nat) (w w' : World) : Prop where
  os : w'.os = w.os
  tape : w'.tape = w.tape
  output : w'.output = w.output
  size : w.heap.size ≤ w'.heap.size
  block : ∀ k, k < w.heap.size → (k < base ∨ ∀ cs T fz, w.heap[k]? = some (.cells cs T fz) → Plain T ∧ T ≠ 2) → w'.heap[k]? = w.heap[k]?
theorem Tame.refl (base : Nat) (w : World) : Tame base w w := ⟨rfl, rfl, rfl, Nat.le_refl _, fun _ _ _ => rfl⟩
theorem Tame.below {base : Nat} {w w' : World} (h : Tame base w w') (hs : base ≤ w.heap.size) : Below base w w' := ⟨h.os, h.tape, h.output, h.size, fun k hk => h.block k (by omega) (.inl hk)⟩
theorem Tame.row {base g : Nat} {w w' : World} {cs : Array Value} {T : TypeId} (h : Tame base w w') (hr : Row w g cs T) (hT : Plain T) (hi : T ≠ 2) : Row w' g cs T :=
  hr.keep (h.block g hr.lt (.inr fun cs' T' fz e => by
    rw [hr.row] at e
    simp only [Option.some.injEq, Obj.cells.injEq] at e
    exact e.2.1 ▸ ⟨hT, hi⟩))
section
variable {base p : Nat} {w w1 w2 : World}
theorem bb_below (h : Tame base w w1) (hs : base ≤ w1.heap.size) (hb : Below w1.heap.size w1 w2) : Tame base w w2 :=
  ⟨hb.os.trans h.os, hb.tape.trans h.tape, hb.output.trans h.output, Nat.le_trans h.size hb.size, fun k hk hp => (hb.block k (Nat.lt_of_lt_of_le hk h.size)).trans (h.block k hk hp)⟩
theorem bb_onto (h : Tame base w w1) (o : Onto p w1 w2) (hp : w.heap.size ≤ p) (hs : base ≤ w1.heap.size) : Tame base w w2 :=
  ⟨o.os.trans h.os, o.tape.trans h.tape, o.output.trans h.output, Nat.le_trans h.size o.size, fun k hk hp' => (o.block k (by omega) (Nat.lt_of_lt_of_le hk h.size)).trans (h.block k hk hp')⟩
theorem bb_ram {v : Value} {l : List Int} (h : Tame base w w1) (hv : Own base w v l) (hg : v.ownBlock = some p) (o : Onto p w1 w2) : Tame base w w2 :=
  ⟨o.os.trans h.os, o.tape.trans h.tape, o.output.trans h.output, Nat.le_trans h.size o.size, fun k hk hp => (o.block k (fun e => by
    subst e
    rcases hp with hp | hp
    · have := (hv.lt _ hg).1; omega
    · rcases hv.2 with ⟨rfl, _⟩ | ⟨g, cap, cur, rfl, _, hb, _⟩
      · simp [Value.ownBlock] at hg
      · have e : g = k := Option.some.inj hg
        subst e
        exact (hp _ _ _ hb).2 rfl) (Nat.lt_of_lt_of_le hk h.size)).trans (h.block k hk hp)⟩
theorem bb_mild (h : Tame base w w1) (hs : base ≤ w1.heap.size) (m : Mild base w1 w2) : Tame base w w2 :=
  ⟨m.os.trans h.os, m.tape.trans h.tape, m.output.trans h.output, Nat.le_trans h.size m.size, fun k hk hp => by
    have e := h.block k hk hp
    refine (m.block k (Nat.lt_of_lt_of_le hk h.size) ?_).trans e
    rw [e]
    exact hp.imp id fun hp cs T fz hq => (hp cs T fz hq).1⟩
theorem slF_bb {α : Type} {f : Fl α} {v : Value} {l : List α} (hs : SlF f w v l) (hv : 0 < l.length → ∀ k, v.ownBlock = some k → k < base) (hb : Tame base w w1) : SlF f w1 v l := by
  obtain ⟨a, cap, rfl, h1, h2⟩ := hs
  exact ⟨a, cap, rfl, h1.keep hb.size (fun h0 x hx => hb.block _ (h1.lt h0 x hx) (.inl (hv h0 _ (by subst hx; rfl)))), h2⟩
end
abbrev TRow (w : World) (g : Nat) (t : Tm) : Prop := Row w g #[.int .i64 t.c, .int .i64 t.v, .int .i64 t.s, .int .i64 t.m] 26
section
variable {ops : Array Oper} {rest : List Oper} {op : Oper} {a : Act} {w : World} {Q : Exit → Act → World → Prop} {p q : Operand} {g : Nat} {r r0 : Tm}
theorem al_t (hgd : op.guard = none) (ho : op.op = .alloc 26)
    (h : ∀ w', TRow w' w.heap.size Tm.nul → Below w.heap.size w w' → wpList Tryz.prog ops Q rest (a.put op.dst (.pointer (some ⟨w.heap.size, 0, none⟩))) w') : wpList Tryz.prog ops Q (op :: rest) a w :=
  wpList_plain hgd fun _ hK => by
    have e : (execOp a.eval op).run Tryz.prog w = .ok (.value (.pointer (some ⟨w.heap.size, 0, none⟩))) (w.alloc (.cells #[.int .i64 0, .int .i64 0, .int .i64 0, .int .i64 0] 26)) := by
      unfold execOp
      rw [ho]
      kernel_rfl
    unfold Oper.wp
    rw [e]
    exact hK _ _ (h _ (Row.new _ _ _) ((Below.refl _ _).alloc (Nat.le_refl _) _))
theorem st_tt (hgd : op.guard = none) (ho : op.op = .store 26 p q) (hx : a.eval p = .pointer (some ⟨g, 0, none⟩)) (hy : a.eval q = r.val) (hr : TRow w g r0)
    (h : ∀ w', TRow w' g r → Onto g w w' → wpList Tryz.prog ops Q rest (a.put op.dst undef) w') : wpList Tryz.prog ops Q (op :: rest) a w :=
  st_row hgd _ p q ho hx hy hr info_t rfl (by simp [Value.oneCell']) (fun w' h1 h2 _ => h w' h1 h2)
theorem ld_tt (hgd : op.guard = none) (ho : op.op = .load 26 p) (hx : a.eval p = .pointer (some ⟨g, 0, none⟩)) (hr : TRow w g r) (h : wpList Tryz.prog ops Q rest (a.put op.dst r.val) w) : wpList Tryz.prog ops Q (op :: rest) a w :=
  ld_row hgd _ p ho hx hr Tryz.underlying26 rfl info_t h
end
theorem plain_t : Plain 26 := ⟨by decide, by decide⟩
def Stpd (base : Nat) (w w' : World) (e : Ending) (x y : Value) (r : St × Bool) : Prop :=
  Tame base w w' ∧ ((r.2 = true ∧ ∃ vo ve, e = .returned (.tuple #[r.1.val x y vo ve, .bool true]) ∧ So base w' x y vo ve r.1) ∨ (r.2 = false ∧ e = .returned (.tuple #[St.nul.val nil64 nil64 nil64 nil64, .bool false])))
def Mc.step' (m : Mc) (l : List M3) : St × Bool := if m.fin ≤ 999999900 then (m.stepped l, true) else (St.nul, false)
set_option maxHeartbeats 4000000 in
theorem l9Step_spec (v vi x y : Value) (m : Mc) (l : List M3) (w : World) (base : Nat) (hv : v = m.val x y) (h : Ow base w x y m) (hok : m.ok = true) (hs : SlF fM w vi l) (hvi : 0 < l.length → ∀ k, vi.ownBlock = some k → k < base) (hl : inboxOk l = true) :
    Calls Tryz.prog 56 #[v, vi] w fun e w' => Stpd base w w' e x y (m.step' l) := by
  have hlen := inboxOk_few hl
  have hT : ∀ i, i < l.length → 0 ≤ (M3.at' l i).t ∧ (M3.at' l i).t ≤ 1000000100 := fun i hi => by
    have := inbox_at hl hi
    simp only [M3.ok, Bool.and_eq_true] at this
    exact inn_true this.1
  have hle := h.le
  have hkk : 0 ≤ m.k ∧ m.k ≤ 1000000000 := by
    have h1 := (okm.1 hok).k
    have h2 := (Tm.ok_true (okm.1 hok).t).1
    omega
  obtain ⟨gy, cy, hy, hgb, hgl, -, -⟩ := h.hy.block (by have := (okm.1 hok).len; omega)
  have hgy : y.ownBlock = some gy := by rw [hy]; rfl
  clear hy
  obtain ⟨r, HX⟩ : ∃ r, Hid (r = m.step' l) := ⟨_, show _ = _ from rfl⟩
  rw [← HX.out]
  obtain ⟨M1, C, hC⟩ : ∃ M1 C, m.call = (M1, C) := ⟨_, _, rfl⟩
  have hok1 : M1.ok = true := by have := (call_like hok).1; rwa [hC] at this
  have HC : Hid (m.call = (M1, C)) := hC
  clear hC hl
  by_cases hc : C < 0
  · obtain ⟨M2, K, U, hR⟩ : ∃ M2 K U, M1.exec = (M2, K, U) := ⟨_, _, _, rfl⟩
    have hK : 1 ≤ K ∧ K ≤ 4 := by have := exec_costs M1; rwa [hR] at this
    have HR : Hid (M1.exec = (M2, K, U)) := hR
    clear hR
    by_cases hu : 0 ≤ U
    · have HTU : Hid (m.turn = (M2, K, [⟨m.k + K, 1, U⟩])) := show _ = _ by
        unfold Mc.turn
        rw [HC.out, HR.out]
        simp [hc, hu]
      have hfin : m.fin = m.k + K := by unfold Mc.fin; rw [HTU.out]
      by_cases hf : m.k + K ≤ 999999900
      · have hX : r = (m.stepped l, true) := by rw [HX.out]; unfold Mc.step'; rw [hfin, if_pos hf]
        obtain ⟨S1, hS1⟩ : ∃ S1, ((⟨M2, [], [⟨m.k + K, 1, U⟩], 0⟩ : St)).evs l (m.k + K) = S1 := ⟨_, rfl⟩
        obtain ⟨TA, RD, hTA⟩ : ∃ TA RD, S1.m.t.after K = (TA, RD) := ⟨_, _, rfl⟩
        have hQ : m.stepped l = { S1 with m := { S1.m with t := TA, k := m.k + K, fl := if 0 < RD then bits .or .i64 S1.m.fl 1 else S1.m.fl } } := by
          unfold Mc.stepped St.first St.closed
          rw [hfin, HTU.out]
          show (_ : St) = _
          rw [hS1, hTA]
        have HX : Hid (r = (m.stepped l, true)) := hX
        have HS1 : Hid (((⟨M2, [], [⟨m.k + K, 1, U⟩], 0⟩ : St)).evs l (m.k + K) = S1) := hS1
        have HT : Hid (S1.m.t.after K = (TA, RD)) := hTA
        clear hX hS1 hTA hfin
        by_cases hrd : 0 < RD
        · have HQ : Hid ({ S1 with m := { S1.m with t := TA, k := m.k + K, fl := bits .or .i64 S1.m.fl 1 } } = m.stepped l) := show _ = _ by rw [hQ, if_pos hrd]
          clear hQ
          go_enter Tryz.func56, Tryz.ntmps56
          go_wp2_with (first
            | (refine box_m rfl rfl hv ?_; intro w0 r0 hb0; have lr0 := r0.lt; have O0 := h.below hb0; have K0 : Tame base w w0 := bb_below (Tame.refl base w) hle hb0; have L0 : base ≤ w0.heap.size := O0.le)
            | (refine al_st rfl rfl ?_; intro w1 z1 hb1; have r1 := r0.below hb1; have O1 := O0.below hb1; have K1 := bb_below K0 L0 hb1; have L1 := O1.le; have lz1 := z1.lt; have ck : w1.cell? ⟨w.heap.size, 24, none⟩ = some (.int .i64 m.k) := (cw r1).k)
            | (refine ld_mc rfl rfl rfl r1 ?_)
            | (go_at_call 126; refine (l8Call_spec rfl O1 hok).mono ?_; rw [HC.out]; rintro e w2 ⟨rfl, O2x, bt2⟩; have O2 : Ow base w2 x y M1 := O2x; clear O2x; have n2 := bt2 gy hgy; clear ck; have z2 := z1.onto n2 (by omega); have K2 := bb_ram K1 h.hy hgy n2; have sz2 := n2.size; have L2 : base ≤ w2.heap.size := Nat.le_trans L1 sz2; have lz2 := z2.lt)
            | (refine al_mc rfl rfl ?_; intro w3 q3 hb3; have z3 := z2.below hb3; have O3 := O2.below hb3; have K3 := bb_below K2 L2 hb3; have sz3 := hb3.size; have L3 : base ≤ w3.heap.size := Nat.le_trans L2 sz3; have lz3 := z3.lt; have lq3 := q3.lt)
            | (refine st_mc rfl rfl rfl rfl q3 (one_own O3.hx) (one_own O3.hy) ?_; rintro w4 q4 o4 -; have z4 := z3.onto o4 (by omega); have O4 := O3.at o4 (own_not_row O3.hx q3 (by decide)) (own_not_row O3.hy q3 (by decide)); have K4 := bb_onto K3 o4 (by omega) L3; have sz4 := o4.size; have L4 : base ≤ w4.heap.size := Nat.le_trans L3 sz4; have lz4 := z4.lt; have lq4 := q4.lt)
            | (refine ld_mc rfl rfl rfl q4 ?_)
            | (refine bd_s1 rfl rfl rfl ?_)
            | (refine al_st rfl rfl ?_; intro w5 S5 hb5; have z5 := z4.below hb5; have O5 := O4.below hb5; have q5 := q4.below hb5; have K5 := bb_below K4 L4 hb5; have sz5 := hb5.size; have L5 : base ≤ w5.heap.size := Nat.le_trans L4 sz5; have lz5 := z5.lt; have lq5 := q5.lt; have lS5 := S5.lt)
            | (refine st_s rfl rfl rfl rfl S5 (one_own O5.hx) (one_own O5.hy) rfl rfl ?_; rintro w6 S6 o6 -; have z6 := z5.onto o6 (by omega); have O6 := O5.at o6 (own_not_row O5.hx S5 (by decide)) (own_not_row O5.hy S5 (by decide)); have q6 := q5.onto o6 (by omega); have K6 := bb_onto K5 o6 (by omega) L5; have sz6 := o6.size; have L6 : base ≤ w6.heap.size := Nat.le_trans L5 sz6; have lz6 := z6.lt; have lq6 := q6.lt; have lS6 := S6.lt; have ke6 := (sw S6).e)
            | (refine ld_mc rfl rfl rfl q6 ?_)
            | (go_at_call 127; refine (l7Run_spec rfl O6 hok1).mono ?_; rw [HR.out]; rintro e w7 ⟨rfl, O7x, bt7⟩; have O7 : Ow base w7 x y M2 := O7x; clear O7x; have n7 := bt7 gy hgy; clear ke6; have z7 := z6.onto n7 (by omega); have q7 := q6.onto n7 (by omega); have S7 := S6.onto n7 (by omega); have K7 := bb_ram K6 h.hy hgy n7; have sz7 := n7.size; have L7 : base ≤ w7.heap.size := Nat.le_trans L6 sz7; have lz7 := z7.lt; have lq7 := q7.lt; have lS7 := S7.lt)
            | (refine al_mc rfl rfl ?_; intro w8 p8 hb8; have z8 := z7.below hb8; have O8 := O7.below hb8; have q8 := q7.below hb8; have S8 := S7.below hb8; have K8 := bb_below K7 L7 hb8; have sz8 := hb8.size; have L8 : base ≤ w8.heap.size := Nat.le_trans L7 sz8; have lz8 := z8.lt; have lq8 := q8.lt; have lS8 := S8.lt; have lp8 := p8.lt)
            | (refine st_mc rfl rfl rfl rfl p8 (one_own O8.hx) (one_own O8.hy) ?_; rintro w9 p9 o9 -; have z9 := z8.onto o9 (by omega); have O9 := O8.at o9 (own_not_row O8.hx p8 (by decide)) (own_not_row O8.hy p8 (by decide)); have q9 := q8.onto o9 (by omega); have S9 := S8.onto o9 (by omega); have K9 := bb_onto K8 o9 (by omega) L8; have sz9 := o9.size; have L9 : base ≤ w9.heap.size := Nat.le_trans L8 sz9; have lz9 := z9.lt; have lq9 := q9.lt; have lS9 := S9.lt; have lp9 := p9.lt)
            | (refine ld_mc rfl rfl rfl p9 ?_)
            | (refine st_sm rfl rfl rfl rfl S9 (one_own O9.hx) (one_own O9.hy) ?_; rintro w10 S10 o10 -; have z10 := z9.onto o10 (by omega); have O10 := O9.at o10 (own_not_row O9.hx S9 (by decide)) (own_not_row O9.hy S9 (by decide)); have q10 := q9.onto o10 (by omega); have p10 := p9.onto o10 (by omega); have K10 := bb_onto K9 o10 (by omega) L9; have sz10 := o10.size; have L10 : base ≤ w10.heap.size := Nat.le_trans L9 sz10; have lz10 := z10.lt; have lq10 := q10.lt; have lS10 := S10.lt; have lp10 := p10.lt; have ke10 := (sw S10).e; have hal : Below w10.heap.size w10 (w10.alloc (.cells #[.int .i64 (m.k + K), .int .i64 1, .int .i64 U] 142)) := (Below.refl _ _).alloc (Nat.le_refl _) _; have hlit := own_litF fE okE w10.heap.size w10 #[.int .i64 (m.k + K), .int .i64 1, .int .i64 U] [⟨m.k + K, 1, U⟩] rfl (by unfold maxLen; simp) (Nat.le_refl _); have zl := z10.below hal; have Sl' := S10.below hal; have Ol := O10.below hal; have Kl := bb_below K10 L10 hal; have Ll := Ol.le)
            | (at_builtin; refine appF okE rfl (.tmp 40) (.tmp 46) rfl base [] [⟨m.k + K, 1, U⟩] (OwnF.nil _ _ _) (hlit.sl okE) (by simp) (by omega) ?_; intro v11 w11 E11 hg11; have t11 := Mild.grown (base := base) not_plainE (OwnF.nil fE base _) hg11; have z11 := t11.row zl plain_st; have S11 := t11.row Sl' plain_st; have O11 := t11.ow Ol; have K11 := bb_mild Kl Ll t11; have sz11 := t11.size; have L11 := O11.le; have lz11 := z11.lt; have lS11 := S11.lt)
            | (refine st_se (l := [⟨m.k + K, 1, U⟩]) rfl rfl rfl rfl S11 (E11.one okE) ?_; rintro w12 S12 o12 -; have z12 := z11.onto o12 (by omega); have O12 := O11.at o12 (own_not_row O11.hx S11 (by decide)) (own_not_row O11.hy S11 (by decide)); have E12 := E11.onto o12 (E11.not_row S11 (by decide)); have K12 := bb_onto K11 o12 (by omega) L11; have sz12 := o12.size; have L12 : base ≤ w12.heap.size := Nat.le_trans L11 sz12; have lz12 := z12.lt; have lS12 := S12.lt; have Y12 : So base w12 x y nil64 v11 (⟨M2, [], [⟨m.k + K, 1, U⟩], 0⟩) := ⟨O12, OwnF.nil _ _ _, E12⟩; have hs12 := slF_bb hs hvi K12)
            | (refine ld_s' rfl rfl rfl S12 ?_)
            | (go_at_call 128; refine (l9Events_spec _ _ x y nil64 v11 (⟨M2, [], [⟨m.k + K, 1, U⟩], 0⟩) l _ _ base rfl Y12 hs12 hvi hlen hT rfl (by simp) (by simp)).mono ?_; rw [HS1.out]; rintro e w13 ⟨vo1, ve1, rfl, Y13, t13⟩; have z13 := t13.row z12 plain_st; have S13 := t13.row S12 plain_st; have K13 := bb_mild K12 L12 t13; have sz13 := t13.size; have L13 := Y13.ow.le; have lz13 := z13.lt; have lS13 := S13.lt)
            | (refine st_s rfl rfl rfl rfl S13 (one_own Y13.ow.hx) (one_own Y13.ow.hy) (Y13.o.one okM) (Y13.e.one okE) ?_; rintro w14 S14 o14 -; have z14 := z13.onto o14 (by omega); have Y14 := Y13.row o14 S13 plain_st (by decide); have K14 := bb_onto K13 o14 (by omega) L13; have sz14 := o14.size; have L14 : base ≤ w14.heap.size := Nat.le_trans L13 sz14; have lz14 := z14.lt; have lS14 := S14.lt)
            | (refine ld_st rfl rfl rfl S14 ?_)
            | (go_at_call 129; refine (timerAfter_spec S1.m.t K _).mono ?_; rw [HT.out]; rintro e w15 ⟨rfl, hb15⟩; have z15 := z14.below hb15; have S15 := S14.below hb15; have Y15 := Y14.below hb15; have K15 := bb_below K14 L14 hb15; have sz15 := hb15.size; have L15 : base ≤ w15.heap.size := Nat.le_trans L14 sz15; have lz15 := z15.lt; have lS15 := S15.lt)
            | (refine al_t rfl rfl ?_; intro w16 t16 hb16; have z16 := z15.below hb16; have S16 := S15.below hb16; have Y16 := Y15.below hb16; have K16 := bb_below K15 L15 hb16; have sz16 := hb16.size; have L16 : base ≤ w16.heap.size := Nat.le_trans L15 sz16; have lz16 := z16.lt; have lS16 := S16.lt; have lt16 := t16.lt)
            | (refine st_tt rfl rfl rfl rfl t16 ?_; rintro w17 t17 o17; have z17 := z16.onto o17 (by omega); have S17 := S16.onto o17 (by omega); have Y17 := Y16.row o17 t16 plain_t (by decide); have K17 := bb_onto K16 o17 (by omega) L16; have sz17 := o17.size; have L17 : base ≤ w17.heap.size := Nat.le_trans L16 sz17; have lz17 := z17.lt; have lS17 := S17.lt; have lt17 := t17.lt)
            | (refine ld_tt rfl rfl rfl t17 ?_)
            | (refine st_st rfl rfl rfl rfl S17 ?_; rintro w18 S18 o18 -; have z18 := z17.onto o18 (by omega); have K18 := bb_onto K17 o18 (by omega) L17; have sz18 := o18.size; have L18 : base ≤ w18.heap.size := Nat.le_trans L17 sz18; have lz18 := z18.lt; have lS18 := S18.lt; have Y18 := (Y17.row o18 S17 plain_st (by decide)).as (s' := { S1 with m := { S1.m with t := TA } }) rfl rfl rfl rfl)
            | (refine st_sn (s' := { S1 with m := { S1.m with t := TA, k := m.k + K } }) rfl rfl rfl rfl S18 rfl rfl ?_; rintro w19 S19 o19 -; have z19 := z18.onto o19 (by omega); have K19 := bb_onto K18 o19 (by omega) L18; have sz19 := o19.size; have L19 : base ≤ w19.heap.size := Nat.le_trans L18 sz19; have lz19 := z19.lt; have lS19 := S19.lt; have Y19 := (Y18.row o19 S18 plain_st (by decide)).as (s' := { S1 with m := { S1.m with t := TA, k := m.k + K } }) rfl rfl rfl rfl; have kf19 := (sw S19).fl)
            | (refine st_sn (s' := { S1 with m := { S1.m with t := TA, k := m.k + K, fl := bits .or .i64 S1.m.fl 1 } }) rfl rfl rfl rfl S19 rfl rfl ?_; rintro w20 S20 o20 -; have z20 := z19.onto o20 (by omega); have K20 := bb_onto K19 o20 (by omega) L19; have sz20 := o20.size; have L20 : base ≤ w20.heap.size := Nat.le_trans L19 sz20; have lz20 := z20.lt; have lS20 := S20.lt; have Y20 := (Y19.row o20 S19 plain_st (by decide)).as (s' := { S1 with m := { S1.m with t := TA, k := m.k + K, fl := bits .or .i64 S1.m.fl 1 } }) rfl rfl rfl rfl)
            | (refine ld_s' rfl rfl rfl S20 ?_)
            | (refine st_s rfl rfl rfl rfl z20 (one_own Y20.ow.hx) (one_own Y20.ow.hy) (Y20.o.one okM) (Y20.e.one okE) ?_; rintro wa za oa -; have Ka := bb_onto K20 oa (by omega) L20; have Ya := Y20.row oa z20 plain_st (by decide)))
          refine ret_s2 rfl rfl za rfl rfl ?_
          rw [HX.out]
          exact ⟨Ka, .inl ⟨rfl, vo1, ve1, by rw [← HQ.out]; rfl, by rw [← HQ.out]; exact Ya⟩⟩
        · have HQ : Hid ({ S1 with m := { S1.m with t := TA, k := m.k + K } } = m.stepped l) := show _ = _ by rw [hQ, if_neg hrd]
          clear hQ
          go_enter Tryz.func56, Tryz.ntmps56
          go_wp2_with (first
            | (refine box_m rfl rfl hv ?_; intro w0 r0 hb0; have lr0 := r0.lt; have O0 := h.below hb0; have K0 : Tame base w w0 := bb_below (Tame.refl base w) hle hb0; have L0 : base ≤ w0.heap.size := O0.le)
            | (refine al_st rfl rfl ?_; intro w1 z1 hb1; have r1 := r0.below hb1; have O1 := O0.below hb1; have K1 := bb_below K0 L0 hb1; have L1 := O1.le; have lz1 := z1.lt; have ck : w1.cell? ⟨w.heap.size, 24, none⟩ = some (.int .i64 m.k) := (cw r1).k)
            | (refine ld_mc rfl rfl rfl r1 ?_)
            | (go_at_call 126; refine (l8Call_spec rfl O1 hok).mono ?_; rw [HC.out]; rintro e w2 ⟨rfl, O2x, bt2⟩; have O2 : Ow base w2 x y M1 := O2x; clear O2x; have n2 := bt2 gy hgy; clear ck; have z2 := z1.onto n2 (by omega); have K2 := bb_ram K1 h.hy hgy n2; have sz2 := n2.size; have L2 : base ≤ w2.heap.size := Nat.le_trans L1 sz2; have lz2 := z2.lt)
            | (refine al_mc rfl rfl ?_; intro w3 q3 hb3; have z3 := z2.below hb3; have O3 := O2.below hb3; have K3 := bb_below K2 L2 hb3; have sz3 := hb3.size; have L3 : base ≤ w3.heap.size := Nat.le_trans L2 sz3; have lz3 := z3.lt; have lq3 := q3.lt)
            | (refine st_mc rfl rfl rfl rfl q3 (one_own O3.hx) (one_own O3.hy) ?_; rintro w4 q4 o4 -; have z4 := z3.onto o4 (by omega); have O4 := O3.at o4 (own_not_row O3.hx q3 (by decide)) (own_not_row O3.hy q3 (by decide)); have K4 := bb_onto K3 o4 (by omega) L3; have sz4 := o4.size; have L4 : base ≤ w4.heap.size := Nat.le_trans L3 sz4; have lz4 := z4.lt; have lq4 := q4.lt)
            | (refine ld_mc rfl rfl rfl q4 ?_)
            | (refine bd_s1 rfl rfl rfl ?_)
            | (refine al_st rfl rfl ?_; intro w5 S5 hb5; have z5 := z4.below hb5; have O5 := O4.below hb5; have q5 := q4.below hb5; have K5 := bb_below K4 L4 hb5; have sz5 := hb5.size; have L5 : base ≤ w5.heap.size := Nat.le_trans L4 sz5; have lz5 := z5.lt; have lq5 := q5.lt; have lS5 := S5.lt)
            | (refine st_s rfl rfl rfl rfl S5 (one_own O5.hx) (one_own O5.hy) rfl rfl ?_; rintro w6 S6 o6 -; have z6 := z5.onto o6 (by omega); have O6 := O5.at o6 (own_not_row O5.hx S5 (by decide)) (own_not_row O5.hy S5 (by decide)); have q6 := q5.onto o6 (by omega); have K6 := bb_onto K5 o6 (by omega) L5; have sz6 := o6.size; have L6 : base ≤ w6.heap.size := Nat.le_trans L5 sz6; have lz6 := z6.lt; have lq6 := q6.lt; have lS6 := S6.lt; have ke6 := (sw S6).e)
            | (refine ld_mc rfl rfl rfl q6 ?_)
            | (go_at_call 127; refine (l7Run_spec rfl O6 hok1).mono ?_; rw [HR.out]; rintro e w7 ⟨rfl, O7x, bt7⟩; have O7 : Ow base w7 x y M2 := O7x; clear O7x; have n7 := bt7 gy hgy; clear ke6; have z7 := z6.onto n7 (by omega); have q7 := q6.onto n7 (by omega); have S7 := S6.onto n7 (by omega); have K7 := bb_ram K6 h.hy hgy n7; have sz7 := n7.size; have L7 : base ≤ w7.heap.size := Nat.le_trans L6 sz7; have lz7 := z7.lt; have lq7 := q7.lt; have lS7 := S7.lt)
            | (refine al_mc rfl rfl ?_; intro w8 p8 hb8; have z8 := z7.below hb8; have O8 := O7.below hb8; have q8 := q7.below hb8; have S8 := S7.below hb8; have K8 := bb_below K7 L7 hb8; have sz8 := hb8.size; have L8 : base ≤ w8.heap.size := Nat.le_trans L7 sz8; have lz8 := z8.lt; have lq8 := q8.lt; have lS8 := S8.lt; have lp8 := p8.lt)
            | (refine st_mc rfl rfl rfl rfl p8 (one_own O8.hx) (one_own O8.hy) ?_; rintro w9 p9 o9 -; have z9 := z8.onto o9 (by omega); have O9 := O8.at o9 (own_not_row O8.hx p8 (by decide)) (own_not_row O8.hy p8 (by decide)); have q9 := q8.onto o9 (by omega); have S9 := S8.onto o9 (by omega); have K9 := bb_onto K8 o9 (by omega) L8; have sz9 := o9.size; have L9 : base ≤ w9.heap.size := Nat.le_trans L8 sz9; have lz9 := z9.lt; have lq9 := q9.lt; have lS9 := S9.lt; have lp9 := p9.lt)
            | (refine ld_mc rfl rfl rfl p9 ?_)
            | (refine st_sm rfl rfl rfl rfl S9 (one_own O9.hx) (one_own O9.hy) ?_; rintro w10 S10 o10 -; have z10 := z9.onto o10 (by omega); have O10 := O9.at o10 (own_not_row O9.hx S9 (by decide)) (own_not_row O9.hy S9 (by decide)); have q10 := q9.onto o10 (by omega); have p10 := p9.onto o10 (by omega); have K10 := bb_onto K9 o10 (by omega) L9; have sz10 := o10.size; have L10 : base ≤ w10.heap.size := Nat.le_trans L9 sz10; have lz10 := z10.lt; have lq10 := q10.lt; have lS10 := S10.lt; have lp10 := p10.lt; have ke10 := (sw S10).e; have hal : Below w10.heap.size w10 (w10.alloc (.cells #[.int .i64 (m.k + K), .int .i64 1, .int .i64 U] 142)) := (Below.refl _ _).alloc (Nat.le_refl _) _; have hlit := own_litF fE okE w10.heap.size w10 #[.int .i64 (m.k + K), .int .i64 1, .int .i64 U] [⟨m.k + K, 1, U⟩] rfl (by unfold maxLen; simp) (Nat.le_refl _); have zl := z10.below hal; have Sl' := S10.below hal; have Ol := O10.below hal; have Kl := bb_below K10 L10 hal; have Ll := Ol.le)
            | (at_builtin; refine appF okE rfl (.tmp 40) (.tmp 46) rfl base [] [⟨m.k + K, 1, U⟩] (OwnF.nil _ _ _) (hlit.sl okE) (by simp) (by omega) ?_; intro v11 w11 E11 hg11; have t11 := Mild.grown (base := base) not_plainE (OwnF.nil fE base _) hg11; have z11 := t11.row zl plain_st; have S11 := t11.row Sl' plain_st; have O11 := t11.ow Ol; have K11 := bb_mild Kl Ll t11; have sz11 := t11.size; have L11 := O11.le; have lz11 := z11.lt; have lS11 := S11.lt)
            | (refine st_se (l := [⟨m.k + K, 1, U⟩]) rfl rfl rfl rfl S11 (E11.one okE) ?_; rintro w12 S12 o12 -; have z12 := z11.onto o12 (by omega); have O12 := O11.at o12 (own_not_row O11.hx S11 (by decide)) (own_not_row O11.hy S11 (by decide)); have E12 := E11.onto o12 (E11.not_row S11 (by decide)); have K12 := bb_onto K11 o12 (by omega) L11; have sz12 := o12.size; have L12 : base ≤ w12.heap.size := Nat.le_trans L11 sz12; have lz12 := z12.lt; have lS12 := S12.lt; have Y12 : So base w12 x y nil64 v11 (⟨M2, [], [⟨m.k + K, 1, U⟩], 0⟩) := ⟨O12, OwnF.nil _ _ _, E12⟩; have hs12 := slF_bb hs hvi K12)
            | (refine ld_s' rfl rfl rfl S12 ?_)
            | (go_at_call 128; refine (l9Events_spec _ _ x y nil64 v11 (⟨M2, [], [⟨m.k + K, 1, U⟩], 0⟩) l _ _ base rfl Y12 hs12 hvi hlen hT rfl (by simp) (by simp)).mono ?_; rw [HS1.out]; rintro e w13 ⟨vo1, ve1, rfl, Y13, t13⟩; have z13 := t13.row z12 plain_st; have S13 := t13.row S12 plain_st; have K13 := bb_mild K12 L12 t13; have sz13 := t13.size; have L13 := Y13.ow.le; have lz13 := z13.lt; have lS13 := S13.lt)
            | (refine st_s rfl rfl rfl rfl S13 (one_own Y13.ow.hx) (one_own Y13.ow.hy) (Y13.o.one okM) (Y13.e.one okE) ?_; rintro w14 S14 o14 -; have z14 := z13.onto o14 (by omega); have Y14 := Y13.row o14 S13 plain_st (by decide); have K14 := bb_onto K13 o14 (by omega) L13; have sz14 := o14.size; have L14 : base ≤ w14.heap.size := Nat.le_trans L13 sz14; have lz14 := z14.lt; have lS14 := S14.lt)
            | (refine ld_st rfl rfl rfl S14 ?_)
            | (go_at_call 129; refine (timerAfter_spec S1.m.t K _).mono ?_; rw [HT.out]; rintro e w15 ⟨rfl, hb15⟩; have z15 := z14.below hb15; have S15 := S14.below hb15; have Y15 := Y14.below hb15; have K15 := bb_below K14 L14 hb15; have sz15 := hb15.size; have L15 : base ≤ w15.heap.size := Nat.le_trans L14 sz15; have lz15 := z15.lt; have lS15 := S15.lt)
            | (refine al_t rfl rfl ?_; intro w16 t16 hb16; have z16 := z15.below hb16; have S16 := S15.below hb16; have Y16 := Y15.below hb16; have K16 := bb_below K15 L15 hb16; have sz16 := hb16.size; have L16 : base ≤ w16.heap.size := Nat.le_trans L15 sz16; have lz16 := z16.lt; have lS16 := S16.lt; have lt16 := t16.lt)
            | (refine st_tt rfl rfl rfl rfl t16 ?_; rintro w17 t17 o17; have z17 := z16.onto o17 (by omega); have S17 := S16.onto o17 (by omega); have Y17 := Y16.row o17 t16 plain_t (by decide); have K17 := bb_onto K16 o17 (by omega) L16; have sz17 := o17.size; have L17 : base ≤ w17.heap.size := Nat.le_trans L16 sz17; have lz17 := z17.lt; have lS17 := S17.lt; have lt17 := t17.lt)
            | (refine ld_tt rfl rfl rfl t17 ?_)
            | (refine st_st rfl rfl rfl rfl S17 ?_; rintro w18 S18 o18 -; have z18 := z17.onto o18 (by omega); have K18 := bb_onto K17 o18 (by omega) L17; have sz18 := o18.size; have L18 : base ≤ w18.heap.size := Nat.le_trans L17 sz18; have lz18 := z18.lt; have lS18 := S18.lt; have Y18 := (Y17.row o18 S17 plain_st (by decide)).as (s' := { S1 with m := { S1.m with t := TA } }) rfl rfl rfl rfl)
            | (refine st_sn (s' := { S1 with m := { S1.m with t := TA, k := m.k + K } }) rfl rfl rfl rfl S18 rfl rfl ?_; rintro w19 S19 o19 -; have z19 := z18.onto o19 (by omega); have K19 := bb_onto K18 o19 (by omega) L18; have sz19 := o19.size; have L19 : base ≤ w19.heap.size := Nat.le_trans L18 sz19; have lz19 := z19.lt; have lS19 := S19.lt; have Y19 := (Y18.row o19 S18 plain_st (by decide)).as (s' := { S1 with m := { S1.m with t := TA, k := m.k + K } }) rfl rfl rfl rfl; have kf19 := (sw S19).fl)
            | (refine ld_s' rfl rfl rfl S19 ?_)
            | (refine st_s rfl rfl rfl rfl z19 (one_own Y19.ow.hx) (one_own Y19.ow.hy) (Y19.o.one okM) (Y19.e.one okE) ?_; rintro wa za oa -; have Ka := bb_onto K19 oa (by omega) L19; have Ya := Y19.row oa z19 plain_st (by decide)))
          refine ret_s2 rfl rfl za rfl rfl ?_
          rw [HX.out]
          exact ⟨Ka, .inl ⟨rfl, vo1, ve1, by rw [← HQ.out]; rfl, by rw [← HQ.out]; exact Ya⟩⟩
      · have hX : r = (St.nul, false) := by rw [HX.out]; unfold Mc.step'; rw [hfin, if_neg hf]
        have HX : Hid (r = (St.nul, false)) := hX
        clear hX hfin
        go_enter Tryz.func56, Tryz.ntmps56
        go_wp2_with (first
          | (refine box_m rfl rfl hv ?_; intro w0 r0 hb0; have lr0 := r0.lt; have O0 := h.below hb0; have K0 : Tame base w w0 := bb_below (Tame.refl base w) hle hb0; have L0 : base ≤ w0.heap.size := O0.le)
          | (refine al_st rfl rfl ?_; intro w1 z1 hb1; have r1 := r0.below hb1; have O1 := O0.below hb1; have K1 := bb_below K0 L0 hb1; have L1 := O1.le; have lz1 := z1.lt; have ck : w1.cell? ⟨w.heap.size, 24, none⟩ = some (.int .i64 m.k) := (cw r1).k)
          | (refine ld_mc rfl rfl rfl r1 ?_)
          | (go_at_call 126; refine (l8Call_spec rfl O1 hok).mono ?_; rw [HC.out]; rintro e w2 ⟨rfl, O2x, bt2⟩; have O2 : Ow base w2 x y M1 := O2x; clear O2x; have n2 := bt2 gy hgy; clear ck; have z2 := z1.onto n2 (by omega); have K2 := bb_ram K1 h.hy hgy n2; have sz2 := n2.size; have L2 : base ≤ w2.heap.size := Nat.le_trans L1 sz2; have lz2 := z2.lt)
          | (refine al_mc rfl rfl ?_; intro w3 q3 hb3; have z3 := z2.below hb3; have O3 := O2.below hb3; have K3 := bb_below K2 L2 hb3; have sz3 := hb3.size; have L3 : base ≤ w3.heap.size := Nat.le_trans L2 sz3; have lz3 := z3.lt; have lq3 := q3.lt)
          | (refine st_mc rfl rfl rfl rfl q3 (one_own O3.hx) (one_own O3.hy) ?_; rintro w4 q4 o4 -; have z4 := z3.onto o4 (by omega); have O4 := O3.at o4 (own_not_row O3.hx q3 (by decide)) (own_not_row O3.hy q3 (by decide)); have K4 := bb_onto K3 o4 (by omega) L3; have sz4 := o4.size; have L4 : base ≤ w4.heap.size := Nat.le_trans L3 sz4; have lz4 := z4.lt; have lq4 := q4.lt)
          | (refine ld_mc rfl rfl rfl q4 ?_)
          | (refine bd_s1 rfl rfl rfl ?_)
          | (refine al_st rfl rfl ?_; intro w5 S5 hb5; have z5 := z4.below hb5; have O5 := O4.below hb5; have q5 := q4.below hb5; have K5 := bb_below K4 L4 hb5; have sz5 := hb5.size; have L5 : base ≤ w5.heap.size := Nat.le_trans L4 sz5; have lz5 := z5.lt; have lq5 := q5.lt; have lS5 := S5.lt)
          | (refine st_s rfl rfl rfl rfl S5 (one_own O5.hx) (one_own O5.hy) rfl rfl ?_; rintro w6 S6 o6 -; have z6 := z5.onto o6 (by omega); have O6 := O5.at o6 (own_not_row O5.hx S5 (by decide)) (own_not_row O5.hy S5 (by decide)); have q6 := q5.onto o6 (by omega); have K6 := bb_onto K5 o6 (by omega) L5; have sz6 := o6.size; have L6 : base ≤ w6.heap.size := Nat.le_trans L5 sz6; have lz6 := z6.lt; have lq6 := q6.lt; have lS6 := S6.lt; have ke6 := (sw S6).e)
          | (refine ld_mc rfl rfl rfl q6 ?_)
          | (go_at_call 127; refine (l7Run_spec rfl O6 hok1).mono ?_; rw [HR.out]; rintro e w7 ⟨rfl, O7x, bt7⟩; have O7 : Ow base w7 x y M2 := O7x; clear O7x; have n7 := bt7 gy hgy; clear ke6; have z7 := z6.onto n7 (by omega); have q7 := q6.onto n7 (by omega); have S7 := S6.onto n7 (by omega); have K7 := bb_ram K6 h.hy hgy n7; have sz7 := n7.size; have L7 : base ≤ w7.heap.size := Nat.le_trans L6 sz7; have lz7 := z7.lt; have lq7 := q7.lt; have lS7 := S7.lt)
          | (refine al_mc rfl rfl ?_; intro w8 p8 hb8; have z8 := z7.below hb8; have O8 := O7.below hb8; have q8 := q7.below hb8; have S8 := S7.below hb8; have K8 := bb_below K7 L7 hb8; have sz8 := hb8.size; have L8 : base ≤ w8.heap.size := Nat.le_trans L7 sz8; have lz8 := z8.lt; have lq8 := q8.lt; have lS8 := S8.lt; have lp8 := p8.lt)
          | (refine st_mc rfl rfl rfl rfl p8 (one_own O8.hx) (one_own O8.hy) ?_; rintro w9 p9 o9 -; have z9 := z8.onto o9 (by omega); have O9 := O8.at o9 (own_not_row O8.hx p8 (by decide)) (own_not_row O8.hy p8 (by decide)); have q9 := q8.onto o9 (by omega); have S9 := S8.onto o9 (by omega); have K9 := bb_onto K8 o9 (by omega) L8; have sz9 := o9.size; have L9 : base ≤ w9.heap.size := Nat.le_trans L8 sz9; have lz9 := z9.lt; have lq9 := q9.lt; have lS9 := S9.lt; have lp9 := p9.lt)
          | (refine ld_mc rfl rfl rfl p9 ?_)
          | (refine st_sm rfl rfl rfl rfl S9 (one_own O9.hx) (one_own O9.hy) ?_; rintro w10 S10 o10 -; have z10 := z9.onto o10 (by omega); have O10 := O9.at o10 (own_not_row O9.hx S9 (by decide)) (own_not_row O9.hy S9 (by decide)); have q10 := q9.onto o10 (by omega); have p10 := p9.onto o10 (by omega); have K10 := bb_onto K9 o10 (by omega) L9; have sz10 := o10.size; have L10 : base ≤ w10.heap.size := Nat.le_trans L9 sz10; have lz10 := z10.lt; have lq10 := q10.lt; have lS10 := S10.lt; have lp10 := p10.lt; have ke10 := (sw S10).e; have hal : Below w10.heap.size w10 (w10.alloc (.cells #[.int .i64 (m.k + K), .int .i64 1, .int .i64 U] 142)) := (Below.refl _ _).alloc (Nat.le_refl _) _; have hlit := own_litF fE okE w10.heap.size w10 #[.int .i64 (m.k + K), .int .i64 1, .int .i64 U] [⟨m.k + K, 1, U⟩] rfl (by unfold maxLen; simp) (Nat.le_refl _); have zl := z10.below hal; have Sl' := S10.below hal; have Ol := O10.below hal; have Kl := bb_below K10 L10 hal; have Ll := Ol.le)
          | (at_builtin; refine appF okE rfl (.tmp 40) (.tmp 46) rfl base [] [⟨m.k + K, 1, U⟩] (OwnF.nil _ _ _) (hlit.sl okE) (by simp) (by omega) ?_; intro v11 w11 E11 hg11; have t11 := Mild.grown (base := base) not_plainE (OwnF.nil fE base _) hg11; have z11 := t11.row zl plain_st; have S11 := t11.row Sl' plain_st; have O11 := t11.ow Ol; have K11 := bb_mild Kl Ll t11; have sz11 := t11.size; have L11 := O11.le; have lz11 := z11.lt; have lS11 := S11.lt)
          | (refine st_se (l := [⟨m.k + K, 1, U⟩]) rfl rfl rfl rfl S11 (E11.one okE) ?_; rintro w12 S12 o12 -; have z12 := z11.onto o12 (by omega); have O12 := O11.at o12 (own_not_row O11.hx S11 (by decide)) (own_not_row O11.hy S11 (by decide)); have E12 := E11.onto o12 (E11.not_row S11 (by decide)); have K12 := bb_onto K11 o12 (by omega) L11; have sz12 := o12.size; have L12 : base ≤ w12.heap.size := Nat.le_trans L11 sz12; have lz12 := z12.lt; have lS12 := S12.lt)
          | (refine bd_s0 rfl rfl ?_)
          | (refine st_s rfl rfl rfl rfl z12 rfl rfl rfl rfl ?_; rintro wa za oa -; have Ka := bb_onto K12 oa (by omega) L12))
        refine ret_s2 rfl rfl za rfl rfl ?_
        rw [HX.out]
        exact ⟨Ka, .inr ⟨rfl, rfl⟩⟩
    · have HTU : Hid (m.turn = (M2, K, [])) := show _ = _ by
        unfold Mc.turn
        rw [HC.out, HR.out]
        simp [hc, hu]
      have hfin : m.fin = m.k + K := by unfold Mc.fin; rw [HTU.out]
      by_cases hf : m.k + K ≤ 999999900
      · have hX : r = (m.stepped l, true) := by rw [HX.out]; unfold Mc.step'; rw [hfin, if_pos hf]
        obtain ⟨S1, hS1⟩ : ∃ S1, ((⟨M2, [], [], 0⟩ : St)).evs l (m.k + K) = S1 := ⟨_, rfl⟩
        obtain ⟨TA, RD, hTA⟩ : ∃ TA RD, S1.m.t.after K = (TA, RD) := ⟨_, _, rfl⟩
        have hQ : m.stepped l = { S1 with m := { S1.m with t := TA, k := m.k + K, fl := if 0 < RD then bits .or .i64 S1.m.fl 1 else S1.m.fl } } := by
          unfold Mc.stepped St.first St.closed
          rw [hfin, HTU.out]
          show (_ : St) = _
          rw [hS1, hTA]
        have HX : Hid (r = (m.stepped l, true)) := hX
        have HS1 : Hid (((⟨M2, [], [], 0⟩ : St)).evs l (m.k + K) = S1) := hS1
        have HT : Hid (S1.m.t.after K = (TA, RD)) := hTA
        clear hX hS1 hTA hfin
        by_cases hrd : 0 < RD
        · have HQ : Hid ({ S1 with m := { S1.m with t := TA, k := m.k + K, fl := bits .or .i64 S1.m.fl 1 } } = m.stepped l) := show _ = _ by rw [hQ, if_pos hrd]
          clear hQ
          go_enter Tryz.func56, Tryz.ntmps56
          go_wp2_with (first
            | (refine box_m rfl rfl hv ?_; intro w0 r0 hb0; have lr0 := r0.lt; have O0 := h.below hb0; have K0 : Tame base w w0 := bb_below (Tame.refl base w) hle hb0; have L0 : base ≤ w0.heap.size := O0.le)
            | (refine al_st rfl rfl ?_; intro w1 z1 hb1; have r1 := r0.below hb1; have O1 := O0.below hb1; have K1 := bb_below K0 L0 hb1; have L1 := O1.le; have lz1 := z1.lt; have ck : w1.cell? ⟨w.heap.size, 24, none⟩ = some (.int .i64 m.k) := (cw r1).k)
            | (refine ld_mc rfl rfl rfl r1 ?_)
            | (go_at_call 126; refine (l8Call_spec rfl O1 hok).mono ?_; rw [HC.out]; rintro e w2 ⟨rfl, O2x, bt2⟩; have O2 : Ow base w2 x y M1 := O2x; clear O2x; have n2 := bt2 gy hgy; clear ck; have z2 := z1.onto n2 (by omega); have K2 := bb_ram K1 h.hy hgy n2; have sz2 := n2.size; have L2 : base ≤ w2.heap.size := Nat.le_trans L1 sz2; have lz2 := z2.lt)
            | (refine al_mc rfl rfl ?_; intro w3 q3 hb3; have z3 := z2.below hb3; have O3 := O2.below hb3; have K3 := bb_below K2 L2 hb3; have sz3 := hb3.size; have L3 : base ≤ w3.heap.size := Nat.le_trans L2 sz3; have lz3 := z3.lt; have lq3 := q3.lt)
            | (refine st_mc rfl rfl rfl rfl q3 (one_own O3.hx) (one_own O3.hy) ?_; rintro w4 q4 o4 -; have z4 := z3.onto o4 (by omega); have O4 := O3.at o4 (own_not_row O3.hx q3 (by decide)) (own_not_row O3.hy q3 (by decide)); have K4 := bb_onto K3 o4 (by omega) L3; have sz4 := o4.size; have L4 : base ≤ w4.heap.size := Nat.le_trans L3 sz4; have lz4 := z4.lt; have lq4 := q4.lt)
            | (refine ld_mc rfl rfl rfl q4 ?_)
            | (refine bd_s1 rfl rfl rfl ?_)
            | (refine al_st rfl rfl ?_; intro w5 S5 hb5; have z5 := z4.below hb5; have O5 := O4.below hb5; have q5 := q4.below hb5; have K5 := bb_below K4 L4 hb5; have sz5 := hb5.size; have L5 : base ≤ w5.heap.size := Nat.le_trans L4 sz5; have lz5 := z5.lt; have lq5 := q5.lt; have lS5 := S5.lt)
            | (refine st_s rfl rfl rfl rfl S5 (one_own O5.hx) (one_own O5.hy) rfl rfl ?_; rintro w6 S6 o6 -; have z6 := z5.onto o6 (by omega); have O6 := O5.at o6 (own_not_row O5.hx S5 (by decide)) (own_not_row O5.hy S5 (by decide)); have q6 := q5.onto o6 (by omega); have K6 := bb_onto K5 o6 (by omega) L5; have sz6 := o6.size; have L6 : base ≤ w6.heap.size := Nat.le_trans L5 sz6; have lz6 := z6.lt; have lq6 := q6.lt; have lS6 := S6.lt; have ke6 := (sw S6).e)
            | (refine ld_mc rfl rfl rfl q6 ?_)
            | (go_at_call 127; refine (l7Run_spec rfl O6 hok1).mono ?_; rw [HR.out]; rintro e w7 ⟨rfl, O7x, bt7⟩; have O7 : Ow base w7 x y M2 := O7x; clear O7x; have n7 := bt7 gy hgy; clear ke6; have z7 := z6.onto n7 (by omega); have q7 := q6.onto n7 (by omega); have S7 := S6.onto n7 (by omega); have K7 := bb_ram K6 h.hy hgy n7; have sz7 := n7.size; have L7 : base ≤ w7.heap.size := Nat.le_trans L6 sz7; have lz7 := z7.lt; have lq7 := q7.lt; have lS7 := S7.lt)
            | (refine al_mc rfl rfl ?_; intro w8 p8 hb8; have z8 := z7.below hb8; have O8 := O7.below hb8; have q8 := q7.below hb8; have S8 := S7.below hb8; have K8 := bb_below K7 L7 hb8; have sz8 := hb8.size; have L8 : base ≤ w8.heap.size := Nat.le_trans L7 sz8; have lz8 := z8.lt; have lq8 := q8.lt; have lS8 := S8.lt; have lp8 := p8.lt)
            | (refine st_mc rfl rfl rfl rfl p8 (one_own O8.hx) (one_own O8.hy) ?_; rintro w9 p9 o9 -; have z9 := z8.onto o9 (by omega); have O9 := O8.at o9 (own_not_row O8.hx p8 (by decide)) (own_not_row O8.hy p8 (by decide)); have q9 := q8.onto o9 (by omega); have S9 := S8.onto o9 (by omega); have K9 := bb_onto K8 o9 (by omega) L8; have sz9 := o9.size; have L9 : base ≤ w9.heap.size := Nat.le_trans L8 sz9; have lz9 := z9.lt; have lq9 := q9.lt; have lS9 := S9.lt; have lp9 := p9.lt)
            | (refine ld_mc rfl rfl rfl p9 ?_)
            | (refine st_sm rfl rfl rfl rfl S9 (one_own O9.hx) (one_own O9.hy) ?_; rintro w10 S10 o10 -; have z10 := z9.onto o10 (by omega); have O10 := O9.at o10 (own_not_row O9.hx S9 (by decide)) (own_not_row O9.hy S9 (by decide)); have q10 := q9.onto o10 (by omega); have p10 := p9.onto o10 (by omega); have K10 := bb_onto K9 o10 (by omega) L9; have sz10 := o10.size; have L10 : base ≤ w10.heap.size := Nat.le_trans L9 sz10; have lz10 := z10.lt; have lq10 := q10.lt; have lS10 := S10.lt; have lp10 := p10.lt; have ke10 := (sw S10).e; have Y10 : So base w10 x y nil64 nil64 (⟨M2, [], [], 0⟩) := ⟨O10, OwnF.nil _ _ _, OwnF.nil _ _ _⟩; have hs10 := slF_bb hs hvi K10)
            | (refine ld_s' rfl rfl rfl S10 ?_)
            | (go_at_call 128; refine (l9Events_spec _ _ x y nil64 nil64 (⟨M2, [], [], 0⟩) l _ _ base rfl Y10 hs10 hvi hlen hT rfl (by simp) (by simp)).mono ?_; rw [HS1.out]; rintro e w11 ⟨vo1, ve1, rfl, Y11, t11⟩; have z11 := t11.row z10 plain_st; have S11 := t11.row S10 plain_st; have K11 := bb_mild K10 L10 t11; have sz11 := t11.size; have L11 := Y11.ow.le; have lz11 := z11.lt; have lS11 := S11.lt)
            | (refine st_s rfl rfl rfl rfl S11 (one_own Y11.ow.hx) (one_own Y11.ow.hy) (Y11.o.one okM) (Y11.e.one okE) ?_; rintro w12 S12 o12 -; have z12 := z11.onto o12 (by omega); have Y12 := Y11.row o12 S11 plain_st (by decide); have K12 := bb_onto K11 o12 (by omega) L11; have sz12 := o12.size; have L12 : base ≤ w12.heap.size := Nat.le_trans L11 sz12; have lz12 := z12.lt; have lS12 := S12.lt)
            | (refine ld_st rfl rfl rfl S12 ?_)
            | (go_at_call 129; refine (timerAfter_spec S1.m.t K _).mono ?_; rw [HT.out]; rintro e w13 ⟨rfl, hb13⟩; have z13 := z12.below hb13; have S13 := S12.below hb13; have Y13 := Y12.below hb13; have K13 := bb_below K12 L12 hb13; have sz13 := hb13.size; have L13 : base ≤ w13.heap.size := Nat.le_trans L12 sz13; have lz13 := z13.lt; have lS13 := S13.lt)
            | (refine al_t rfl rfl ?_; intro w14 t14 hb14; have z14 := z13.below hb14; have S14 := S13.below hb14; have Y14 := Y13.below hb14; have K14 := bb_below K13 L13 hb14; have sz14 := hb14.size; have L14 : base ≤ w14.heap.size := Nat.le_trans L13 sz14; have lz14 := z14.lt; have lS14 := S14.lt; have lt14 := t14.lt)
            | (refine st_tt rfl rfl rfl rfl t14 ?_; rintro w15 t15 o15; have z15 := z14.onto o15 (by omega); have S15 := S14.onto o15 (by omega); have Y15 := Y14.row o15 t14 plain_t (by decide); have K15 := bb_onto K14 o15 (by omega) L14; have sz15 := o15.size; have L15 : base ≤ w15.heap.size := Nat.le_trans L14 sz15; have lz15 := z15.lt; have lS15 := S15.lt; have lt15 := t15.lt)
            | (refine ld_tt rfl rfl rfl t15 ?_)
            | (refine st_st rfl rfl rfl rfl S15 ?_; rintro w16 S16 o16 -; have z16 := z15.onto o16 (by omega); have K16 := bb_onto K15 o16 (by omega) L15; have sz16 := o16.size; have L16 : base ≤ w16.heap.size := Nat.le_trans L15 sz16; have lz16 := z16.lt; have lS16 := S16.lt; have Y16 := (Y15.row o16 S15 plain_st (by decide)).as (s' := { S1 with m := { S1.m with t := TA } }) rfl rfl rfl rfl)
            | (refine st_sn (s' := { S1 with m := { S1.m with t := TA, k := m.k + K } }) rfl rfl rfl rfl S16 rfl rfl ?_; rintro w17 S17 o17 -; have z17 := z16.onto o17 (by omega); have K17 := bb_onto K16 o17 (by omega) L16; have sz17 := o17.size; have L17 : base ≤ w17.heap.size := Nat.le_trans L16 sz17; have lz17 := z17.lt; have lS17 := S17.lt; have Y17 := (Y16.row o17 S16 plain_st (by decide)).as (s' := { S1 with m := { S1.m with t := TA, k := m.k + K } }) rfl rfl rfl rfl; have kf17 := (sw S17).fl)
            | (refine st_sn (s' := { S1 with m := { S1.m with t := TA, k := m.k + K, fl := bits .or .i64 S1.m.fl 1 } }) rfl rfl rfl rfl S17 rfl rfl ?_; rintro w18 S18 o18 -; have z18 := z17.onto o18 (by omega); have K18 := bb_onto K17 o18 (by omega) L17; have sz18 := o18.size; have L18 : base ≤ w18.heap.size := Nat.le_trans L17 sz18; have lz18 := z18.lt; have lS18 := S18.lt; have Y18 := (Y17.row o18 S17 plain_st (by decide)).as (s' := { S1 with m := { S1.m with t := TA, k := m.k + K, fl := bits .or .i64 S1.m.fl 1 } }) rfl rfl rfl rfl)
            | (refine ld_s' rfl rfl rfl S18 ?_)
            | (refine st_s rfl rfl rfl rfl z18 (one_own Y18.ow.hx) (one_own Y18.ow.hy) (Y18.o.one okM) (Y18.e.one okE) ?_; rintro wa za oa -; have Ka := bb_onto K18 oa (by omega) L18; have Ya := Y18.row oa z18 plain_st (by decide)))
          refine ret_s2 rfl rfl za rfl rfl ?_
          rw [HX.out]
          exact ⟨Ka, .inl ⟨rfl, vo1, ve1, by rw [← HQ.out]; rfl, by rw [← HQ.out]; exact Ya⟩⟩
        · have HQ : Hid ({ S1 with m := { S1.m with t := TA, k := m.k + K } } = m.stepped l) := show _ = _ by rw [hQ, if_neg hrd]
          clear hQ
          go_enter Tryz.func56, Tryz.ntmps56
          go_wp2_with (first
            | (refine box_m rfl rfl hv ?_; intro w0 r0 hb0; have lr0 := r0.lt; have O0 := h.below hb0; have K0 : Tame base w w0 := bb_below (Tame.refl base w) hle hb0; have L0 : base ≤ w0.heap.size := O0.le)
            | (refine al_st rfl rfl ?_; intro w1 z1 hb1; have r1 := r0.below hb1; have O1 := O0.below hb1; have K1 := bb_below K0 L0 hb1; have L1 := O1.le; have lz1 := z1.lt; have ck : w1.cell? ⟨w.heap.size, 24, none⟩ = some (.int .i64 m.k) := (cw r1).k)
            | (refine ld_mc rfl rfl rfl r1 ?_)
            | (go_at_call 126; refine (l8Call_spec rfl O1 hok).mono ?_; rw [HC.out]; rintro e w2 ⟨rfl, O2x, bt2⟩; have O2 : Ow base w2 x y M1 := O2x; clear O2x; have n2 := bt2 gy hgy; clear ck; have z2 := z1.onto n2 (by omega); have K2 := bb_ram K1 h.hy hgy n2; have sz2 := n2.size; have L2 : base ≤ w2.heap.size := Nat.le_trans L1 sz2; have lz2 := z2.lt)
            | (refine al_mc rfl rfl ?_; intro w3 q3 hb3; have z3 := z2.below hb3; have O3 := O2.below hb3; have K3 := bb_below K2 L2 hb3; have sz3 := hb3.size; have L3 : base ≤ w3.heap.size := Nat.le_trans L2 sz3; have lz3 := z3.lt; have lq3 := q3.lt)
            | (refine st_mc rfl rfl rfl rfl q3 (one_own O3.hx) (one_own O3.hy) ?_; rintro w4 q4 o4 -; have z4 := z3.onto o4 (by omega); have O4 := O3.at o4 (own_not_row O3.hx q3 (by decide)) (own_not_row O3.hy q3 (by decide)); have K4 := bb_onto K3 o4 (by omega) L3; have sz4 := o4.size; have L4 : base ≤ w4.heap.size := Nat.le_trans L3 sz4; have lz4 := z4.lt; have lq4 := q4.lt)
            | (refine ld_mc rfl rfl rfl q4 ?_)
            | (refine bd_s1 rfl rfl rfl ?_)
            | (refine al_st rfl rfl ?_; intro w5 S5 hb5; have z5 := z4.below hb5; have O5 := O4.below hb5; have q5 := q4.below hb5; have K5 := bb_below K4 L4 hb5; have sz5 := hb5.size; have L5 : base ≤ w5.heap.size := Nat.le_trans L4 sz5; have lz5 := z5.lt; have lq5 := q5.lt; have lS5 := S5.lt)
            | (refine st_s rfl rfl rfl rfl S5 (one_own O5.hx) (one_own O5.hy) rfl rfl ?_; rintro w6 S6 o6 -; have z6 := z5.onto o6 (by omega); have O6 := O5.at o6 (own_not_row O5.hx S5 (by decide)) (own_not_row O5.hy S5 (by decide)); have q6 := q5.onto o6 (by omega); have K6 := bb_onto K5 o6 (by omega) L5; have sz6 := o6.size; have L6 : base ≤ w6.heap.size := Nat.le_trans L5 sz6; have lz6 := z6.lt; have lq6 := q6.lt; have lS6 := S6.lt; have ke6 := (sw S6).e)
            | (refine ld_mc rfl rfl rfl q6 ?_)
            | (go_at_call 127; refine (l7Run_spec rfl O6 hok1).mono ?_; rw [HR.out]; rintro e w7 ⟨rfl, O7x, bt7⟩; have O7 : Ow base w7 x y M2 := O7x; clear O7x; have n7 := bt7 gy hgy; clear ke6; have z7 := z6.onto n7 (by omega); have q7 := q6.onto n7 (by omega); have S7 := S6.onto n7 (by omega); have K7 := bb_ram K6 h.hy hgy n7; have sz7 := n7.size; have L7 : base ≤ w7.heap.size := Nat.le_trans L6 sz7; have lz7 := z7.lt; have lq7 := q7.lt; have lS7 := S7.lt)
            | (refine al_mc rfl rfl ?_; intro w8 p8 hb8; have z8 := z7.below hb8; have O8 := O7.below hb8; have q8 := q7.below hb8; have S8 := S7.below hb8; have K8 := bb_below K7 L7 hb8; have sz8 := hb8.size; have L8 : base ≤ w8.heap.size := Nat.le_trans L7 sz8; have lz8 := z8.lt; have lq8 := q8.lt; have lS8 := S8.lt; have lp8 := p8.lt)
            | (refine st_mc rfl rfl rfl rfl p8 (one_own O8.hx) (one_own O8.hy) ?_; rintro w9 p9 o9 -; have z9 := z8.onto o9 (by omega); have O9 := O8.at o9 (own_not_row O8.hx p8 (by decide)) (own_not_row O8.hy p8 (by decide)); have q9 := q8.onto o9 (by omega); have S9 := S8.onto o9 (by omega); have K9 := bb_onto K8 o9 (by omega) L8; have sz9 := o9.size; have L9 : base ≤ w9.heap.size := Nat.le_trans L8 sz9; have lz9 := z9.lt; have lq9 := q9.lt; have lS9 := S9.lt; have lp9 := p9.lt)
            | (refine ld_mc rfl rfl rfl p9 ?_)
            | (refine st_sm rfl rfl rfl rfl S9 (one_own O9.hx) (one_own O9.hy) ?_; rintro w10 S10 o10 -; have z10 := z9.onto o10 (by omega); have O10 := O9.at o10 (own_not_row O9.hx S9 (by decide)) (own_not_row O9.hy S9 (by decide)); have q10 := q9.onto o10 (by omega); have p10 := p9.onto o10 (by omega); have K10 := bb_onto K9 o10 (by omega) L9; have sz10 := o10.size; have L10 : base ≤ w10.heap.size := Nat.le_trans L9 sz10; have lz10 := z10.lt; have lq10 := q10.lt; have lS10 := S10.lt; have lp10 := p10.lt; have ke10 := (sw S10).e; have Y10 : So base w10 x y nil64 nil64 (⟨M2, [], [], 0⟩) := ⟨O10, OwnF.nil _ _ _, OwnF.nil _ _ _⟩; have hs10 := slF_bb hs hvi K10)
            | (refine ld_s' rfl rfl rfl S10 ?_)
            | (go_at_call 128; refine (l9Events_spec _ _ x y nil64 nil64 (⟨M2, [], [], 0⟩) l _ _ base rfl Y10 hs10 hvi hlen hT rfl (by simp) (by simp)).mono ?_; rw [HS1.out]; rintro e w11 ⟨vo1, ve1, rfl, Y11, t11⟩; have z11 := t11.row z10 plain_st; have S11 := t11.row S10 plain_st; have K11 := bb_mild K10 L10 t11; have sz11 := t11.size; have L11 := Y11.ow.le; have lz11 := z11.lt; have lS11 := S11.lt)
            | (refine st_s rfl rfl rfl rfl S11 (one_own Y11.ow.hx) (one_own Y11.ow.hy) (Y11.o.one okM) (Y11.e.one okE) ?_; rintro w12 S12 o12 -; have z12 := z11.onto o12 (by omega); have Y12 := Y11.row o12 S11 plain_st (by decide); have K12 := bb_onto K11 o12 (by omega) L11; have sz12 := o12.size; have L12 : base ≤ w12.heap.size := Nat.le_trans L11 sz12; have lz12 := z12.lt; have lS12 := S12.lt)
            | (refine ld_st rfl rfl rfl S12 ?_)
            | (go_at_call 129; refine (timerAfter_spec S1.m.t K _).mono ?_; rw [HT.out]; rintro e w13 ⟨rfl, hb13⟩; have z13 := z12.below hb13; have S13 := S12.below hb13; have Y13 := Y12.below hb13; have K13 := bb_below K12 L12 hb13; have sz13 := hb13.size; have L13 : base ≤ w13.heap.size := Nat.le_trans L12 sz13; have lz13 := z13.lt; have lS13 := S13.lt)
            | (refine al_t rfl rfl ?_; intro w14 t14 hb14; have z14 := z13.below hb14; have S14 := S13.below hb14; have Y14 := Y13.below hb14; have K14 := bb_below K13 L13 hb14; have sz14 := hb14.size; have L14 : base ≤ w14.heap.size := Nat.le_trans L13 sz14; have lz14 := z14.lt; have lS14 := S14.lt; have lt14 := t14.lt)
            | (refine st_tt rfl rfl rfl rfl t14 ?_; rintro w15 t15 o15; have z15 := z14.onto o15 (by omega); have S15 := S14.onto o15 (by omega); have Y15 := Y14.row o15 t14 plain_t (by decide); have K15 := bb_onto K14 o15 (by omega) L14; have sz15 := o15.size; have L15 : base ≤ w15.heap.size := Nat.le_trans L14 sz15; have lz15 := z15.lt; have lS15 := S15.lt; have lt15 := t15.lt)
            | (refine ld_tt rfl rfl rfl t15 ?_)
            | (refine st_st rfl rfl rfl rfl S15 ?_; rintro w16 S16 o16 -; have z16 := z15.onto o16 (by omega); have K16 := bb_onto K15 o16 (by omega) L15; have sz16 := o16.size; have L16 : base ≤ w16.heap.size := Nat.le_trans L15 sz16; have lz16 := z16.lt; have lS16 := S16.lt; have Y16 := (Y15.row o16 S15 plain_st (by decide)).as (s' := { S1 with m := { S1.m with t := TA } }) rfl rfl rfl rfl)
            | (refine st_sn (s' := { S1 with m := { S1.m with t := TA, k := m.k + K } }) rfl rfl rfl rfl S16 rfl rfl ?_; rintro w17 S17 o17 -; have z17 := z16.onto o17 (by omega); have K17 := bb_onto K16 o17 (by omega) L16; have sz17 := o17.size; have L17 : base ≤ w17.heap.size := Nat.le_trans L16 sz17; have lz17 := z17.lt; have lS17 := S17.lt; have Y17 := (Y16.row o17 S16 plain_st (by decide)).as (s' := { S1 with m := { S1.m with t := TA, k := m.k + K } }) rfl rfl rfl rfl; have kf17 := (sw S17).fl)
            | (refine ld_s' rfl rfl rfl S17 ?_)
            | (refine st_s rfl rfl rfl rfl z17 (one_own Y17.ow.hx) (one_own Y17.ow.hy) (Y17.o.one okM) (Y17.e.one okE) ?_; rintro wa za oa -; have Ka := bb_onto K17 oa (by omega) L17; have Ya := Y17.row oa z17 plain_st (by decide)))
          refine ret_s2 rfl rfl za rfl rfl ?_
          rw [HX.out]
          exact ⟨Ka, .inl ⟨rfl, vo1, ve1, by rw [← HQ.out]; rfl, by rw [← HQ.out]; exact Ya⟩⟩
      · have hX : r = (St.nul, false) := by rw [HX.out]; unfold Mc.step'; rw [hfin, if_neg hf]
        have HX : Hid (r = (St.nul, false)) := hX
        clear hX hfin
        go_enter Tryz.func56, Tryz.ntmps56
        go_wp2_with (first
          | (refine box_m rfl rfl hv ?_; intro w0 r0 hb0; have lr0 := r0.lt; have O0 := h.below hb0; have K0 : Tame base w w0 := bb_below (Tame.refl base w) hle hb0; have L0 : base ≤ w0.heap.size := O0.le)
          | (refine al_st rfl rfl ?_; intro w1 z1 hb1; have r1 := r0.below hb1; have O1 := O0.below hb1; have K1 := bb_below K0 L0 hb1; have L1 := O1.le; have lz1 := z1.lt; have ck : w1.cell? ⟨w.heap.size, 24, none⟩ = some (.int .i64 m.k) := (cw r1).k)
          | (refine ld_mc rfl rfl rfl r1 ?_)
          | (go_at_call 126; refine (l8Call_spec rfl O1 hok).mono ?_; rw [HC.out]; rintro e w2 ⟨rfl, O2x, bt2⟩; have O2 : Ow base w2 x y M1 := O2x; clear O2x; have n2 := bt2 gy hgy; clear ck; have z2 := z1.onto n2 (by omega); have K2 := bb_ram K1 h.hy hgy n2; have sz2 := n2.size; have L2 : base ≤ w2.heap.size := Nat.le_trans L1 sz2; have lz2 := z2.lt)
          | (refine al_mc rfl rfl ?_; intro w3 q3 hb3; have z3 := z2.below hb3; have O3 := O2.below hb3; have K3 := bb_below K2 L2 hb3; have sz3 := hb3.size; have L3 : base ≤ w3.heap.size := Nat.le_trans L2 sz3; have lz3 := z3.lt; have lq3 := q3.lt)
          | (refine st_mc rfl rfl rfl rfl q3 (one_own O3.hx) (one_own O3.hy) ?_; rintro w4 q4 o4 -; have z4 := z3.onto o4 (by omega); have O4 := O3.at o4 (own_not_row O3.hx q3 (by decide)) (own_not_row O3.hy q3 (by decide)); have K4 := bb_onto K3 o4 (by omega) L3; have sz4 := o4.size; have L4 : base ≤ w4.heap.size := Nat.le_trans L3 sz4; have lz4 := z4.lt; have lq4 := q4.lt)
          | (refine ld_mc rfl rfl rfl q4 ?_)
          | (refine bd_s1 rfl rfl rfl ?_)
          | (refine al_st rfl rfl ?_; intro w5 S5 hb5; have z5 := z4.below hb5; have O5 := O4.below hb5; have q5 := q4.below hb5; have K5 := bb_below K4 L4 hb5; have sz5 := hb5.size; have L5 : base ≤ w5.heap.size := Nat.le_trans L4 sz5; have lz5 := z5.lt; have lq5 := q5.lt; have lS5 := S5.lt)
          | (refine st_s rfl rfl rfl rfl S5 (one_own O5.hx) (one_own O5.hy) rfl rfl ?_; rintro w6 S6 o6 -; have z6 := z5.onto o6 (by omega); have O6 := O5.at o6 (own_not_row O5.hx S5 (by decide)) (own_not_row O5.hy S5 (by decide)); have q6 := q5.onto o6 (by omega); have K6 := bb_onto K5 o6 (by omega) L5; have sz6 := o6.size; have L6 : base ≤ w6.heap.size := Nat.le_trans L5 sz6; have lz6 := z6.lt; have lq6 := q6.lt; have lS6 := S6.lt; have ke6 := (sw S6).e)
          | (refine ld_mc rfl rfl rfl q6 ?_)
          | (go_at_call 127; refine (l7Run_spec rfl O6 hok1).mono ?_; rw [HR.out]; rintro e w7 ⟨rfl, O7x, bt7⟩; have O7 : Ow base w7 x y M2 := O7x; clear O7x; have n7 := bt7 gy hgy; clear ke6; have z7 := z6.onto n7 (by omega); have q7 := q6.onto n7 (by omega); have S7 := S6.onto n7 (by omega); have K7 := bb_ram K6 h.hy hgy n7; have sz7 := n7.size; have L7 : base ≤ w7.heap.size := Nat.le_trans L6 sz7; have lz7 := z7.lt; have lq7 := q7.lt; have lS7 := S7.lt)
          | (refine al_mc rfl rfl ?_; intro w8 p8 hb8; have z8 := z7.below hb8; have O8 := O7.below hb8; have q8 := q7.below hb8; have S8 := S7.below hb8; have K8 := bb_below K7 L7 hb8; have sz8 := hb8.size; have L8 : base ≤ w8.heap.size := Nat.le_trans L7 sz8; have lz8 := z8.lt; have lq8 := q8.lt; have lS8 := S8.lt; have lp8 := p8.lt)
          | (refine st_mc rfl rfl rfl rfl p8 (one_own O8.hx) (one_own O8.hy) ?_; rintro w9 p9 o9 -; have z9 := z8.onto o9 (by omega); have O9 := O8.at o9 (own_not_row O8.hx p8 (by decide)) (own_not_row O8.hy p8 (by decide)); have q9 := q8.onto o9 (by omega); have S9 := S8.onto o9 (by omega); have K9 := bb_onto K8 o9 (by omega) L8; have sz9 := o9.size; have L9 : base ≤ w9.heap.size := Nat.le_trans L8 sz9; have lz9 := z9.lt; have lq9 := q9.lt; have lS9 := S9.lt; have lp9 := p9.lt)
          | (refine ld_mc rfl rfl rfl p9 ?_)
          | (refine st_sm rfl rfl rfl rfl S9 (one_own O9.hx) (one_own O9.hy) ?_; rintro w10 S10 o10 -; have z10 := z9.onto o10 (by omega); have O10 := O9.at o10 (own_not_row O9.hx S9 (by decide)) (own_not_row O9.hy S9 (by decide)); have q10 := q9.onto o10 (by omega); have p10 := p9.onto o10 (by omega); have K10 := bb_onto K9 o10 (by omega) L9; have sz10 := o10.size; have L10 : base ≤ w10.heap.size := Nat.le_trans L9 sz10; have lz10 := z10.lt; have lq10 := q10.lt; have lS10 := S10.lt; have lp10 := p10.lt; have ke10 := (sw S10).e)
          | (refine bd_s0 rfl rfl ?_)
          | (refine st_s rfl rfl rfl rfl z10 rfl rfl rfl rfl ?_; rintro wa za oa -; have Ka := bb_onto K10 oa (by omega) L10))
        refine ret_s2 rfl rfl za rfl rfl ?_
        rw [HX.out]
        exact ⟨Ka, .inr ⟨rfl, rfl⟩⟩
  · have HTU : Hid (m.turn = (M1, 5, [⟨m.k + 5, 2, C⟩])) := show _ = _ by
      unfold Mc.turn
      rw [HC.out]
      simp [hc]
    have hfin : m.fin = m.k + 5 := by unfold Mc.fin; rw [HTU.out]
    by_cases hf : m.k + 5 ≤ 999999900
    · have hX : r = (m.stepped l, true) := by rw [HX.out]; unfold Mc.step'; rw [hfin, if_pos hf]
      obtain ⟨S1, hS1⟩ : ∃ S1, ((⟨M1, [], [⟨m.k + 5, 2, C⟩], 0⟩ : St)).evs l (m.k + 5) = S1 := ⟨_, rfl⟩
      obtain ⟨TA, RD, hTA⟩ : ∃ TA RD, S1.m.t.after 5 = (TA, RD) := ⟨_, _, rfl⟩
      have hQ : m.stepped l = { S1 with m := { S1.m with t := TA, k := m.k + 5, fl := if 0 < RD then bits .or .i64 S1.m.fl 1 else S1.m.fl } } := by
        unfold Mc.stepped St.first St.closed
        rw [hfin, HTU.out]
        show (_ : St) = _
        rw [hS1, hTA]
      have HX : Hid (r = (m.stepped l, true)) := hX
      have HS1 : Hid (((⟨M1, [], [⟨m.k + 5, 2, C⟩], 0⟩ : St)).evs l (m.k + 5) = S1) := hS1
      have HT : Hid (S1.m.t.after 5 = (TA, RD)) := hTA
      clear hX hS1 hTA hfin
      by_cases hrd : 0 < RD
      · have HQ : Hid ({ S1 with m := { S1.m with t := TA, k := m.k + 5, fl := bits .or .i64 S1.m.fl 1 } } = m.stepped l) := show _ = _ by rw [hQ, if_pos hrd]
        clear hQ
        go_enter Tryz.func56, Tryz.ntmps56
        go_wp2_with (first
          | (refine box_m rfl rfl hv ?_; intro w0 r0 hb0; have lr0 := r0.lt; have O0 := h.below hb0; have K0 : Tame base w w0 := bb_below (Tame.refl base w) hle hb0; have L0 : base ≤ w0.heap.size := O0.le)
          | (refine al_st rfl rfl ?_; intro w1 z1 hb1; have r1 := r0.below hb1; have O1 := O0.below hb1; have K1 := bb_below K0 L0 hb1; have L1 := O1.le; have lz1 := z1.lt; have ck : w1.cell? ⟨w.heap.size, 24, none⟩ = some (.int .i64 m.k) := (cw r1).k)
          | (refine ld_mc rfl rfl rfl r1 ?_)
          | (go_at_call 126; refine (l8Call_spec rfl O1 hok).mono ?_; rw [HC.out]; rintro e w2 ⟨rfl, O2x, bt2⟩; have O2 : Ow base w2 x y M1 := O2x; clear O2x; have n2 := bt2 gy hgy; clear ck; have z2 := z1.onto n2 (by omega); have K2 := bb_ram K1 h.hy hgy n2; have sz2 := n2.size; have L2 : base ≤ w2.heap.size := Nat.le_trans L1 sz2; have lz2 := z2.lt)
          | (refine al_mc rfl rfl ?_; intro w3 q3 hb3; have z3 := z2.below hb3; have O3 := O2.below hb3; have K3 := bb_below K2 L2 hb3; have sz3 := hb3.size; have L3 : base ≤ w3.heap.size := Nat.le_trans L2 sz3; have lz3 := z3.lt; have lq3 := q3.lt)
          | (refine st_mc rfl rfl rfl rfl q3 (one_own O3.hx) (one_own O3.hy) ?_; rintro w4 q4 o4 -; have z4 := z3.onto o4 (by omega); have O4 := O3.at o4 (own_not_row O3.hx q3 (by decide)) (own_not_row O3.hy q3 (by decide)); have K4 := bb_onto K3 o4 (by omega) L3; have sz4 := o4.size; have L4 : base ≤ w4.heap.size := Nat.le_trans L3 sz4; have lz4 := z4.lt; have lq4 := q4.lt)
          | (refine ld_mc rfl rfl rfl q4 ?_)
          | (refine bd_s1 rfl rfl rfl ?_)
          | (refine al_st rfl rfl ?_; intro w5 S5 hb5; have z5 := z4.below hb5; have O5 := O4.below hb5; have q5 := q4.below hb5; have K5 := bb_below K4 L4 hb5; have sz5 := hb5.size; have L5 : base ≤ w5.heap.size := Nat.le_trans L4 sz5; have lz5 := z5.lt; have lq5 := q5.lt; have lS5 := S5.lt)
          | (refine st_s rfl rfl rfl rfl S5 (one_own O5.hx) (one_own O5.hy) rfl rfl ?_; rintro w6 S6 o6 -; have z6 := z5.onto o6 (by omega); have O6 := O5.at o6 (own_not_row O5.hx S5 (by decide)) (own_not_row O5.hy S5 (by decide)); have q6 := q5.onto o6 (by omega); have K6 := bb_onto K5 o6 (by omega) L5; have sz6 := o6.size; have L6 : base ≤ w6.heap.size := Nat.le_trans L5 sz6; have lz6 := z6.lt; have lq6 := q6.lt; have lS6 := S6.lt; have ke6 := (sw S6).e; have hal : Below w6.heap.size w6 (w6.alloc (.cells #[.int .i64 (m.k + 5), .int .i64 2, .int .i64 C] 142)) := (Below.refl _ _).alloc (Nat.le_refl _) _; have hlit := own_litF fE okE w6.heap.size w6 #[.int .i64 (m.k + 5), .int .i64 2, .int .i64 C] [⟨m.k + 5, 2, C⟩] rfl (by unfold maxLen; simp) (Nat.le_refl _); have zl := z6.below hal; have Sl' := S6.below hal; have Ol := O6.below hal; have Kl := bb_below K6 L6 hal; have Ll := Ol.le)
          | (at_builtin; refine appF okE rfl (.tmp 50) (.tmp 56) rfl base [] [⟨m.k + 5, 2, C⟩] (OwnF.nil _ _ _) (hlit.sl okE) (by simp) (by omega) ?_; intro v7 w7 E7 hg7; have t7 := Mild.grown (base := base) not_plainE (OwnF.nil fE base _) hg7; have z7 := t7.row zl plain_st; have S7 := t7.row Sl' plain_st; have O7 := t7.ow Ol; have K7 := bb_mild Kl Ll t7; have sz7 := t7.size; have L7 := O7.le; have lz7 := z7.lt; have lS7 := S7.lt)
          | (refine st_se (l := [⟨m.k + 5, 2, C⟩]) rfl rfl rfl rfl S7 (E7.one okE) ?_; rintro w8 S8 o8 -; have z8 := z7.onto o8 (by omega); have O8 := O7.at o8 (own_not_row O7.hx S7 (by decide)) (own_not_row O7.hy S7 (by decide)); have E8 := E7.onto o8 (E7.not_row S7 (by decide)); have K8 := bb_onto K7 o8 (by omega) L7; have sz8 := o8.size; have L8 : base ≤ w8.heap.size := Nat.le_trans L7 sz8; have lz8 := z8.lt; have lS8 := S8.lt; have Y8 : So base w8 x y nil64 v7 (⟨M1, [], [⟨m.k + 5, 2, C⟩], 0⟩) := ⟨O8, OwnF.nil _ _ _, E8⟩; have hs8 := slF_bb hs hvi K8)
          | (refine ld_s' rfl rfl rfl S8 ?_)
          | (go_at_call 128; refine (l9Events_spec _ _ x y nil64 v7 (⟨M1, [], [⟨m.k + 5, 2, C⟩], 0⟩) l _ _ base rfl Y8 hs8 hvi hlen hT rfl (by simp) (by simp)).mono ?_; rw [HS1.out]; rintro e w9 ⟨vo1, ve1, rfl, Y9, t9⟩; have z9 := t9.row z8 plain_st; have S9 := t9.row S8 plain_st; have K9 := bb_mild K8 L8 t9; have sz9 := t9.size; have L9 := Y9.ow.le; have lz9 := z9.lt; have lS9 := S9.lt)
          | (refine st_s rfl rfl rfl rfl S9 (one_own Y9.ow.hx) (one_own Y9.ow.hy) (Y9.o.one okM) (Y9.e.one okE) ?_; rintro w10 S10 o10 -; have z10 := z9.onto o10 (by omega); have Y10 := Y9.row o10 S9 plain_st (by decide); have K10 := bb_onto K9 o10 (by omega) L9; have sz10 := o10.size; have L10 : base ≤ w10.heap.size := Nat.le_trans L9 sz10; have lz10 := z10.lt; have lS10 := S10.lt)
          | (refine ld_st rfl rfl rfl S10 ?_)
          | (go_at_call 129; refine (timerAfter_spec S1.m.t 5 _).mono ?_; rw [HT.out]; rintro e w11 ⟨rfl, hb11⟩; have z11 := z10.below hb11; have S11 := S10.below hb11; have Y11 := Y10.below hb11; have K11 := bb_below K10 L10 hb11; have sz11 := hb11.size; have L11 : base ≤ w11.heap.size := Nat.le_trans L10 sz11; have lz11 := z11.lt; have lS11 := S11.lt)
          | (refine al_t rfl rfl ?_; intro w12 t12 hb12; have z12 := z11.below hb12; have S12 := S11.below hb12; have Y12 := Y11.below hb12; have K12 := bb_below K11 L11 hb12; have sz12 := hb12.size; have L12 : base ≤ w12.heap.size := Nat.le_trans L11 sz12; have lz12 := z12.lt; have lS12 := S12.lt; have lt12 := t12.lt)
          | (refine st_tt rfl rfl rfl rfl t12 ?_; rintro w13 t13 o13; have z13 := z12.onto o13 (by omega); have S13 := S12.onto o13 (by omega); have Y13 := Y12.row o13 t12 plain_t (by decide); have K13 := bb_onto K12 o13 (by omega) L12; have sz13 := o13.size; have L13 : base ≤ w13.heap.size := Nat.le_trans L12 sz13; have lz13 := z13.lt; have lS13 := S13.lt; have lt13 := t13.lt)
          | (refine ld_tt rfl rfl rfl t13 ?_)
          | (refine st_st rfl rfl rfl rfl S13 ?_; rintro w14 S14 o14 -; have z14 := z13.onto o14 (by omega); have K14 := bb_onto K13 o14 (by omega) L13; have sz14 := o14.size; have L14 : base ≤ w14.heap.size := Nat.le_trans L13 sz14; have lz14 := z14.lt; have lS14 := S14.lt; have Y14 := (Y13.row o14 S13 plain_st (by decide)).as (s' := { S1 with m := { S1.m with t := TA } }) rfl rfl rfl rfl)
          | (refine st_sn (s' := { S1 with m := { S1.m with t := TA, k := m.k + 5 } }) rfl rfl rfl rfl S14 rfl rfl ?_; rintro w15 S15 o15 -; have z15 := z14.onto o15 (by omega); have K15 := bb_onto K14 o15 (by omega) L14; have sz15 := o15.size; have L15 : base ≤ w15.heap.size := Nat.le_trans L14 sz15; have lz15 := z15.lt; have lS15 := S15.lt; have Y15 := (Y14.row o15 S14 plain_st (by decide)).as (s' := { S1 with m := { S1.m with t := TA, k := m.k + 5 } }) rfl rfl rfl rfl; have kf15 := (sw S15).fl)
          | (refine st_sn (s' := { S1 with m := { S1.m with t := TA, k := m.k + 5, fl := bits .or .i64 S1.m.fl 1 } }) rfl rfl rfl rfl S15 rfl rfl ?_; rintro w16 S16 o16 -; have z16 := z15.onto o16 (by omega); have K16 := bb_onto K15 o16 (by omega) L15; have sz16 := o16.size; have L16 : base ≤ w16.heap.size := Nat.le_trans L15 sz16; have lz16 := z16.lt; have lS16 := S16.lt; have Y16 := (Y15.row o16 S15 plain_st (by decide)).as (s' := { S1 with m := { S1.m with t := TA, k := m.k + 5, fl := bits .or .i64 S1.m.fl 1 } }) rfl rfl rfl rfl)
          | (refine ld_s' rfl rfl rfl S16 ?_)
          | (refine st_s rfl rfl rfl rfl z16 (one_own Y16.ow.hx) (one_own Y16.ow.hy) (Y16.o.one okM) (Y16.e.one okE) ?_; rintro wa za oa -; have Ka := bb_onto K16 oa (by omega) L16; have Ya := Y16.row oa z16 plain_st (by decide)))
        refine ret_s2 rfl rfl za rfl rfl ?_
        rw [HX.out]
        exact ⟨Ka, .inl ⟨rfl, vo1, ve1, by rw [← HQ.out]; rfl, by rw [← HQ.out]; exact Ya⟩⟩
      · have HQ : Hid ({ S1 with m := { S1.m with t := TA, k := m.k + 5 } } = m.stepped l) := show _ = _ by rw [hQ, if_neg hrd]
        clear hQ
        go_enter Tryz.func56, Tryz.ntmps56
        go_wp2_with (first
          | (refine box_m rfl rfl hv ?_; intro w0 r0 hb0; have lr0 := r0.lt; have O0 := h.below hb0; have K0 : Tame base w w0 := bb_below (Tame.refl base w) hle hb0; have L0 : base ≤ w0.heap.size := O0.le)
          | (refine al_st rfl rfl ?_; intro w1 z1 hb1; have r1 := r0.below hb1; have O1 := O0.below hb1; have K1 := bb_below K0 L0 hb1; have L1 := O1.le; have lz1 := z1.lt; have ck : w1.cell? ⟨w.heap.size, 24, none⟩ = some (.int .i64 m.k) := (cw r1).k)
          | (refine ld_mc rfl rfl rfl r1 ?_)
          | (go_at_call 126; refine (l8Call_spec rfl O1 hok).mono ?_; rw [HC.out]; rintro e w2 ⟨rfl, O2x, bt2⟩; have O2 : Ow base w2 x y M1 := O2x; clear O2x; have n2 := bt2 gy hgy; clear ck; have z2 := z1.onto n2 (by omega); have K2 := bb_ram K1 h.hy hgy n2; have sz2 := n2.size; have L2 : base ≤ w2.heap.size := Nat.le_trans L1 sz2; have lz2 := z2.lt)
          | (refine al_mc rfl rfl ?_; intro w3 q3 hb3; have z3 := z2.below hb3; have O3 := O2.below hb3; have K3 := bb_below K2 L2 hb3; have sz3 := hb3.size; have L3 : base ≤ w3.heap.size := Nat.le_trans L2 sz3; have lz3 := z3.lt; have lq3 := q3.lt)
          | (refine st_mc rfl rfl rfl rfl q3 (one_own O3.hx) (one_own O3.hy) ?_; rintro w4 q4 o4 -; have z4 := z3.onto o4 (by omega); have O4 := O3.at o4 (own_not_row O3.hx q3 (by decide)) (own_not_row O3.hy q3 (by decide)); have K4 := bb_onto K3 o4 (by omega) L3; have sz4 := o4.size; have L4 : base ≤ w4.heap.size := Nat.le_trans L3 sz4; have lz4 := z4.lt; have lq4 := q4.lt)
          | (refine ld_mc rfl rfl rfl q4 ?_)
          | (refine bd_s1 rfl rfl rfl ?_)
          | (refine al_st rfl rfl ?_; intro w5 S5 hb5; have z5 := z4.below hb5; have O5 := O4.below hb5; have q5 := q4.below hb5; have K5 := bb_below K4 L4 hb5; have sz5 := hb5.size; have L5 : base ≤ w5.heap.size := Nat.le_trans L4 sz5; have lz5 := z5.lt; have lq5 := q5.lt; have lS5 := S5.lt)
          | (refine st_s rfl rfl rfl rfl S5 (one_own O5.hx) (one_own O5.hy) rfl rfl ?_; rintro w6 S6 o6 -; have z6 := z5.onto o6 (by omega); have O6 := O5.at o6 (own_not_row O5.hx S5 (by decide)) (own_not_row O5.hy S5 (by decide)); have q6 := q5.onto o6 (by omega); have K6 := bb_onto K5 o6 (by omega) L5; have sz6 := o6.size; have L6 : base ≤ w6.heap.size := Nat.le_trans L5 sz6; have lz6 := z6.lt; have lq6 := q6.lt; have lS6 := S6.lt; have ke6 := (sw S6).e; have hal : Below w6.heap.size w6 (w6.alloc (.cells #[.int .i64 (m.k + 5), .int .i64 2, .int .i64 C] 142)) := (Below.refl _ _).alloc (Nat.le_refl _) _; have hlit := own_litF fE okE w6.heap.size w6 #[.int .i64 (m.k + 5), .int .i64 2, .int .i64 C] [⟨m.k + 5, 2, C⟩] rfl (by unfold maxLen; simp) (Nat.le_refl _); have zl := z6.below hal; have Sl' := S6.below hal; have Ol := O6.below hal; have Kl := bb_below K6 L6 hal; have Ll := Ol.le)
          | (at_builtin; refine appF okE rfl (.tmp 50) (.tmp 56) rfl base [] [⟨m.k + 5, 2, C⟩] (OwnF.nil _ _ _) (hlit.sl okE) (by simp) (by omega) ?_; intro v7 w7 E7 hg7; have t7 := Mild.grown (base := base) not_plainE (OwnF.nil fE base _) hg7; have z7 := t7.row zl plain_st; have S7 := t7.row Sl' plain_st; have O7 := t7.ow Ol; have K7 := bb_mild Kl Ll t7; have sz7 := t7.size; have L7 := O7.le; have lz7 := z7.lt; have lS7 := S7.lt)
          | (refine st_se (l := [⟨m.k + 5, 2, C⟩]) rfl rfl rfl rfl S7 (E7.one okE) ?_; rintro w8 S8 o8 -; have z8 := z7.onto o8 (by omega); have O8 := O7.at o8 (own_not_row O7.hx S7 (by decide)) (own_not_row O7.hy S7 (by decide)); have E8 := E7.onto o8 (E7.not_row S7 (by decide)); have K8 := bb_onto K7 o8 (by omega) L7; have sz8 := o8.size; have L8 : base ≤ w8.heap.size := Nat.le_trans L7 sz8; have lz8 := z8.lt; have lS8 := S8.lt; have Y8 : So base w8 x y nil64 v7 (⟨M1, [], [⟨m.k + 5, 2, C⟩], 0⟩) := ⟨O8, OwnF.nil _ _ _, E8⟩; have hs8 := slF_bb hs hvi K8)
          | (refine ld_s' rfl rfl rfl S8 ?_)
          | (go_at_call 128; refine (l9Events_spec _ _ x y nil64 v7 (⟨M1, [], [⟨m.k + 5, 2, C⟩], 0⟩) l _ _ base rfl Y8 hs8 hvi hlen hT rfl (by simp) (by simp)).mono ?_; rw [HS1.out]; rintro e w9 ⟨vo1, ve1, rfl, Y9, t9⟩; have z9 := t9.row z8 plain_st; have S9 := t9.row S8 plain_st; have K9 := bb_mild K8 L8 t9; have sz9 := t9.size; have L9 := Y9.ow.le; have lz9 := z9.lt; have lS9 := S9.lt)
          | (refine st_s rfl rfl rfl rfl S9 (one_own Y9.ow.hx) (one_own Y9.ow.hy) (Y9.o.one okM) (Y9.e.one okE) ?_; rintro w10 S10 o10 -; have z10 := z9.onto o10 (by omega); have Y10 := Y9.row o10 S9 plain_st (by decide); have K10 := bb_onto K9 o10 (by omega) L9; have sz10 := o10.size; have L10 : base ≤ w10.heap.size := Nat.le_trans L9 sz10; have lz10 := z10.lt; have lS10 := S10.lt)
          | (refine ld_st rfl rfl rfl S10 ?_)
          | (go_at_call 129; refine (timerAfter_spec S1.m.t 5 _).mono ?_; rw [HT.out]; rintro e w11 ⟨rfl, hb11⟩; have z11 := z10.below hb11; have S11 := S10.below hb11; have Y11 := Y10.below hb11; have K11 := bb_below K10 L10 hb11; have sz11 := hb11.size; have L11 : base ≤ w11.heap.size := Nat.le_trans L10 sz11; have lz11 := z11.lt; have lS11 := S11.lt)
          | (refine al_t rfl rfl ?_; intro w12 t12 hb12; have z12 := z11.below hb12; have S12 := S11.below hb12; have Y12 := Y11.below hb12; have K12 := bb_below K11 L11 hb12; have sz12 := hb12.size; have L12 : base ≤ w12.heap.size := Nat.le_trans L11 sz12; have lz12 := z12.lt; have lS12 := S12.lt; have lt12 := t12.lt)
          | (refine st_tt rfl rfl rfl rfl t12 ?_; rintro w13 t13 o13; have z13 := z12.onto o13 (by omega); have S13 := S12.onto o13 (by omega); have Y13 := Y12.row o13 t12 plain_t (by decide); have K13 := bb_onto K12 o13 (by omega) L12; have sz13 := o13.size; have L13 : base ≤ w13.heap.size := Nat.le_trans L12 sz13; have lz13 := z13.lt; have lS13 := S13.lt; have lt13 := t13.lt)
          | (refine ld_tt rfl rfl rfl t13 ?_)
          | (refine st_st rfl rfl rfl rfl S13 ?_; rintro w14 S14 o14 -; have z14 := z13.onto o14 (by omega); have K14 := bb_onto K13 o14 (by omega) L13; have sz14 := o14.size; have L14 : base ≤ w14.heap.size := Nat.le_trans L13 sz14; have lz14 := z14.lt; have lS14 := S14.lt; have Y14 := (Y13.row o14 S13 plain_st (by decide)).as (s' := { S1 with m := { S1.m with t := TA } }) rfl rfl rfl rfl)
          | (refine st_sn (s' := { S1 with m := { S1.m with t := TA, k := m.k + 5 } }) rfl rfl rfl rfl S14 rfl rfl ?_; rintro w15 S15 o15 -; have z15 := z14.onto o15 (by omega); have K15 := bb_onto K14 o15 (by omega) L14; have sz15 := o15.size; have L15 : base ≤ w15.heap.size := Nat.le_trans L14 sz15; have lz15 := z15.lt; have lS15 := S15.lt; have Y15 := (Y14.row o15 S14 plain_st (by decide)).as (s' := { S1 with m := { S1.m with t := TA, k := m.k + 5 } }) rfl rfl rfl rfl; have kf15 := (sw S15).fl)
          | (refine ld_s' rfl rfl rfl S15 ?_)
          | (refine st_s rfl rfl rfl rfl z15 (one_own Y15.ow.hx) (one_own Y15.ow.hy) (Y15.o.one okM) (Y15.e.one okE) ?_; rintro wa za oa -; have Ka := bb_onto K15 oa (by omega) L15; have Ya := Y15.row oa z15 plain_st (by decide)))
        refine ret_s2 rfl rfl za rfl rfl ?_
        rw [HX.out]
        exact ⟨Ka, .inl ⟨rfl, vo1, ve1, by rw [← HQ.out]; rfl, by rw [← HQ.out]; exact Ya⟩⟩
    · have hX : r = (St.nul, false) := by rw [HX.out]; unfold Mc.step'; rw [hfin, if_neg hf]
      have HX : Hid (r = (St.nul, false)) := hX
      clear hX hfin
      go_enter Tryz.func56, Tryz.ntmps56
      go_wp2_with (first
        | (refine box_m rfl rfl hv ?_; intro w0 r0 hb0; have lr0 := r0.lt; have O0 := h.below hb0; have K0 : Tame base w w0 := bb_below (Tame.refl base w) hle hb0; have L0 : base ≤ w0.heap.size := O0.le)
        | (refine al_st rfl rfl ?_; intro w1 z1 hb1; have r1 := r0.below hb1; have O1 := O0.below hb1; have K1 := bb_below K0 L0 hb1; have L1 := O1.le; have lz1 := z1.lt; have ck : w1.cell? ⟨w.heap.size, 24, none⟩ = some (.int .i64 m.k) := (cw r1).k)
        | (refine ld_mc rfl rfl rfl r1 ?_)
        | (go_at_call 126; refine (l8Call_spec rfl O1 hok).mono ?_; rw [HC.out]; rintro e w2 ⟨rfl, O2x, bt2⟩; have O2 : Ow base w2 x y M1 := O2x; clear O2x; have n2 := bt2 gy hgy; clear ck; have z2 := z1.onto n2 (by omega); have K2 := bb_ram K1 h.hy hgy n2; have sz2 := n2.size; have L2 : base ≤ w2.heap.size := Nat.le_trans L1 sz2; have lz2 := z2.lt)
        | (refine al_mc rfl rfl ?_; intro w3 q3 hb3; have z3 := z2.below hb3; have O3 := O2.below hb3; have K3 := bb_below K2 L2 hb3; have sz3 := hb3.size; have L3 : base ≤ w3.heap.size := Nat.le_trans L2 sz3; have lz3 := z3.lt; have lq3 := q3.lt)
        | (refine st_mc rfl rfl rfl rfl q3 (one_own O3.hx) (one_own O3.hy) ?_; rintro w4 q4 o4 -; have z4 := z3.onto o4 (by omega); have O4 := O3.at o4 (own_not_row O3.hx q3 (by decide)) (own_not_row O3.hy q3 (by decide)); have K4 := bb_onto K3 o4 (by omega) L3; have sz4 := o4.size; have L4 : base ≤ w4.heap.size := Nat.le_trans L3 sz4; have lz4 := z4.lt; have lq4 := q4.lt)
        | (refine ld_mc rfl rfl rfl q4 ?_)
        | (refine bd_s1 rfl rfl rfl ?_)
        | (refine al_st rfl rfl ?_; intro w5 S5 hb5; have z5 := z4.below hb5; have O5 := O4.below hb5; have q5 := q4.below hb5; have K5 := bb_below K4 L4 hb5; have sz5 := hb5.size; have L5 : base ≤ w5.heap.size := Nat.le_trans L4 sz5; have lz5 := z5.lt; have lq5 := q5.lt; have lS5 := S5.lt)
        | (refine st_s rfl rfl rfl rfl S5 (one_own O5.hx) (one_own O5.hy) rfl rfl ?_; rintro w6 S6 o6 -; have z6 := z5.onto o6 (by omega); have O6 := O5.at o6 (own_not_row O5.hx S5 (by decide)) (own_not_row O5.hy S5 (by decide)); have q6 := q5.onto o6 (by omega); have K6 := bb_onto K5 o6 (by omega) L5; have sz6 := o6.size; have L6 : base ≤ w6.heap.size := Nat.le_trans L5 sz6; have lz6 := z6.lt; have lq6 := q6.lt; have lS6 := S6.lt; have ke6 := (sw S6).e; have hal : Below w6.heap.size w6 (w6.alloc (.cells #[.int .i64 (m.k + 5), .int .i64 2, .int .i64 C] 142)) := (Below.refl _ _).alloc (Nat.le_refl _) _; have hlit := own_litF fE okE w6.heap.size w6 #[.int .i64 (m.k + 5), .int .i64 2, .int .i64 C] [⟨m.k + 5, 2, C⟩] rfl (by unfold maxLen; simp) (Nat.le_refl _); have zl := z6.below hal; have Sl' := S6.below hal; have Ol := O6.below hal; have Kl := bb_below K6 L6 hal; have Ll := Ol.le)
        | (at_builtin; refine appF okE rfl (.tmp 50) (.tmp 56) rfl base [] [⟨m.k + 5, 2, C⟩] (OwnF.nil _ _ _) (hlit.sl okE) (by simp) (by omega) ?_; intro v7 w7 E7 hg7; have t7 := Mild.grown (base := base) not_plainE (OwnF.nil fE base _) hg7; have z7 := t7.row zl plain_st; have S7 := t7.row Sl' plain_st; have O7 := t7.ow Ol; have K7 := bb_mild Kl Ll t7; have sz7 := t7.size; have L7 := O7.le; have lz7 := z7.lt; have lS7 := S7.lt)
        | (refine st_se (l := [⟨m.k + 5, 2, C⟩]) rfl rfl rfl rfl S7 (E7.one okE) ?_; rintro w8 S8 o8 -; have z8 := z7.onto o8 (by omega); have O8 := O7.at o8 (own_not_row O7.hx S7 (by decide)) (own_not_row O7.hy S7 (by decide)); have E8 := E7.onto o8 (E7.not_row S7 (by decide)); have K8 := bb_onto K7 o8 (by omega) L7; have sz8 := o8.size; have L8 : base ≤ w8.heap.size := Nat.le_trans L7 sz8; have lz8 := z8.lt; have lS8 := S8.lt)
        | (refine bd_s0 rfl rfl ?_)
        | (refine st_s rfl rfl rfl rfl z8 rfl rfl rfl rfl ?_; rintro wa za oa -; have Ka := bb_onto K8 oa (by omega) L8))
      refine ret_s2 rfl rfl za rfl rfl ?_
      rw [HX.out]
      exact ⟨Ka, .inr ⟨rfl, rfl⟩⟩
end Go.Proofs.YtghmkacamabndaaGreatDoor.Mem
namespace Go.Proofs.YtghmkacamabndaaGreatDoor.Mem
open Go.ChangeShapes Go.WideShapes Go.RowKit Base Num Slc Slf Rw Tmr Srl Rom Opl Reg

def AnsT (base : Nat) (w' : World) (e : Ending) (r : St × Bool) : Prop := ∃ x y vo ve, e = .returned (.tuple #[r.1.val x y vo ve, .bool r.2]) ∧ So base w' x y vo ve r.1
theorem own_nul (base : Nat) (w : World) (h : base ≤ w.heap.size) : So base w nil64 nil64 nil64 nil64 St.nul := ⟨⟨Own.nil _ _, Own.nil _ _, (by intro k hk; cases hk), h⟩, OwnF.nil _ _ _, OwnF.nil _ _ _⟩
section
variable {ops : Array Oper} {rest : List Oper} {op : Oper} {a : Act} {w : World} {Q : Exit → Act → World → Prop} {p : Operand} {g : Nat} {x y vo ve : Value} {s : St}
theorem ld_smg (hw : Region.wanted op (yielded ops a.tmps) = true) (ho : op.op = .load 30 p) (hx : a.eval p = .pointer (some ⟨g, 0, none⟩)) (hr : SRow w g x y vo ve s)
    (h : wpList Tryz.prog ops Q rest (a.put op.dst (s.m.val x y)) w) : wpList Tryz.prog ops Q (op :: rest) a w :=
  wpList_step fun K hK => by
    rw [if_pos hw]
    exact lw_in (cs' := s.m.cells x y) ho hx hr Tryz.underlying30 rfl (sm_cells x y vo ve s) info_mc (hK _ _ h)
end
set_option maxHeartbeats 2000000 in
theorem stepOf_spec (v vi : Value) (m : Mc) (l : List M3) (w : World) (hm : MSl w v m) (hs : SlF fM w vi l) :
    Calls Tryz.prog 10 #[v, vi] w fun e w' => AnsT w.heap.size w' e (stepOf m l) ∧ Below w.heap.size w w' := by
  obtain ⟨x, y, hv, hr, ha⟩ := hm
  obtain ⟨r, HX⟩ : ∃ r, Hid (r = stepOf m l) := ⟨_, show _ = _ from rfl⟩
  rw [← HX.out]
  cases hok : m.ok
  · have HX' : Hid (r = (St.nul, false)) := show _ = _ by rw [HX.out]; exact stepOf_no (by rw [hok]; simp)
    go_enter Tryz.func10, Tryz.ntmps10
    go_wp2_with (first
      | (refine box_m rfl rfl hv ?_; intro w0 r0 hb0; have hr0 := hr.below hb0; have ha0 := ha.below hb0)
      | (refine al_st rfl rfl ?_; intro w1 z1 hb1; have r1 := r0.below hb1; have hB1 := below_more hb0 hb1; have hr1 := hr0.below hb1; have ha1 := ha0.below hb1)
      | (refine ld_mc rfl rfl rfl r1 ?_)
      | (go_at_call 55; refine (machineOk_spec _ m _ ⟨x, y, rfl, hr1, ha1⟩).mono ?_; rw [hok]; rintro e w2 ⟨rfl, hb2⟩; have z2 := z1.below hb2; have hB2 := below_more hB1 hb2; have lz := z1.lt; have s2 := hB2.size; have s0 := hb0.size)
      | (refine bd_s0 rfl rfl ?_)
      | (refine st_s rfl rfl rfl rfl z2 rfl rfl rfl rfl ?_; rintro w3 z3 o3 -; have hB3 := below_onto hB2 o3 (by omega)))
    refine ret_s2 rfl rfl z3 rfl rfl ?_
    rw [HX'.out]
    exact ⟨⟨_, _, _, _, rfl, own_nul _ _ hB3.size⟩, hB3⟩
  · cases hio : inboxOk l
    · have HX' : Hid (r = (St.nul, false)) := show _ = _ by rw [HX.out]; exact stepOf_no (by rw [hio]; simp)
      go_enter Tryz.func10, Tryz.ntmps10
      go_wp2_with (first
        | (refine box_m rfl rfl hv ?_; intro w0 r0 hb0; have hr0 := hr.below hb0; have ha0 := ha.below hb0; have hs0 := hs.below hb0)
        | (refine al_st rfl rfl ?_; intro w1 z1 hb1; have r1 := r0.below hb1; have hB1 := below_more hb0 hb1; have hr1 := hr0.below hb1; have ha1 := ha0.below hb1; have hs1 := hs0.below hb1)
        | (refine ld_mc rfl rfl rfl r1 ?_)
        | (go_at_call 55; refine (machineOk_spec _ m _ ⟨x, y, rfl, hr1, ha1⟩).mono ?_; rw [hok]; rintro e w2 ⟨rfl, hb2⟩; have z2 := z1.below hb2; have hB2 := below_more hB1 hb2; have lz := z1.lt; have s2 := hB2.size; have s0 := hb0.size; have hs2 := hs1.below hb2)
        | (go_at_call 18; refine (inboxOk_spec _ l _ hs2).mono ?_; rw [hio]; rintro e w5 ⟨rfl, hb5⟩; have z5 := z2.below hb5; have hB5 := below_more hB2 hb5; have s5 := hb5.size)
        | (refine bd_s0 rfl rfl ?_)
        | (refine st_s rfl rfl rfl rfl z5 rfl rfl rfl rfl ?_; rintro w3 z3 o3 -; have hB3 := below_onto hB5 o3 (by omega)))
      refine ret_s2 rfl rfl z3 rfl rfl ?_
      rw [HX'.out]
      exact ⟨⟨_, _, _, _, rfl, own_nul _ _ hB3.size⟩, hB3⟩
    · have hrom := (romOk_len (okm.1 hok).rom).2
      have hram := (okm.1 hok).len
      have HOK : Hid (m.ok = true) := hok
      have HIO : Hid (inboxOk l = true) := hio
      by_cases hf : m.fin ≤ 999999900
      · have HX' : Hid (r = (m.stepped l, true)) := show _ = _ by rw [HX.out]; exact stepOf_yes hok hio hf
        have HR : Hid (m.step' l = (m.stepped l, true)) := show _ = _ by unfold Mc.step'; rw [if_pos hf]
        have HD : Hid ((m.stepped l).m.ok = true) := (stepped_done hok hio hf).ok
        obtain ⟨S, hS⟩ : ∃ S, m.stepped l = S := ⟨_, rfl⟩
        rw [hS] at HX' HR HD
        clear hS
        go_enter Tryz.func10, Tryz.ntmps10
        go_wp2_with (first
          | (go_at_call 55; refine (machineOk_spec _ S.m _ ⟨x6, y6, rfl, Y9.ow.hx.sl, Y9.ow.hy.sl⟩).mono ?_; rw [HD.out]; rintro e w10 ⟨rfl, hb10⟩; have q10 := q9.below hb10; have z10 := z9.below hb10; have Y10 := Y9.below hb10; have hB10 := below_more hB9 hb10)
          | (refine box_m rfl rfl hv ?_; intro w0 r0 hb0; have hr0 := hr.below hb0; have ha0 := ha.below hb0; have hs0 := hs.below hb0)
          | (refine al_st rfl rfl ?_; intro w1 z1 hb1; have r1 := r0.below hb1; have hB1 := below_more hb0 hb1; have hr1 := hr0.below hb1; have ha1 := ha0.below hb1; have hs1 := hs0.below hb1)
          | (refine ld_mc rfl rfl rfl r1 ?_)
          | (go_at_call 55; refine (machineOk_spec _ m _ ⟨x, y, rfl, hr1, ha1⟩).mono ?_; rw [hok]; rintro e w2 ⟨rfl, hb2⟩; have z2 := z1.below hb2; have r2 := r1.below hb2; have hB2 := below_more hB1 hb2; have lz := z1.lt; have s2 := hB2.size; have s0 := hb0.size; have hs2 := hs1.below hb2; have hr2 := hr1.below hb2; have ha2 := ha1.below hb2; have t2 := hb2.size)
          | (go_at_call 18; refine (inboxOk_spec _ l _ hs2).mono ?_; rw [hio]; rintro e w5 ⟨rfl, hb5⟩; have z5 := z2.below hb5; have r5 := r2.below hb5; have hB5 := below_more hB2 hb5; have s5 := hb5.size; have hs5 := hs2.below hb5; have hr5 := hr2.below hb5; have ha5 := ha2.below hb5)
          | (refine ld_mc rfl rfl rfl r5 ?_)
          | (go_at_call 57; refine (l6Copy_spec _ m _ ⟨x, y, rfl, hr5, ha5⟩ (by omega) (by omega)).mono ?_; rintro e w6 ⟨v6, rfl, ⟨x6, y6, rfl, hx6, hy6, hxy6⟩, hb6⟩; have z6 := z5.below hb6; have hB6 := below_more hB5 hb6; have s6 := hb6.size; have hs6 := hs5.below hb6)
          | (go_at_call 56; refine (l9Step_spec _ _ x6 y6 m l _ w5.heap.size rfl ⟨hx6, hy6, hxy6, s6⟩ HOK.out hs6 (fun h0 k hk => hs5.lt h0 k hk) HIO.out).mono ?_; rw [HR.out]; rintro e w7 ⟨K7, H7⟩
             obtain ⟨-, vo, ve, rfl, Y7⟩ : _ ∧ _ := H7.resolve_right (by rintro ⟨hh, -⟩; cases hh)
             have hB7 : Below w.heap.size w w7 := hB6.trans ((K7.below (by omega)).mono (by omega))
             have z7 := K7.row z6 plain_st (by decide))
          | (refine al_st rfl rfl ?_; intro w8 q8 hb8; have z8 := z7.below hb8; have hB8 := below_more hB7 hb8; have Y8 := Y7.below hb8; have l8 := z7.lt)
          | (refine st_s rfl rfl rfl rfl q8 (one_own Y8.ow.hx) (one_own Y8.ow.hy) (Y8.o.one okM) (Y8.e.one okE) ?_; rintro w9 q9 o9 -; have z9 := z8.onto o9 (by omega); have Y9 := Y8.row o9 q8 plain_st (by decide); have s7 := K7.size; have hB9 := below_onto hB8 o9 (by omega))
          | (refine ld_smg rfl rfl rfl q9 ?_)
          | (refine ld_s' rfl rfl rfl q10 ?_)
          | (refine st_s rfl rfl rfl rfl z10 (one_own Y10.ow.hx) (one_own Y10.ow.hy) (Y10.o.one okM) (Y10.e.one okE) ?_; rintro w11 z11 o11 -; have Y11 := Y10.row o11 z10 plain_st (by decide); have hB11 := below_onto hB10 o11 (by omega)))
        refine ret_s2 rfl rfl z11 rfl rfl ?_
        rw [HX'.out]
        exact ⟨⟨x6, y6, vo, ve, rfl, ⟨⟨Y11.ow.hx.mono (by omega), Y11.ow.hy.mono (by omega), Y11.ow.ap, hB11.size⟩, Y11.o.mono (by omega), Y11.e.mono (by omega)⟩⟩, hB11⟩
      · have HX' : Hid (r = (St.nul, false)) := show _ = _ by rw [HX.out]; exact stepOf_no (fun h => hf h.2.2)
        have HR : Hid (m.step' l = (St.nul, false)) := show _ = _ by unfold Mc.step'; rw [if_neg hf]
        go_enter Tryz.func10, Tryz.ntmps10
        go_wp2_with (first
          | (refine box_m rfl rfl hv ?_; intro w0 r0 hb0; have hr0 := hr.below hb0; have ha0 := ha.below hb0; have hs0 := hs.below hb0)
          | (refine al_st rfl rfl ?_; intro w1 z1 hb1; have r1 := r0.below hb1; have hB1 := below_more hb0 hb1; have hr1 := hr0.below hb1; have ha1 := ha0.below hb1; have hs1 := hs0.below hb1)
          | (refine ld_mc rfl rfl rfl r1 ?_)
          | (go_at_call 55; refine (machineOk_spec _ m _ ⟨x, y, rfl, hr1, ha1⟩).mono ?_; rw [hok]; rintro e w2 ⟨rfl, hb2⟩; have z2 := z1.below hb2; have r2 := r1.below hb2; have hB2 := below_more hB1 hb2; have lz := z1.lt; have s2 := hB2.size; have s0 := hb0.size; have hs2 := hs1.below hb2; have hr2 := hr1.below hb2; have ha2 := ha1.below hb2; have t2 := hb2.size)
          | (go_at_call 18; refine (inboxOk_spec _ l _ hs2).mono ?_; rw [hio]; rintro e w5 ⟨rfl, hb5⟩; have z5 := z2.below hb5; have r5 := r2.below hb5; have hB5 := below_more hB2 hb5; have s5 := hb5.size; have hs5 := hs2.below hb5; have hr5 := hr2.below hb5; have ha5 := ha2.below hb5)
          | (refine ld_mc rfl rfl rfl r5 ?_)
          | (go_at_call 57; refine (l6Copy_spec _ m _ ⟨x, y, rfl, hr5, ha5⟩ (by omega) (by omega)).mono ?_; rintro e w6 ⟨v6, rfl, ⟨x6, y6, rfl, hx6, hy6, hxy6⟩, hb6⟩; have z6 := z5.below hb6; have hB6 := below_more hB5 hb6; have s6 := hb6.size; have hs6 := hs5.below hb6)
          | (go_at_call 56; refine (l9Step_spec _ _ x6 y6 m l _ w5.heap.size rfl ⟨hx6, hy6, hxy6, s6⟩ HOK.out hs6 (fun h0 k hk => hs5.lt h0 k hk) HIO.out).mono ?_; rw [HR.out]; rintro e w7 ⟨K7, H7⟩
             obtain ⟨-, rfl⟩ : _ ∧ _ := H7.resolve_left (by rintro ⟨hh, -⟩; cases hh)
             have hB7 : Below w.heap.size w w7 := hB6.trans ((K7.below (by omega)).mono (by omega))
             have z7 := K7.row z6 plain_st (by decide))
          | (refine al_st rfl rfl ?_; intro w8 q8 hb8; have z8 := z7.below hb8; have hB8 := below_more hB7 hb8; have l8 := z7.lt)
          | (refine st_s rfl rfl rfl rfl q8 rfl rfl rfl rfl ?_; rintro w9 q9 o9 -; have z9 := z8.onto o9 (by omega); have s7 := K7.size; have hB9 := below_onto hB8 o9 (by omega))
          | (refine bd_s0 rfl rfl ?_)
          | (refine st_s rfl rfl rfl rfl z9 rfl rfl rfl rfl ?_; rintro w11 z11 o11 -; have hB11 := below_onto hB9 o11 (by omega)))
        refine ret_s2 rfl rfl z11 rfl rfl ?_
        rw [HX'.out]
        exact ⟨⟨_, _, _, _, rfl, own_nul _ _ hB11.size⟩, hB11⟩
end Go.Proofs.YtghmkacamabndaaGreatDoor.Mem
