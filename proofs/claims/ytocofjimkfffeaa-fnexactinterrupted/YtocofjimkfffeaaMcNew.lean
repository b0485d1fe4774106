/-
  A new machine, as the document's model and as the program make it.
-/
import Derived.Test.YtocofjimkfffeaaMcW
import Derived.Test.YtocofjimkfffeaaReg4
namespace Go.Proofs.Ytocofjimkfffeaa.Mem
open Go.ChangeShapes Go.WideShapes Go.RowKit Base Num Slc Rw Tmr Srl Rom RomOf Reg
set_option linter.unusedVariables false

theorem built_nul : Try.prog.built 34 [] = some (Mc.nul.cells nil64 nil64) := by kernel_rfl
section
variable {ops : Array Oper} {rest : List Oper} {o : Oper} {a : Act} {w : World} {Q : Exit → Act → World → Prop}
/-- The zero machine, written out. -/
theorem bd_nul (hgd : o.guard = none) (ho : o.op = .build 34 #[]) (h : wpList Try.prog ops Q rest (a.put o.dst (Mc.nul.val nil64 nil64)) w) : wpList Try.prog ops Q (o :: rest) a w :=
  wpList_plain hgd fun _ hK => build_op (parts := []) (vals := []) ho rfl built_nul (hK _ _ h)
theorem ret_mc2 {fn : Func} {R : Ending → World → Prop} {q u : Tmp} {g : Nat} {vr va v : Value} {m : Mc} (h : fn.results = #[.cell q 34, .tmp u]) (hp : a.tmps.getD q undef = .pointer (some ⟨g, 0, none⟩)) (hr : MRow w g vr va m) (hde : a.defers = []) (hv : a.tmps.getD u undef = v)
    (hR : R (.returned (.tuple #[m.val vr va, v])) w) : bodyPost Try.prog fn R .ret a w := ret_row_tmp h hp hr Try.underlying34 rfl info_mc hde hv hR
end
theorem built_new (a a' : Option Addr) (n c n' c' : Nat) (l : List Int) : Try.prog.built 34 [(0, .slice a n c), (1, .slice a' n' c'), (5, .int .i64 192)] = some ((Mc.fresh l).cells (.slice a n c) (.slice a' n' c')) := by kernel_rfl
/-- The two share no block. -/
def Apart (x y : Value) : Prop := ∀ k, x.ownBlock = some k → y.ownBlock ≠ some k
/-- The region that makes the new machine: what is told of each operation. -/
def Tn (base g : Nat) (v : Value) (l : List Int) (j : Nat) (f : Nat → Value) (W : World) : Prop :=
  if j = 0 then f 8 = v
  else if j = 1 then Own base W (f 9) l ∧ Apart (f 9) (f 10)
  else if j = 2 then Own base W (f 10) (List.replicate 64 0) ∧ Apart (f 9) (f 10)
  else if j = 3 then f 11 = (Mc.fresh l).val (f 9) (f 10)
  else if j = 4 then MRow W g (f 9) (f 10) (Mc.fresh l)
  else if j = 5 then f 3 = .bool true
  else True
def Rn (g : Nat) (i : Nat) (f : Nat → Value) (W W' : World) : Prop :=
  (if i = 4 then Onto g W W' else Below W.heap.size W W') ∧ (i = 1 → ∀ k, (f 9).ownBlock = some k → W.heap.size ≤ k) ∧ (i = 2 → ∀ k, (f 10).ownBlock = some k → W.heap.size ≤ k)
def Xn (i j : Nat) : Bool := (i == 1 && j == 2) || (i == 2 && j == 1)
theorem Rn.own {base g i : Nat} {f : Nat → Value} {W W' : World} (h : Rn g i f W W') (hg : g < base) {x : Value} {l : List Int} (ho : Own base W x l) : Own base W' x l := by
  obtain ⟨h1, _⟩ := h
  by_cases hi : i = 4
  · rw [if_pos hi] at h1
    exact ho.onto h1 (fun e => by have := (ho.lt _ e).1; omega)
  · rw [if_neg hi] at h1
    exact ho.below h1
theorem Rn.below {g i : Nat} {f : Nat → Value} {W W' : World} (hb : Below W.heap.size W W') (h1 : i ≠ 1) (h2 : i ≠ 2) (h4 : i ≠ 4) : Rn g i f W W' :=
  ⟨by rw [if_neg h4]; exact hb, fun e => absurd e h1, fun e => absurd e h2⟩
theorem mono_n {ops : Array Oper} {base g : Nat} {v : Value} {l : List Int} (hg : g < base) (hS : supOkX ops [[8], [9, 10], [10, 9], [11, 9, 10], [9, 10], [3]] Xn = true) (hn : ops.size = 6)
    (h1 : ∀ o, ops[1]? = some o → o.dst = some 9) (h2 : ∀ o, ops[2]? = some o → o.dst = some 10) : MonoF ops (Tn base g v l) (Rn g) := by
  refine mono_supF hS (fun i j f f' W W' hij hx hf hT hR => ?_) (fun i j f f' W W' oi hij hx hoi hf hT hR => ?_)
  · by_cases j0 : j = 0
    · subst j0; exact (hf 8 (by simp)).trans hT
    by_cases j1 : j = 1
    · subst j1
      obtain ⟨t1, t2⟩ : Own base W (f 9) l ∧ Apart (f 9) (f 10) := hT
      have e9 := hf 9 (by simp)
      have e10 := hf 10 (by simp)
      show Own base W' (f' 9) l ∧ Apart (f' 9) (f' 10)
      rw [e9, e10]
      exact ⟨hR.own hg t1, t2⟩
    by_cases j2 : j = 2
    · subst j2
      obtain ⟨t1, t2⟩ : Own base W (f 10) (List.replicate 64 0) ∧ Apart (f 9) (f 10) := hT
      have e9 := hf 9 (by simp)
      have e10 := hf 10 (by simp)
      show Own base W' (f' 10) (List.replicate 64 0) ∧ Apart (f' 9) (f' 10)
      rw [e9, e10]
      exact ⟨hR.own hg t1, t2⟩
    by_cases j3 : j = 3
    · subst j3
      show f' 11 = (Mc.fresh l).val (f' 9) (f' 10)
      rw [hf 11 (by simp), hf 9 (by simp), hf 10 (by simp)]
      exact hT
    by_cases j4 : j = 4
    · subst j4
      show MRow W' g (f' 9) (f' 10) (Mc.fresh l)
      rw [hf 9 (by simp), hf 10 (by simp)]
      have h := hR.1
      rw [if_neg hij] at h
      exact Row.below (show MRow W g (f 9) (f 10) (Mc.fresh l) from hT) h
    by_cases j5 : j = 5
    · subst j5; exact (hf 3 (by simp)).trans hT
    · simp only [Tn, j0, j1, j2, j3, j4, j5, if_false]
  · simp only [Xn, Bool.or_eq_true, Bool.and_eq_true, beq_iff_eq] at hx
    rcases hx with ⟨rfl, rfl⟩ | ⟨rfl, rfl⟩
    · obtain ⟨t1, t2⟩ : Own base W (f 10) (List.replicate 64 0) ∧ Apart (f 9) (f 10) := hT
      have e10 := hf 10 (by rw [h1 oi hoi]; simp)
      show Own base W' (f' 10) (List.replicate 64 0) ∧ Apart (f' 9) (f' 10)
      rw [e10]
      exact ⟨hR.own hg t1, fun k hk hk' => by have := hR.2.1 rfl k hk; have := (t1.lt k hk').2; omega⟩
    · obtain ⟨t1, t2⟩ : Own base W (f 9) l ∧ Apart (f 9) (f 10) := hT
      have e9 := hf 9 (by rw [h2 oi hoi]; simp)
      show Own base W' (f' 9) l ∧ Apart (f' 9) (f' 10)
      rw [e9]
      exact ⟨hR.own hg t1, fun k hk hk' => by have := hR.2.2 rfl k hk'; have := (t1.lt k hk).2; omega⟩
end Go.Proofs.Ytocofjimkfffeaa.Mem
