/-
  What stands while a machine is drawn.
-/
import Derived.Test.YtogmhpjelmlonaaMcDraw1
import Derived.Test.YtogmhpjelmlonaaTmrDraw
import Derived.Test.YtogmhpjelmlonaaSrlDraw2
namespace Go.Proofs.Ytogmhpjelmlonaa.Mem
open Go.ChangeShapes Go.WideShapes Go.RowKit Base Draw Slc Num Rw Tmr Srl Rom RomOf Reg
set_option linter.unusedVariables false
set_option linter.unusedSimpArgs false

def intAt (k : Nat) : Bool := [2, 3, 4, 5, 11, 12, 13, 14, 15, 16, 17, 18, 21, 22, 24].contains k
def boolAt (k : Nat) : Bool := [6, 7, 8, 9, 10].contains k
theorem set_int (M : Mc) (x y : Value) (k : Nat) (z : Int) (hk : intAt k = true) : ∃ M' : Mc, (M.cells x y).setIfInBounds k (.int .i64 z) = M'.cells x y := by
  simp [intAt] at hk
  rcases hk with rfl | rfl | rfl | rfl | rfl | rfl | rfl | rfl | rfl | rfl | rfl | rfl | rfl | rfl | rfl
  · exact ⟨{ M with a := z }, rfl⟩
  · exact ⟨{ M with b := z }, rfl⟩
  · exact ⟨{ M with pc := z }, rfl⟩
  · exact ⟨{ M with sp := z }, rfl⟩
  · exact ⟨{ M with fl := z }, rfl⟩
  · exact ⟨{ M with ms := z }, rfl⟩
  · exact ⟨{ M with ky := z }, rfl⟩
  · exact ⟨{ M with t := { M.t with c := z } }, rfl⟩
  · exact ⟨{ M with t := { M.t with v := z } }, rfl⟩
  · exact ⟨{ M with t := { M.t with s := z } }, rfl⟩
  · exact ⟨{ M with t := { M.t with m := z } }, rfl⟩
  · exact ⟨{ M with p := { M.p with d := z } }, rfl⟩
  · exact ⟨{ M with p := { M.p with n := z } }, rfl⟩
  · exact ⟨{ M with p := { M.p with x := z } }, rfl⟩
  · exact ⟨{ M with k := z }, rfl⟩
theorem set_bool (M : Mc) (x y : Value) (k : Nat) (z : Bool) (hk : boolAt k = true) : ∃ M' : Mc, (M.cells x y).setIfInBounds k (.bool z) = M'.cells x y := by
  simp [boolAt] at hk
  rcases hk with rfl | rfl | rfl | rfl | rfl
  · exact ⟨{ M with z := z }, rfl⟩
  · exact ⟨{ M with c := z }, rfl⟩
  · exact ⟨{ M with e := z }, rfl⟩
  · exact ⟨{ M with h := z }, rfl⟩
  · exact ⟨{ M with s := z }, rfl⟩
theorem get_int (M : Mc) (x y : Value) (k : Nat) (hk : intAt k = true) : ∃ z : Int, (M.cells x y)[k]? = some (.int .i64 z) := by
  simp [intAt] at hk
  rcases hk with rfl | rfl | rfl | rfl | rfl | rfl | rfl | rfl | rfl | rfl | rfl | rfl | rfl | rfl | rfl <;> exact ⟨_, rfl⟩
theorem intAt_lt {k : Nat} (hk : intAt k = true) : decide (k < 25) = true := by
  simp [intAt] at hk
  rcases hk with rfl | rfl | rfl | rfl | rfl | rfl | rfl | rfl | rfl | rfl | rfl | rfl | rfl | rfl | rfl <;> decide
theorem boolAt_lt {k : Nat} (hk : boolAt k = true) : decide (k < 25) = true := by
  simp [boolAt] at hk
  rcases hk with rfl | rfl | rfl | rfl | rfl <;> decide
/-- A machine, whatever stands in its fields. -/
abbrev MAny (w : World) (g : Nat) (x y : Value) : Prop := ∃ M : Mc, MRow w g x y M
section
variable {ops : Array Oper} {rest : List Oper} {o : Oper} {a : Act} {w : World} {Q : Exit → Act → World → Prop} {x y : Operand} {g k : Nat} {vr va : Value}
theorem st_numA {z : Int} (hgd : o.guard = none) (ho : o.op = .store 2 x y) (hx : a.eval x = .pointer (some ⟨g, k, none⟩)) (hy : a.eval y = .int .i64 z) (hr : MAny w g vr va) (hk : intAt k = true)
    (h : ∀ w', MAny w' g vr va → Onto g w w' → wpList Try.prog ops Q rest (a.put o.dst undef) w') : wpList Try.prog ops Q (o :: rest) a w := by
  obtain ⟨M, hM⟩ := hr
  obtain ⟨M', e⟩ := set_int M vr va k z hk
  exact st_num hgd ho hx hy hM (intAt_lt hk) e (fun w' r o _ => h w' ⟨M', r⟩ o)
theorem st_yesA {z : Bool} (hgd : o.guard = none) (ho : o.op = .store 4 x y) (hx : a.eval x = .pointer (some ⟨g, k, none⟩)) (hy : a.eval y = .bool z) (hr : MAny w g vr va) (hk : boolAt k = true)
    (h : ∀ w', MAny w' g vr va → Onto g w w' → wpList Try.prog ops Q rest (a.put o.dst undef) w') : wpList Try.prog ops Q (o :: rest) a w := by
  obtain ⟨M, hM⟩ := hr
  obtain ⟨M', e⟩ := set_bool M vr va k z hk
  exact st_yes hgd ho hx hy hM (boolAt_lt hk) e (fun w' r o _ => h w' ⟨M', r⟩ o)
theorem st_timeA {t : Tm} (hgd : o.guard = none) (ho : o.op = .store 26 x y) (hx : a.eval x = .pointer (some ⟨g, 14, none⟩)) (hy : a.eval y = t.val) (hr : MAny w g vr va)
    (h : ∀ w', MAny w' g vr va → Onto g w w' → wpList Try.prog ops Q rest (a.put o.dst undef) w') : wpList Try.prog ops Q (o :: rest) a w := by
  obtain ⟨M, hM⟩ := hr
  exact st_time' hgd ho hx hy hM (fun w' r o _ => h w' ⟨_, r⟩ o)
theorem st_portA {s : Sr} (hgd : o.guard = none) (ho : o.op = .store 28 x y) (hx : a.eval x = .pointer (some ⟨g, 18, none⟩)) (hy : a.eval y = s.val) (hr : MAny w g vr va)
    (h : ∀ w', MAny w' g vr va → Onto g w w' → wpList Try.prog ops Q rest (a.put o.dst undef) w') : wpList Try.prog ops Q (o :: rest) a w := by
  obtain ⟨M, hM⟩ := hr
  exact st_port' hgd ho hx hy hM (fun w' r o _ => h w' ⟨_, r⟩ o)
theorem ld_numA (hgd : o.guard = none) (ho : o.op = .load 2 x) (hx : a.eval x = .pointer (some ⟨g, k, none⟩)) (hr : MAny w g vr va) (hk : intAt k = true)
    (h : ∀ z : Int, wpList Try.prog ops Q rest (a.put o.dst (.int .i64 z)) w) : wpList Try.prog ops Q (o :: rest) a w := by
  obtain ⟨M, hM⟩ := hr
  obtain ⟨z, e⟩ := get_int M vr va k hk
  exact ld_i hgd ho hx hM e (h z)
end
/-- The blocks of a draw of a machine. -/
structure Pm (w : World) (p : Nat) (a : Option Addr) (len : Nat) (base g gr : Nat) (x y : Value) : Prop where
  old : OldC p a len w
  n0 : p < w.heap.size
  n1 : w.heap.size ≤ gr
  n2 : gr < base
  n3 : base ≤ g
  bx : ∀ k, x.ownBlock = some k → base ≤ k ∧ k < g
  b_y : ∀ k, y.ownBlock = some k → base ≤ k ∧ k < g
  ap : Apart x y
/-- What stands while a machine is drawn. -/
structure Md (w : World) (p : Nat) (a : Option Addr) (len cap : Nat) (base g gr : Nat) (x y : Value) (W : World) : Prop where
  drawn : Drawn p a len cap w W
  row : MAny W g x y
  res : ∃ x' y', MAny W gr x' y'
  o1 : ∃ l : List Int, 2 ≤ l.length ∧ l.length ≤ 128 ∧ Own base W x l
  o2 : ∃ l : List Int, l.length = 64 ∧ Own base W y l
section
variable {w W W' : World} {p : Nat} {a : Option Addr} {len cap base g gr b n c : Nat} {x y : Value}
theorem Md.onto (h : Md w p a len cap base g gr x y W) (hP : Pm w p a len base g gr x y) (ho : Onto p W W') (hd : Drawn p a len cap w W') : Md w p a len cap base g gr x y W' := by
  obtain ⟨_, ⟨M, r⟩, ⟨x', y', M', r'⟩, ⟨l1, a1, a2, h1⟩, ⟨l2, b1, h2⟩⟩ := h
  have := hP.n0; have := hP.n1; have := hP.n2; have := hP.n3
  exact ⟨hd, ⟨M, r.onto ho (by omega)⟩, ⟨x', y', M', r'.onto ho (by omega)⟩, ⟨l1, a1, a2, h1.onto ho (fun e => by have := (h1.lt _ e).1; omega)⟩, ⟨l2, b1, h2.onto ho (fun e => by have := (h2.lt _ e).1; omega)⟩⟩
theorem Md.field (h : Md w p a len cap base g gr x y W) (hP : Pm w p a len base g gr x y) (ho : Onto g W W') (hr : MAny W' g x y) : Md w p a len cap base g gr x y W' := by
  obtain ⟨hd, _, ⟨x', y', M', r'⟩, ⟨l1, a1, a2, h1⟩, ⟨l2, b1, h2⟩⟩ := h
  have := hP.n0; have := hP.n1; have := hP.n2; have := hP.n3
  exact ⟨drawn_other hd ho (by omega) hP.old, hr, ⟨x', y', M', r'.onto ho (by omega)⟩, ⟨l1, a1, a2, h1.onto ho (fun e => by have := hP.bx _ e; omega)⟩, ⟨l2, b1, h2.onto ho (fun e => by have := hP.b_y _ e; omega)⟩⟩
theorem Md.drew (h : Md w p a len cap base g gr x y W) : Md w p a len cap base g gr x y W.drew := by
  obtain ⟨hd, ⟨M, r⟩, ⟨x', y', M', r'⟩, ⟨l1, a1, a2, h1⟩, ⟨l2, b1, h2⟩⟩ := h
  exact ⟨hd.drewN 1, ⟨M, r.drewN 1⟩, ⟨x', y', M', r'.drewN 1⟩, ⟨l1, a1, a2, h1.drewN 1⟩, ⟨l2, b1, h2.drewN 1⟩⟩
theorem Md.alloc (h : Md w p a len cap base g gr x y W) (ob : Obj) : Md w p a len cap base g gr x y (W.alloc ob) := by
  obtain ⟨hd, ⟨M, r⟩, ⟨x', y', M', r'⟩, ⟨l1, a1, a2, h1⟩, ⟨l2, b1, h2⟩⟩ := h
  have hb := (Below.refl W.heap.size W).alloc (Nat.le_refl _) ob
  exact ⟨hd.alloc ob, ⟨M, r.alloc ob⟩, ⟨x', y', M', r'.alloc ob⟩, ⟨l1, a1, a2, h1.below hb⟩, ⟨l2, b1, h2.below hb⟩⟩
/-- A cell of one of the lists is set. -/
theorem Md.cellY (h : Md w p a len cap base g gr x (.slice (some ⟨b, 0, none⟩) n c) W) (hP : Pm w p a len base g gr x (.slice (some ⟨b, 0, none⟩) n c)) (j : Nat) (z : Int) : Md w p a len cap base g gr x (.slice (some ⟨b, 0, none⟩) n c) (W.setCell ⟨b, j, none⟩ (.int .i64 z)) := by
  obtain ⟨hd, ⟨M, r⟩, ⟨x', y', M', r'⟩, ⟨l1, a1, a2, h1⟩, ⟨l2, b1, h2⟩⟩ := h
  have := hP.n0; have := hP.n1; have := hP.n2; have := hP.n3
  have hb := hP.b_y b rfl
  have ho : Onto b W (W.setCell ⟨b, j, none⟩ (.int .i64 z)) := (Onto.refl b W).setCell rfl _
  exact ⟨drawn_other hd ho (by omega) hP.old, ⟨M, r.onto ho (by omega)⟩, ⟨x', y', M', r'.onto ho (by omega)⟩, ⟨l1, a1, a2, h1.onto ho (fun e => hP.ap b e rfl)⟩, ⟨l2.set j z, by simp [b1], (h2.store j z).1⟩⟩
theorem Md.cellX (h : Md w p a len cap base g gr (.slice (some ⟨b, 0, none⟩) n c) y W) (hP : Pm w p a len base g gr (.slice (some ⟨b, 0, none⟩) n c) y) (j : Nat) (z : Int) : Md w p a len cap base g gr (.slice (some ⟨b, 0, none⟩) n c) y (W.setCell ⟨b, j, none⟩ (.int .i64 z)) := by
  obtain ⟨hd, ⟨M, r⟩, ⟨x', y', M', r'⟩, ⟨l1, a1, a2, h1⟩, ⟨l2, b1, h2⟩⟩ := h
  have := hP.n0; have := hP.n1; have := hP.n2; have := hP.n3
  have hb := hP.bx b rfl
  have ho : Onto b W (W.setCell ⟨b, j, none⟩ (.int .i64 z)) := (Onto.refl b W).setCell rfl _
  exact ⟨drawn_other hd ho (by omega) hP.old, ⟨M, r.onto ho (by omega)⟩, ⟨x', y', M', r'.onto ho (by omega)⟩, ⟨l1.set j z, by simp; omega, by simp; omega, (h1.store j z).1⟩, ⟨l2, b1, h2.onto ho (fun e => hP.ap b rfl e)⟩⟩
end
end Go.Proofs.Ytogmhpjelmlonaa.Mem
