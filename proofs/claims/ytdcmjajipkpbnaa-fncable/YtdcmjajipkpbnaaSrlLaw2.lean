/-
  The law of the cable: its first drawn statement.
-/
import Derived.Test.YtdcmjajipkpbnaaSrlCable
import Derived.Test.YtdcmjajipkpbnaaSrlI5
import Derived.Test.YtdcmjajipkpbnaaReg2
import Derived.Test.YtdcmjajipkpbnaaDice
namespace Go.Proofs.Ytdcmjajipkpbnaa.Srl
open Go.ChangeShapes Go.WideShapes Go.RowKit Base Num Slc Rw Reg Tmr
set_option linter.unusedVariables false

/-- A port of a byte, idle. -/
def idle (p : Int) : Sr := ⟨p, false, false, 0, 0, false⟩
/-- Within the statement: the dice, the two idle ports. -/
structure G6 (w : World) (p : Nat) (a : Option Addr) (len cap : Nat) (b4 b5 : Nat) (x y : Int) (W : World) : Prop where
  dice : Dice.DiceAt W p a len cap
  r4 : Row W b4 #[.int .i64 (idle x).d, .bool (idle x).b, .bool (idle x).l, .int .i64 (idle x).n, .int .i64 (idle x).x, .bool (idle x).t] 29
  r5 : Row W b5 #[.int .i64 (idle y).d, .bool (idle y).b, .bool (idle y).l, .int .i64 (idle y).n, .int .i64 (idle y).x, .bool (idle y).t] 29
  bel : Below w.heap.size w W
structure Q6 (w : World) (p : Nat) (a : Option Addr) (len : Nat) (b4 b5 B : Nat) : Prop where
  np : w.heap.size ≤ p
  p4 : p < b4
  p5 : p < b5
  n4 : b4 < B
  n5 : b5 < B
  old : 0 < len → ∀ x, a = some x → x.block < w.heap.size
section
variable {w W W' : World} {p b4 b5 B : Nat} {a : Option Addr} {len cap : Nat} {x y : Int}
theorem G6.drew (h : G6 w p a len cap b4 b5 x y W) : G6 w p a len cap b4 b5 x y W.drew := ⟨h.dice.drew, h.r4.drewN 1, h.r5.drewN 1, h.bel.drew⟩
theorem G6.below (h : G6 w p a len cap b4 b5 x y W) (hb : Below W.heap.size W W') : G6 w p a len cap b4 b5 x y W' := ⟨h.dice.below hb, h.r4.below hb, h.r5.below hb, h.bel.trans (hb.mono h.bel.size)⟩
theorem G6.onto (h : G6 w p a len cap b4 b5 x y W) (hq : Q6 w p a len b4 b5 B) (ho : Onto p W W') (hd : Dice.DiceAt W' p a len cap) : G6 w p a len cap b4 b5 x y W' :=
  ⟨hd, h.r4.onto ho (by have := hq.p4; omega), h.r5.onto ho (by have := hq.p5; omega), below_onto h.bel ho hq.np⟩
theorem G6.set (h : G6 w p a len cap b4 b5 x y W) (hq : Q6 w p a len b4 b5 B) {b : Nat} (hb : B ≤ b) (cs : Array Value) : G6 w p a len cap b4 b5 x y (W.setRow b cs) := by
  have h1 := hq.np
  have h2 := hq.p4
  have h3 := hq.n4
  have h4 := hq.n5
  have h5 := hq.p5
  exact ⟨h.dice.onto (row_set cs) (by omega) (fun h0 z e => by have := hq.old h0 z e; omega), h.r4.onto (row_set cs) (by omega), h.r5.onto (row_set cs) (by omega), below_onto h.bel (row_set cs) (by omega)⟩
end
/-- What is told of each operation. -/
def T6 (p B : Nat) (x : Int) (j : Nat) (f : Nat → Value) (w : World) : Prop :=
  match j with
  | 0 => f 28 = (idle x).val
  | 1 => f 29 = .pointer (some ⟨p, 0, none⟩)
  | 2 => ∃ r : Nat, f 30 = .int .i64 (r : Int) ∧ (r : Int) < 100
  | 3 => ∃ r : Nat, f 31 = ((idle x).start true (r : Int)).val ∧ (r : Int) < 100
  | 4 => ∃ (b : Nat) (cs : Array Value), f 6 = .pointer (some ⟨b, 0, none⟩) ∧ B ≤ b ∧ cs.size = 6 ∧ Row w b cs 29
  | 5 => ∃ (b r : Nat), f 6 = .pointer (some ⟨b, 0, none⟩) ∧ B ≤ b ∧ (r : Int) < 100 ∧ Row w b #[.int .i64 ((idle x).start true (r : Int)).d, .bool ((idle x).start true (r : Int)).b, .bool ((idle x).start true (r : Int)).l, .int .i64 ((idle x).start true (r : Int)).n, .int .i64 ((idle x).start true (r : Int)).x, .bool ((idle x).start true (r : Int)).t] 29
  | _ => True
/-- What a step turns: below B whatever, above it nothing; the store alone one block. -/
def R6 (B : Nat) (i : Nat) (w w' : World) : Prop :=
  if i = 5 then ∃ (b : Nat) (cs : Array Value), cs.size = 6 ∧ w' = w.setRow b cs else Rel (fun k => k < B) w w'
theorem row_rel {B b : Nat} {cs : Array Value} {T : TypeId} {w w' : World} (h : Row w b cs T) (hb : B ≤ b) (hr : Rel (fun k => k < B) w w') : Row w' b cs T := h.keep (hr.2 b (by omega) h.lt)
theorem row_any {b b' : Nat} {cs cs' : Array Value} {T : TypeId} {w : World} (h : Row w b cs T) (hs : cs.size = 6) (hs' : cs'.size = 6) : ∃ c : Array Value, c.size = 6 ∧ Row (w.setRow b' cs') b c T := by
  by_cases e : b = b'
  · subst e; exact ⟨cs', hs', Row.of (setRow_heap w _ _ _ _ _ h.row)⟩
  · exact ⟨cs, hs, h.onto (row_set cs') e⟩
/-- A round, whole. -/
theorem cable_round (k : Nat) (hk : k < 8) (p q A : Int) (hp : 0 ≤ p ∧ p ≤ 255) (hq : 0 ≤ q ∧ q ≤ 255) (hA : 32 ≤ A ∧ A ≤ 1000) :
    ∃ (U : Sr) (bit ans : Int), (cx k p q A).send (cx k p q A).x = (U, (cx k p q A).x, bit) ∧ (cy k p q).beat bit = (cy (k + 1) p q, ans, decide (k = 7)) ∧ U.answer ans ((cx k p q A).x + 16) = (cx (k + 1) p q A, decide (k = 7)) ∧
      U.ok = true ∧ (cy (k + 1) p q).ok = true ∧ (cx (k + 1) p q A).ok = true ∧ 0 ≤ (cx k p q A).x ∧ (cx k p q A).x ≤ 100000 := by
  have e : (cx k p q A).x = A + 48 * k := by simp [cx, hk]
  have h3 := cable_answer k hk p q A hp hq hA
  refine ⟨_, _, _, by rw [e]; exact cable_send k hk p q A hp hq hA, cable_beat k hk p q hp hq, by rw [e]; exact h3.2, h3.1, cy_ok (k + 1) (by omega) p q hp hq, cx_ok (k + 1) (by omega) p q A hp hq hA, by omega, by omega⟩
theorem cx_end (p q A : Int) : cx 8 p q A = idle q := by simp [cx, idle]
theorem cy_end (p q : Int) : cy 8 p q = idle p := by simp [cy, idle]
/-- Before and behind each beat. -/
structure Gc (w : World) (b4 b5 b6 b7 : Nat) (x y : Int) (X Y : Sr) (W : World) : Prop where
  r4 : Row W b4 #[.int .i64 (idle x).d, .bool (idle x).b, .bool (idle x).l, .int .i64 (idle x).n, .int .i64 (idle x).x, .bool (idle x).t] 29
  r5 : Row W b5 #[.int .i64 (idle y).d, .bool (idle y).b, .bool (idle y).l, .int .i64 (idle y).n, .int .i64 (idle y).x, .bool (idle y).t] 29
  r6 : Row W b6 #[.int .i64 X.d, .bool X.b, .bool X.l, .int .i64 X.n, .int .i64 X.x, .bool X.t] 29
  r7 : Row W b7 #[.int .i64 Y.d, .bool Y.b, .bool Y.l, .int .i64 Y.n, .int .i64 Y.x, .bool Y.t] 29
  bel : Below w.heap.size w W
theorem Gc.below {w W W' : World} {b4 b5 b6 b7 : Nat} {x y : Int} {X Y : Sr} (h : Gc w b4 b5 b6 b7 x y X Y W) (hb : Below W.heap.size W W') : Gc w b4 b5 b6 b7 x y X Y W' := ⟨h.r4.below hb, h.r5.below hb, h.r6.below hb, h.r7.below hb, h.bel.trans (hb.mono h.bel.size)⟩
theorem Gc.alloc {w W : World} {b4 b5 b6 b7 : Nat} {x y : Int} {X Y : Sr} (h : Gc w b4 b5 b6 b7 x y X Y W) (o : Obj) : Gc w b4 b5 b6 b7 x y X Y (W.alloc o) := h.below ((Below.refl _ _).alloc (Nat.le_refl _) _)
end Go.Proofs.Ytdcmjajipkpbnaa.Srl
