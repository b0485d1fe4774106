/-
  What RomOf answers, of the program and of its model, and the copies that it makes: a list of its own.
-/
import Derived.Test.YtocofjimkfffeaaRom
namespace Go.Proofs.Ytocofjimkfffeaa.RomOf
open Go.ChangeShapes Go.WideShapes Go.RowKit Base Slc Num Rom
set_option linter.unusedVariables false
set_option linter.unusedSimpArgs false

theorem copy_spec (v : Value) (l : List Int) (w : World) (h : Sl w v l) (hb : l.length ≤ 17592186044415) :
    Calls Try.prog 45 #[v] w fun e w' => ∃ v', e = .returned v' ∧ Own w.heap.size w' v' l ∧ Below w.heap.size w w' := by
  have HO := own_lit w.heap.size w #[] [] rfl (by decide) (Nat.le_refl _)
  have HS := h.below ((Below.refl _ _).alloc (Nat.le_refl _) (.cells #[] 2))
  have HB : Below w.heap.size w (w.alloc (.cells #[] 2)) := (Below.refl _ _).alloc (Nat.le_refl _) _
  go_enter Try.func45, Try.ntmps45
  go_wp2_with (at_builtin; refine app rfl (.tmp 3) (.tmp 4) rfl w.heap.size [] l HO HS (by simp; omega) (by simp) ?_; intro v' w' ho hg)
  go_ret
  exact ⟨v', rfl, by simpa using ho, HB.grown hg (by simp) (fun k hk => (HO.lt k hk).1)⟩

theorem clone_any (v : Value) (l : List Int) (w : World) (h : Sl w v l) (hb : l.length ≤ 17592186044415) :
    Calls Try.prog 46 #[v] w fun e w' => ∃ v', e = .returned v' ∧ Own w.heap.size w' v' l ∧ Below w.heap.size w w' := by
  have HO := own_lit w.heap.size w #[] [] rfl (by decide) (Nat.le_refl _)
  have HS := h.below ((Below.refl _ _).alloc (Nat.le_refl _) (.cells #[] 2))
  have HB : Below w.heap.size w (w.alloc (.cells #[] 2)) := (Below.refl _ _).alloc (Nat.le_refl _) _
  have q : ∀ (w : World) (a : Option Addr) (n c n' c' : Nat), (binOp .eql 22 (.slice a n c) (.slice none n' c')).run Try.prog w = .ok (.bool a.isNone) w := fun w a n c n' c' => Lib.run_eql_slice_nil w _ _ a n c n' c' und64
  obtain ⟨a, cap, rfl, hat, hlc, hcm, hnil⟩ := h
  cases a with
  | none =>
    obtain ⟨h0, rfl⟩ := hnil rfl
    have : l = [] := List.eq_nil_of_length_eq_zero h0
    subst this
    go_enter Try.func46, Try.ntmps46
    go_wp2
    go_ret
    exact ⟨_, rfl, Own.nil _ _, Below.refl _ _⟩
  | some x =>
    go_enter Try.func46, Try.ntmps46
    go_wp2_with (at_builtin; refine app rfl (.tmp 5) (.tmp 6) rfl w.heap.size [] l HO HS (by simp; omega) (by simp) ?_; intro v' w' ho hg)
    go_ret
    exact ⟨v', rfl, by simpa using ho, HB.grown hg (by simp) (fun k hk => (HO.lt k hk).1)⟩

/-- The rom of a code: what it would be, and what is answered. -/
def romOf (l : List Int) : List Int := if romOk (l ++ [chk l]) then l ++ [chk l] else []

end Go.Proofs.Ytocofjimkfffeaa.RomOf
