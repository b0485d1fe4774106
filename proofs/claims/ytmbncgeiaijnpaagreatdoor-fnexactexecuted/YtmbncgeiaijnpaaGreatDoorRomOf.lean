/-
  What RomOf answers, of the program and of its model, and the copies that it makes: a list of its own.
-/
import Derived.Test.YtmbncgeiaijnpaaGreatDoorRom
namespace Go.Proofs.YtmbncgeiaijnpaaGreatDoor.RomOf
open Go.ChangeShapes Go.WideShapes Go.RowKit Base Slc Num Rom
set_option linter.unusedVariables false
set_option linter.unusedSimpArgs false

theorem copy_spec (v : Value) (l : List Int) (w : World) (h : Sl w v l) (hb : l.length ≤ 17592186044415) :
    Calls Tryz.prog 110 #[v] w fun e w' => ∃ v', e = .returned v' ∧ Own w.heap.size w' v' l ∧ Below w.heap.size w w' := by
  have HO := own_lit w.heap.size w #[] [] rfl (by decide) (Nat.le_refl _)
  have HS := h.below ((Below.refl _ _).alloc (Nat.le_refl _) (.cells #[] 2))
  have HB : Below w.heap.size w (w.alloc (.cells #[] 2)) := (Below.refl _ _).alloc (Nat.le_refl _) _
  go_enter Tryz.func110, Tryz.ntmps110
  go_wp2_with (at_builtin; refine app rfl (.tmp 3) (.tmp 4) rfl w.heap.size [] l HO HS (by simp; omega) (by simp) ?_; intro v' w' ho hg)
  go_ret
  exact ⟨v', rfl, by simpa using ho, HB.grown hg (by simp) (fun k hk => (HO.lt k hk).1)⟩

theorem clone_any (v : Value) (l : List Int) (w : World) (h : Sl w v l) (hb : l.length ≤ 17592186044415) :
    Calls Tryz.prog 62 #[v] w fun e w' => ∃ v', e = .returned v' ∧ Own w.heap.size w' v' l ∧ Below w.heap.size w w' := by
  have HO := own_lit w.heap.size w #[] [] rfl (by decide) (Nat.le_refl _)
  have HS := h.below ((Below.refl _ _).alloc (Nat.le_refl _) (.cells #[] 2))
  have HB : Below w.heap.size w (w.alloc (.cells #[] 2)) := (Below.refl _ _).alloc (Nat.le_refl _) _
  have q : ∀ (w : World) (a : Option Addr) (n c n' c' : Nat), (binOp .eql 24 (.slice a n c) (.slice none n' c')).run Tryz.prog w = .ok (.bool a.isNone) w := fun w a n c n' c' => Lib.run_eql_slice_nil w _ _ a n c n' c' und64
  obtain ⟨a, cap, rfl, hat, hlc, hcm, hnil⟩ := h
  cases a with
  | none =>
    obtain ⟨h0, rfl⟩ := hnil rfl
    have : l = [] := List.eq_nil_of_length_eq_zero h0
    subst this
    go_enter Tryz.func62, Tryz.ntmps62
    go_wp2
    go_ret
    exact ⟨_, rfl, Own.nil _ _, Below.refl _ _⟩
  | some x =>
    go_enter Tryz.func62, Tryz.ntmps62
    go_wp2_with (at_builtin; refine app rfl (.tmp 5) (.tmp 6) rfl w.heap.size [] l HO HS (by simp; omega) (by simp) ?_; intro v' w' ho hg)
    go_ret
    exact ⟨v', rfl, by simpa using ho, HB.grown hg (by simp) (fun k hk => (HO.lt k hk).1)⟩

/-- The rom of a code: what it would be, and what is answered. -/
def romOf (l : List Int) : List Int := if romOk (l ++ [chk l]) then l ++ [chk l] else []

theorem romOf_spec (v : Value) (l : List Int) (w : World) (h : Sl w v l) (hb : l.length ≤ 4000000) :
    Calls Tryz.prog 121 #[v] w fun e w' => ∃ v', e = .returned (.tuple #[v', .bool (romOk (l ++ [chk l]))]) ∧ Own w.heap.size w' v' (romOf l) ∧ Below w.heap.size w w' := by
  by_cases hr : romOk (l ++ [chk l]) = true
  · have HR : Hid (romOf l = l ++ [chk l]) := by show romOf l = _; simp [romOf, hr]
    rw [hr]
    go_enter Tryz.func121, Tryz.ntmps121
    go_wp2_with (first
      | (go_at_call 110; refine (copy_spec v l _ h (by omega)).mono ?_; rintro e w1 ⟨v1, rfl, ho1, hb1⟩)
      | (go_at_call 24; refine (checkOf_specS _ l _ (h.below hb1)).mono ?_; rintro e w2 ⟨rfl, rfl⟩)
      | (at_builtin; refine app rfl (.tmp 6) (.tmp 9) rfl w.heap.size l [chk l] (ho1.below ((Below.refl _ _).alloc (Nat.le_refl _) _)) (sl_lit _ _ [chk l] rfl (by simp [maxLen])) (by simp; omega) (by have := hb1.size; simp; omega) ?_; intro v2 w3 ho2 hg2)
      | (go_at_call 33; refine (romOk_specS _ (l ++ [chk l]) _ ho2.sl).mono ?_; rintro e w4 ⟨rfl, n4, rfl⟩))
    go_ret2
    refine ⟨_, rfl, by rw [HR.out]; exact ho2.drewN _, below_drewN ((hb1.alloc hb1.size _).grown hg2 (by have := hb1.size; simp; omega) (fun k hk => (ho1.lt k hk).1)) _⟩
  · have hr' : romOk (l ++ [chk l]) = false := by simpa using hr
    have HR : Hid (romOf l = []) := by show romOf l = _; simp [romOf, hr']
    clear hr
    rw [hr']
    go_enter Tryz.func121, Tryz.ntmps121
    go_wp2_with (first
      | (go_at_call 110; refine (copy_spec v l _ h (by omega)).mono ?_; rintro e w1 ⟨v1, rfl, ho1, hb1⟩)
      | (go_at_call 24; refine (checkOf_specS _ l _ (h.below hb1)).mono ?_; rintro e w2 ⟨rfl, rfl⟩)
      | (at_builtin; refine app rfl (.tmp 6) (.tmp 9) rfl w.heap.size l [chk l] (ho1.below ((Below.refl _ _).alloc (Nat.le_refl _) _)) (sl_lit _ _ [chk l] rfl (by simp [maxLen])) (by simp; omega) (by have := hb1.size; simp; omega) ?_; intro v2 w3 ho2 hg2)
      | (go_at_call 33; refine (romOk_specS _ (l ++ [chk l]) _ ho2.sl).mono ?_; rintro e w4 ⟨rfl, n4, rfl⟩))
    go_ret2
    have hB := below_drewN ((hb1.alloc hb1.size (.cells #[.int .i64 (chk l)] 2)).grown hg2 (by have := hb1.size; simp; omega) (fun k hk => (ho1.lt k hk).1)) n4
    refine ⟨_, rfl, by rw [HR.out]; exact own_lit w.heap.size _ #[] [] rfl (by decide) hB.size, hB.alloc hB.size _⟩

end Go.Proofs.YtmbncgeiaijnpaaGreatDoor.RomOf
