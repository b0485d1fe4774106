/-
  Inboxes: the model's InboxWith.
-/
import Derived.Test.YtlhmhhcjnildcaaInb
namespace Go.Proofs.Ytlhmhhcjnildcaa.Mem
open Go.ChangeShapes Go.WideShapes Go.RowKit Base Num Slc Slf Rw Tmr Reg
set_option linter.unusedVariables false
set_option linter.unusedSimpArgs false
set_option maxRecDepth 20000

theorem inboxOk_few {l : List M3} (h : inboxOk l = true) : l.length ≤ 200 := by
  simp only [inboxOk, Bool.and_eq_true, decide_eq_true_eq] at h
  exact h.2
theorem ld_m3g {ops : Array Oper} {rest : List Oper} {o : Oper} {a : Act} {w : World} {Q : Exit → Act → World → Prop} {x : Operand} {g : Nat} {m : M3} (hw : Region.wanted o (yielded ops a.tmps) = true) (ho : o.op = .load 33 x) (hx : a.eval x = .pointer (some ⟨g, 0, none⟩)) (hr : M3Row w g m)
    (h : wpList Try.prog ops Q rest (a.put o.dst m.val) w) : wpList Try.prog ops Q (o :: rest) a w :=
  wpList_step fun K hK => by
    rw [if_pos hw]
    exact wp_load_row _ _ ho _ hx _ _ _ _ hr.row Try.underlying33 rfl info_m3 (hK _ _ h)
theorem inboxWith_spec (v : Value) (l : List M3) (m : M3) (w : World) (h : SlF fM w v l) :
    Calls Try.prog 11 #[v, m.val] w fun e w' => ∃ v', e = .returned (.tuple #[v', .bool (inboxWith l m).2]) ∧ OwnF fM w.heap.size w' v' (inboxWith l m).1 ∧ Below w.heap.size w w' := by
  obtain ⟨vv, hvv⟩ : ∃ vv, vv = m.val := ⟨_, rfl⟩
  obtain ⟨r, HR⟩ : ∃ r, Hid (r = inboxWith l m) := ⟨_, show _ = _ from rfl⟩
  rw [← hvv, ← HR.out]
  have hone := h.one
  obtain ⟨a, cap, rfl, -, hlc, hcm, -⟩ := id h
  unfold maxLen at hcm
  cases hok : inboxOk l
  · have hr : Hid (r = ([], false)) := show _ = _ by rw [HR.out]; simp [inboxWith, hok]
    go_enter Try.func11, Try.ntmps11
    go_wp2_with (first
      | (refine box_m3 rfl rfl hvv ?_; intro w0 r0 hB0; have hs0 := h.below hB0)
      | (go_at_call 7; refine (inboxOk_spec _ l _ hs0).mono ?_; rintro e w1 ⟨rfl, hb1⟩; rw [hok]; have hB1 := below_more hB0 hb1))
    go_ret2
    rw [hr.out]
    exact ⟨_, rfl, own_litF fM okM w.heap.size w1 #[] [] rfl (by decide) hB1.size, hB1.alloc hB1.size _⟩
  · have hfew := inboxOk_few hok
    by_cases h2 : 200 ≤ l.length
    · have hr : Hid (r = (l, false)) := show _ = _ by rw [HR.out]; simp [inboxWith, hok, h2]
      have hd : decide ((200 : Int) ≤ (l.length : Int)) = true := by simp; omega
      go_enter Try.func11, Try.ntmps11
      go_wp2_with (first
        | (refine box_m3 rfl rfl hvv ?_; intro w0 r0 hB0; have hs0 := h.below hB0)
        | (go_at_call 7; refine (inboxOk_spec _ l _ hs0).mono ?_; rintro e w1 ⟨rfl, hb1⟩; rw [hok]; have hB1 := below_more hB0 hb1; have hs1 := hs0.below hb1)
        | (go_at_call 25; refine (l9Copy_spec _ l _ hs1 (by omega)).mono ?_; rintro e w2 ⟨v2, rfl, ho2, hb2⟩; have hB2 := below_more hB1 hb2))
      go_ret2
      rw [hr.out]
      exact ⟨_, rfl, ho2.mono hB1.size, hB2⟩
    · have hd : decide ((200 : Int) ≤ (l.length : Int)) = false := by simp; omega
      cases hm : m.ok
      · have hr : Hid (r = (l, false)) := show _ = _ by rw [HR.out]; simp [inboxWith, hok, hm]
        go_enter Try.func11, Try.ntmps11
        go_wp2_with (first
          | (refine box_m3 rfl rfl hvv ?_; intro w0 r0 hB0; have hs0 := h.below hB0)
          | (go_at_call 7; refine (inboxOk_spec _ l _ hs0).mono ?_; rintro e w1 ⟨rfl, hb1⟩; rw [hok]; have hB1 := below_more hB0 hb1; have hs1 := hs0.below hb1; have r1 := r0.below hb1)
          | (refine ld_m3g rfl rfl rfl r1 ?_)
          | (go_at_call 18; refine (l9MsgOk_spec m _).mono ?_; rw [hm]; rintro e w2 ⟨rfl, hb2⟩; have hB2 := below_more hB1 hb2; have hs2 := hs1.below hb2)
          | (go_at_call 25; refine (l9Copy_spec _ l _ hs2 (by omega)).mono ?_; rintro e w3 ⟨v3, rfl, ho3, hb3⟩; have hB3 := below_more hB2 hb3))
        go_ret2
        rw [hr.out]
        exact ⟨_, rfl, ho3.mono hB2.size, hB3⟩
      · have hr : Hid (r = (withM l m, true)) := show _ = _ by rw [HR.out]; simp [inboxWith, hok, hm, h2]
        go_enter Try.func11, Try.ntmps11
        go_wp2_with (first
          | (refine box_m3 rfl rfl hvv ?_; intro w0 r0 hB0; have hs0 := h.below hB0)
          | (go_at_call 7; refine (inboxOk_spec _ l _ hs0).mono ?_; rintro e w1 ⟨rfl, hb1⟩; rw [hok]; have hB1 := below_more hB0 hb1; have hs1 := hs0.below hb1; have r1 := r0.below hb1)
          | (refine ld_m3g rfl rfl rfl r1 ?_)
          | (go_at_call 18; refine (l9MsgOk_spec m _).mono ?_; rw [hm]; rintro e w2 ⟨rfl, hb2⟩; have hB2 := below_more hB1 hb2; have hs2 := hs1.below hb2; have r2 := r1.below hb2)
          | (refine ld_m3 rfl rfl rfl r2 ?_)
          | (go_at_call 26; refine (l9With_spec _ l m _ hs2 (by omega)).mono ?_; rintro e w3 ⟨v3, rfl, ho3, hb3⟩; have hB3 := below_more hB2 hb3))
        go_ret2
        rw [hr.out]
        exact ⟨_, rfl, ho3.mono hB2.size, hB3⟩
end Go.Proofs.Ytlhmhhcjnildcaa.Mem
