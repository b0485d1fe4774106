/-
  The marks of a pair, found again.
-/
import Derived.Test.YtjjafaikaghlgaaPrMh
import Derived.Test.YtjjafaikaghlgaaPrMp
import Derived.Test.YtjjafaikaghlgaaPrNs
namespace Go.Proofs.Ytjjafaikaghlgaa.Mem
open Go.ChangeShapes Go.WideShapes Go.RowKit Base Num Slc Slf Rw Tmr Reg Ex
set_option linter.unusedVariables false
set_option linter.unusedSimpArgs false
set_option maxRecDepth 20000

theorem heldPair_any (v : Value) (p : Pr) (k : Nat) (w : World) (h : PSl w v (marksP k p)) (hs : p.size ≤ 1100000) (hk : k ≤ 100) :
    Calls Try.prog 20 #[v, .int .i64 (k : Int)] w fun e w' => e = .returned (.int .i64 ((k + p.cnt : Nat) : Int)) ∧ Below w.heap.size w w' := by
  obtain ⟨x, y, z, hv, h1, h2, h3⟩ := h
  have t1 := sm_cnt p.ms
  unfold Pr.size at hs
  have e1 : tot Mc.len p.ms ≤ 1100000 := by omega
  have e2 : tot List.length p.is ≤ 1100000 := by omega
  have e3 : tot List.length p.ts ≤ 1100000 := by omega
  have e4 : sm List.length p.is ≤ 1100000 := by unfold tot at e2; omega
  have e5 : sm List.length p.ts ≤ 1100000 := by unfold tot at e3; omega
  have o1 := h1.one
  have o2 := h2.one
  have o3 := h3.one
  go_enter Try.func20, Try.ntmps20
  go_wp2_with (first
    | (refine box3 rfl rfl hv o1 o2 o3 sz_ip ?_; intro w0 r0 hB0; have k0 := r0.cell 0; have k1 := r0.cell 1; have k2 := r0.cell 2))
  go_at_call 49
  refine (heldMcs_any x p.ms k _ (h1.below stays_mc hB0) (by omega) (by omega)).mono ?_
  rintro e w1 ⟨rfl, rfl⟩
  go_wp2_with fail
  go_at_call 50
  refine (heldMss_any y p.is (k + sm Mc.cnt p.ms) _ (h2.below stays_sl hB0) (by omega) (by omega)).mono ?_
  rintro e w2 ⟨rfl, hb2⟩
  have r2 := r0.below hb2
  have k2' := r2.cell 2
  have hB2 := below_more hB0 hb2
  go_wp2_with fail
  go_at_call 51
  refine (heldEss_any z p.ts (k + sm Mc.cnt p.ms + 3 * sm List.length p.is) _ (h3.below stays_sl hB2) (by omega) (by omega)).mono ?_
  rintro e w3 ⟨rfl, hb3⟩
  have hB3 := below_more hB2 hb3
  go_wp2_with fail
  go_ret
  exact ⟨by unfold Pr.cnt; rw [show k + (sm Mc.cnt p.ms + 3 * sm List.length p.is + 3 * sm List.length p.ts) = k + sm Mc.cnt p.ms + 3 * sm List.length p.is + 3 * sm List.length p.ts by omega]; push_cast; rfl, hB3⟩
end Go.Proofs.Ytjjafaikaghlgaa.Mem
