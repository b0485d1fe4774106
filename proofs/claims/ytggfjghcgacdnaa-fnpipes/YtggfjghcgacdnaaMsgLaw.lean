/-
  The laws' own helpers over lists of messages: a copy, whether two are alike, how great one is, marks that are set and found again.
-/
import Derived.Test.YtggfjghcgacdnaaInb
import Derived.Test.YtggfjghcgacdnaaEx
namespace Go.Proofs.Ytggfjghcgacdnaa.Mem
open Go.ChangeShapes Go.WideShapes Go.RowKit Base Num Slc Slf Rw Tmr Reg Ex
set_option linter.unusedVariables false
set_option linter.unusedSimpArgs false
set_option maxRecDepth 20000

theorem own_there {α : Type} {f : Fl α} (hf : f.Ok) {base g n cap i : Nat} {w : World} {l : List α} {e : α} (h : OwnF f base w (.slice (some ⟨g, 0, none⟩) n cap) l) (hi : l[i]? = some e) : w.there g (i * f.n) f.n := fun j hj => by
  have hc := h.cellAt hf hi hj
  have hfr := h.free (i * f.n + j)
  refine ⟨?_, hfr⟩
  rw [hc]
  have := hf.len e
  rw [List.getElem?_eq_getElem (by omega)]
  rfl
section
variable {f : Fl M3} {ops : Array Oper} {rest : List Oper} {o : Oper} {a : Act} {w : World} {Q : Exit → Act → World → Prop} {x y : Operand} {g base n cap i j q : Nat} {l : List M3} {e e' : M3} {z : Int}
/-- A number goes into an element of a list of one's own. -/
theorem stE (hf : f.Ok) (hn : f.n = 3) (hgd : o.guard = none) (ho : o.op = .store 2 x y) (hx : a.eval x = .pointer (some ⟨g, q, none⟩)) (hy : a.eval y = .int .i64 z) (hown : OwnF f base w (.slice (some ⟨g, 0, none⟩) n cap) l) (hi : l[i]? = some e) (hq : q = i * f.n + j) (hj : j < 3)
    (hset : (f.F e).set j (.int .i64 z) = f.F e') (h : ∀ w', OwnF f base w' (.slice (some ⟨g, 0, none⟩) n cap) (l.set i e') → w.grownBy w' (some g) → wpList Try.prog ops Q rest (a.put o.dst undef) w') : wpList Try.prog ops Q (o :: rest) a w :=
  wpList_plain hgd fun _ hK => by
    rw [hn] at hq
    subst hq
    have ht : w.there g (i * 3 + j) [Value.int .i64 z].length := fun k hk => by
      have hk0 : k = 0 := by simpa using hk
      subst hk0
      have := own_there hf hown hi j (by omega)
      rwa [hn] at this
    have hs := hown.store hf hi (j := j) (by omega) hset
    rw [hn] at hs
    unfold Oper.wp execOp
    simp only [ho, hx, hy, Instr.storeAt, Instr.sureAddr, Sem.run_bind, Sem.run_pure, Result.andThen_ok, run_store_in (P := Try.prog) w g (i * 3 + j) 2 (.int .i64 z) [.int .i64 z] rfl ht (by kernel_rfl) rfl]
    exact hK _ _ (h _ hs.1 hs.2)
/-- An element goes into its place. -/
theorem stF (hf : f.Ok) (hn : f.n = 3) (hF : f.F = M3.cs) (hgd : o.guard = none) (ho : o.op = .store f.T x y) (hx : a.eval x = .pointer (some ⟨g, q, none⟩)) (hy : a.eval y = e'.val) (hown : OwnF f base w (.slice (some ⟨g, 0, none⟩) n cap) l) (hi : l[i]? = some e) (hq : q = i * 3)
    (h : ∀ w', OwnF f base w' (.slice (some ⟨g, 0, none⟩) n cap) (l.set i e') → w.grownBy w' (some g) → wpList Try.prog ops Q rest (a.put o.dst undef) w') : wpList Try.prog ops Q (o :: rest) a w :=
  wpList_plain hgd fun _ hK => by
    subst hq
    have ht : w.there g (i * 3) e'.cs.length := by
      have := own_there hf hown hi
      rwa [hn] at this
    have hil : i < l.length := (List.getElem?_eq_some_iff.1 hi).1
    have s0 := hown.store hf hi (j := 0) (x' := ⟨e'.t, e.k, e.v⟩) (u := .int .i64 e'.t) (by omega) (by rw [hF]; rfl)
    have s1 := s0.1.store hf (i := i) (x := ⟨e'.t, e.k, e.v⟩) (by simp [hil]) (j := 1) (x' := ⟨e'.t, e'.k, e.v⟩) (u := .int .i64 e'.k) (by omega) (by rw [hF]; rfl)
    have s2 := s1.1.store hf (i := i) (x := ⟨e'.t, e'.k, e.v⟩) (by simp [hil]) (j := 2) (x' := e') (u := .int .i64 e'.v) (by omega) (by rw [hF]; rfl)
    rw [hn] at s0 s1 s2
    have hset : ((l.set i ⟨e'.t, e.k, e.v⟩).set i ⟨e'.t, e'.k, e.v⟩).set i e' = l.set i e' := by simp
    have hsz : (Try.prog.info? f.T).map (·.size) = some e'.cs.length := by have := size_info hf e'; rwa [hF] at this
    unfold Oper.wp execOp
    simp only [ho, hx, hy, Instr.storeAt, Instr.sureAddr, Sem.run_bind, Sem.run_pure, Result.andThen_ok, run_store_in (P := Try.prog) w g (i * 3) f.T e'.val e'.cs rfl ht hsz rfl]
    exact hK _ _ (h _ (hset ▸ s2.1) (grown_trans (grown_trans s0.2 s1.2) s2.2))
end
theorem toMsg_any (m : M3) (w : World) : Calls Try.prog 40 #[m.val] w fun e w' => e = .returned m.val ∧ Below w.heap.size w w' := by
  obtain ⟨t, k, v⟩ := m
  have hB : Hid (Below w.heap.size w ((((w.alloc (.cells #[.int .i64 t, .int .i64 k, .int .i64 v] 45)).alloc (.cells #[.int .i64 t, .int .i64 k, .int .i64 v] 28)).alloc (.cells #[.int .i64 t, .int .i64 k, .int .i64 v] 28)))) := (((Below.refl _ w).alloc (Nat.le_refl _) _).alloc (by simp) _).alloc (by simp; omega) _
  rw [m3_val]
  go_enter Try.func40, Try.ntmps40
  go_wp2
  exact ret_row rfl rfl (((Row.new1 (w := w.alloc _) (n := w.heap.size + 1) (by simp) _ _).alloc _)) Try.underlying28 rfl info_m3 rfl ⟨rfl, hB.out⟩
theorem set3_step (l : List M3) (k : Nat) (h : k < l.length) : (l.take k ++ List.replicate (l.length - k) M3.nul).set k (M3.at' l k) = l.take (k + 1) ++ List.replicate (l.length - (k + 1)) M3.nul := by
  have e : l.length - k = (l.length - (k + 1)) + 1 := by omega
  rw [e, List.replicate_succ, List.set_append_right _ _ (by simp; omega), List.take_succ_eq_append_getElem h]
  have h1 : (l.take k).length = k := by simp; omega
  have h2 : M3.at' l k = l[k] := by
    unfold M3.at'
    simp [List.getD_eq_getElem?_getD, List.getElem?_eq_getElem h]
  rw [h1, Nat.sub_self, List.set_cons_zero, h2, List.append_assoc]
  rfl
theorem eqMsg_same (m : M3) (w : World) : Calls Try.prog 46 #[m.val, m.val] w fun e w' => e = .returned (.bool true) ∧ Below w.heap.size w w' := by
  obtain ⟨t, k, v⟩ := m
  have hB : Hid (Below w.heap.size w ((w.alloc (.cells #[.int .i64 t, .int .i64 k, .int .i64 v] 28)).alloc (.cells #[.int .i64 t, .int .i64 k, .int .i64 v] 28))) := ((Below.refl _ w).alloc (Nat.le_refl _) _).alloc (by simp) _
  rw [m3_val]
  go_enter Try.func46, Try.ntmps46
  go_wp2
  go_ret
  exact ⟨rfl, hB.out⟩
/-- Two lists that read alike, by a call that writes nothing old. -/
structure Gii (f : Fl M3) (w : World) (v u : Value) (l : List M3) (W : World) : Prop where
  sl : SlF f W v l
  su : SlF f W u l
  bel : Below w.heap.size w W
theorem Gii.below {f : Fl M3} {w W W' : World} {v u : Value} {l : List M3} (h : Gii f w v u l W) (hb : Below W.heap.size W W') : Gii f w v u l W' := ⟨h.sl.below hb, h.su.below hb, below_more h.bel hb⟩
theorem Gii.drew {f : Fl M3} {w W : World} {v u : Value} {l : List M3} (h : Gii f w v u l W) : Gii f w v u l W.drew := h.below (drew_below (n := 1) rfl)
end Go.Proofs.Ytggfjghcgacdnaa.Mem
