/-
  PairOk, of the model and of the program; the walk of its law.
-/
import Derived.Test.YtjjafaikaghlgaaPrLaw
import Derived.Test.YtjjafaikaghlgaaInI
import Derived.Test.YtjjafaikaghlgaaMcOk
import Derived.Test.YtjjafaikaghlgaaMcOkI
namespace Go.Proofs.Ytjjafaikaghlgaa.Mem
open Go.ChangeShapes Go.WideShapes Go.RowKit Base Num Slc Slf Rw Tmr Reg Ex
set_option linter.unusedVariables false
set_option linter.unusedSimpArgs false
set_option maxRecDepth 20000

def both {α : Type} (p : α → Bool) (l : List α) : Bool := decide (l.length = 2) && l.all p
def fewEv (l : List M3) : Bool := decide (l.length ≤ 3000)
def Pr.ok (p : Pr) : Bool := both Mc.ok p.ms && both inboxOk p.is && both fewEv p.ts
theorem two_of {α : Type} {l : List α} (h : l.length = 2) : ∃ a b, l = [a, b] := by
  match l, h with
  | [a, b], _ => exact ⟨a, b, rfl⟩
section
variable {f : Fl Value} {ops : Array Oper} {rest : List Oper} {o : Oper} {A : Act} {w : World} {K : Act → World → Prop} {Q : Exit → Act → World → Prop} {x y : Operand} {b q off n c r : Nat} {e : Value}
/-- A guarded operation that is wanted. -/
theorem wpList_want {P : Program} (hw : Region.wanted o (yielded ops A.tmps) = true) (h : ∀ K : Act → World → Prop, (∀ a w, wpList P ops Q rest a w → K a w) → o.wp P A w K Q) : wpList P ops Q (o :: rest) A w :=
  wpList_step fun K hK => by rw [if_pos hw]; exact h K hK
theorem elNg (hf : f.Ok) (hw : Region.wanted o (yielded ops A.tmps) = true) (ho : o.op = .load f.T x) (hx : A.eval x = .pointer (some ⟨b, q, none⟩)) (hr : w.rangeAt b q (f.F e)) (hv : f.V e = e) (h : wpList Try.prog ops Q rest (A.put o.dst e) w) : wpList Try.prog ops Q (o :: rest) A w :=
  wpList_want hw fun K hK => elN_op hf ho hx hr hv (hK _ _ h)
theorem ixFg (hf : f.Ok) {k : IntKind} (hw : Region.wanted o (yielded ops A.tmps) = true) (ho : o.op = .indexAddr f.S x y) (hx : A.eval x = .slice (some ⟨b, off, none⟩) n c) (hy : A.eval y = .int k (r : Int)) (hr : r < n) (h : wpList Try.prog ops Q rest (A.put o.dst (.pointer (some ⟨b, off + r * f.n, none⟩))) w) : wpList Try.prog ops Q (o :: rest) A w :=
  wpList_want hw fun K hK => ixF_op hf ho hx hy hr (hK _ _ h)
theorem callvg {tys : Array TypeId} {F : FuncId} {fn : Func} {args : List Operand} (hw : Region.wanted o (yielded ops A.tmps) = true) (ho : o.op = .call { callee := .value x, args := args.toArray, argTypes := tys }) (hx : A.eval x = fnv F) (hf : Try.prog.funcs[F]? = some fn) (hn : (fn.name == "runtime.NumGoroutine") = false) (hb : fn.body.isNone = false)
    (h : Calls Try.prog F (args.map A.eval).toArray w fun e w' => ∃ v, e = .returned v ∧ wpList Try.prog ops Q rest (A.put o.dst v) w') : wpList Try.prog ops Q (o :: rest) A w :=
  wpList_want hw fun K' hK => callv_op ho hx hf hn hb (h.mono fun e w' ⟨v, hv, hk⟩ => ⟨v, hv, hK _ _ hk⟩)
end
theorem bothMcs_impl (F : FuncId) {fn : Func} (hf : Try.prog.funcs[F]? = some fn) (hn : (fn.name == "runtime.NumGoroutine") = false) (hb : fn.body.isNone = false) (p : Mc → Bool)
    (hp : ∀ u x w, MSl w u x → Calls Try.prog F #[u] w fun e w' => e = .returned (.bool (p x)) ∧ Below w.heap.size w w') (v : Value) (l : List (Mc)) (w : World) (h : NsF fIMc MSl w v l) :
    Calls Try.prog 28 #[v, fnv F] w fun e w' => e = .returned (.bool (both p l)) ∧ Below w.heap.size w w' := by
  by_cases h2 : l.length = 2
  · obtain ⟨x0, x1, rfl⟩ := two_of h2
    have HR : Hid (both p [x0, x1] = (p x0 && p x1)) := show _ = _ by simp [both]
    rw [HR.out]
    obtain ⟨b, off, c, rfl, -, -, hcm⟩ := h.shape (by simp)
    obtain ⟨us, hsl, hal⟩ := h
    have H : Hid (SlF fIMc w (.slice (some ⟨b, off, none⟩) [x0, x1].length c) us) := hsl
    obtain ⟨u0, y0, hu0, hy0, r0⟩ := hal.get (i := 0) (by simp)
    obtain ⟨u1, y1, hu1, hy1, r1⟩ := hal.get (i := 1) (by simp)
    simp at hy0 hy1
    subst hy0 hy1
    have V0 : fIMc.V u0 = u0 := fit_mc _ _ _ r0
    have V1 : fIMc.V u1 = u1 := fit_mc _ _ _ r1
    have g0 : w.rangeAt b (off + 0 * 25) (fIMc.F u0) := hsl.range okIMc hu0
    clear hsl hal h2
    show Calls Try.prog 28 #[.slice (some ⟨b, off, none⟩) 2 c, fnv F] w _
    have H : Hid (SlF fIMc w (.slice (some ⟨b, off, none⟩) 2 c) us) := H
    cases q0 : p x0
    · go_enter Try.func28, Try.ntmps28
      go_wp2_with (first
        | (refine ixFg okIMc (r := 0) rfl rfl rfl rfl (by decide) ?_)
        | (refine elNg okIMc rfl rfl rfl g0 V0 ?_)
        | (refine callvg (args := [.tmp 12]) rfl rfl rfl hf hn hb ?_; refine (hp u0 x0 _ r0).mono ?_; rintro e w1 ⟨rfl, hb1⟩; refine ⟨_, rfl, ?_⟩; rw [q0]))
      go_ret
      exact ⟨rfl, hb1⟩
    · cases q1 : p x1
      all_goals
        go_enter Try.func28, Try.ntmps28
        go_wp2_with (first
          | (refine ixFg okIMc (r := 0) rfl rfl rfl rfl (by decide) ?_)
          | (refine elNg okIMc rfl rfl rfl g0 V0 ?_)
          | (refine callvg (args := [.tmp 12]) rfl rfl rfl hf hn hb ?_; refine (hp u0 x0 _ r0).mono ?_; rintro e w1 ⟨rfl, hb1⟩; refine ⟨_, rfl, ?_⟩; rw [q0]; have g1 : w1.rangeAt b (off + 1 * 25) (fIMc.F u1) := (H.out.below hb1).range okIMc hu1; have r1' : MSl w1 u1 x1 := stays_mc _ _ _ _ r1 hb1)
          | (refine ixFg okIMc (r := 1) rfl rfl rfl rfl (by decide) ?_)
          | (refine elNg okIMc rfl rfl rfl g1 V1 ?_)
          | (refine callvg (args := [.tmp 19]) rfl rfl rfl hf hn hb ?_; refine (hp u1 x1 _ r1').mono ?_; rintro e w2 ⟨rfl, hb2⟩; refine ⟨_, rfl, ?_⟩; rw [q1]))
        go_ret
        exact ⟨rfl, below_more hb1 hb2⟩
  · have HR : Hid (both p l = false) := show _ = _ by simp [both, h2]
    rw [HR.out]
    obtain ⟨a, c, rfl, hlc, hcm⟩ := h.len
    unfold maxLen at hcm
    have hne : ((l.length : Int) == 2) = false := by simp; omega
    clear h h2
    go_enter Try.func28, Try.ntmps28
    go_wp2
    go_ret
    exact ⟨rfl, Below.refl _ _⟩
theorem bothMss_impl (F : FuncId) {fn : Func} (hf : Try.prog.funcs[F]? = some fn) (hn : (fn.name == "runtime.NumGoroutine") = false) (hb : fn.body.isNone = false) (p : List M3 → Bool)
    (hp : ∀ u x w, (SlF fM) w u x → Calls Try.prog F #[u] w fun e w' => e = .returned (.bool (p x)) ∧ Below w.heap.size w w') (v : Value) (l : List (List M3)) (w : World) (h : NsF fIMs (SlF fM) w v l) :
    Calls Try.prog 30 #[v, fnv F] w fun e w' => e = .returned (.bool (both p l)) ∧ Below w.heap.size w w' := by
  by_cases h2 : l.length = 2
  · obtain ⟨x0, x1, rfl⟩ := two_of h2
    have HR : Hid (both p [x0, x1] = (p x0 && p x1)) := show _ = _ by simp [both]
    rw [HR.out]
    obtain ⟨b, off, c, rfl, -, -, hcm⟩ := h.shape (by simp)
    obtain ⟨us, hsl, hal⟩ := h
    have H : Hid (SlF fIMs w (.slice (some ⟨b, off, none⟩) [x0, x1].length c) us) := hsl
    obtain ⟨u0, y0, hu0, hy0, r0⟩ := hal.get (i := 0) (by simp)
    obtain ⟨u1, y1, hu1, hy1, r1⟩ := hal.get (i := 1) (by simp)
    simp at hy0 hy1
    subst hy0 hy1
    have V0 : fIMs.V u0 = u0 := fit_sl _ _ _ r0
    have V1 : fIMs.V u1 = u1 := fit_sl _ _ _ r1
    have g0 : w.rangeAt b (off + 0 * 1) (fIMs.F u0) := hsl.range okIMs hu0
    clear hsl hal h2
    show Calls Try.prog 30 #[.slice (some ⟨b, off, none⟩) 2 c, fnv F] w _
    have H : Hid (SlF fIMs w (.slice (some ⟨b, off, none⟩) 2 c) us) := H
    cases q0 : p x0
    · go_enter Try.func30, Try.ntmps30
      go_wp2_with (first
        | (refine ixFg okIMs (r := 0) rfl rfl rfl rfl (by decide) ?_)
        | (refine elNg okIMs rfl rfl rfl g0 V0 ?_)
        | (refine callvg (args := [.tmp 12]) rfl rfl rfl hf hn hb ?_; refine (hp u0 x0 _ r0).mono ?_; rintro e w1 ⟨rfl, hb1⟩; refine ⟨_, rfl, ?_⟩; rw [q0]))
      go_ret
      exact ⟨rfl, hb1⟩
    · cases q1 : p x1
      all_goals
        go_enter Try.func30, Try.ntmps30
        go_wp2_with (first
          | (refine ixFg okIMs (r := 0) rfl rfl rfl rfl (by decide) ?_)
          | (refine elNg okIMs rfl rfl rfl g0 V0 ?_)
          | (refine callvg (args := [.tmp 12]) rfl rfl rfl hf hn hb ?_; refine (hp u0 x0 _ r0).mono ?_; rintro e w1 ⟨rfl, hb1⟩; refine ⟨_, rfl, ?_⟩; rw [q0]; have g1 : w1.rangeAt b (off + 1 * 1) (fIMs.F u1) := (H.out.below hb1).range okIMs hu1; have r1' : (SlF fM) w1 u1 x1 := stays_sl _ _ _ _ r1 hb1)
          | (refine ixFg okIMs (r := 1) rfl rfl rfl rfl (by decide) ?_)
          | (refine elNg okIMs rfl rfl rfl g1 V1 ?_)
          | (refine callvg (args := [.tmp 19]) rfl rfl rfl hf hn hb ?_; refine (hp u1 x1 _ r1').mono ?_; rintro e w2 ⟨rfl, hb2⟩; refine ⟨_, rfl, ?_⟩; rw [q1]))
        go_ret
        exact ⟨rfl, below_more hb1 hb2⟩
  · have HR : Hid (both p l = false) := show _ = _ by simp [both, h2]
    rw [HR.out]
    obtain ⟨a, c, rfl, hlc, hcm⟩ := h.len
    unfold maxLen at hcm
    have hne : ((l.length : Int) == 2) = false := by simp; omega
    clear h h2
    go_enter Try.func30, Try.ntmps30
    go_wp2
    go_ret
    exact ⟨rfl, Below.refl _ _⟩
theorem bothEss_impl (F : FuncId) {fn : Func} (hf : Try.prog.funcs[F]? = some fn) (hn : (fn.name == "runtime.NumGoroutine") = false) (hb : fn.body.isNone = false) (p : List M3 → Bool)
    (hp : ∀ u x w, (SlF fE) w u x → Calls Try.prog F #[u] w fun e w' => e = .returned (.bool (p x)) ∧ Below w.heap.size w w') (v : Value) (l : List (List M3)) (w : World) (h : NsF fIEv (SlF fE) w v l) :
    Calls Try.prog 32 #[v, fnv F] w fun e w' => e = .returned (.bool (both p l)) ∧ Below w.heap.size w w' := by
  by_cases h2 : l.length = 2
  · obtain ⟨x0, x1, rfl⟩ := two_of h2
    have HR : Hid (both p [x0, x1] = (p x0 && p x1)) := show _ = _ by simp [both]
    rw [HR.out]
    obtain ⟨b, off, c, rfl, -, -, hcm⟩ := h.shape (by simp)
    obtain ⟨us, hsl, hal⟩ := h
    have H : Hid (SlF fIEv w (.slice (some ⟨b, off, none⟩) [x0, x1].length c) us) := hsl
    obtain ⟨u0, y0, hu0, hy0, r0⟩ := hal.get (i := 0) (by simp)
    obtain ⟨u1, y1, hu1, hy1, r1⟩ := hal.get (i := 1) (by simp)
    simp at hy0 hy1
    subst hy0 hy1
    have V0 : fIEv.V u0 = u0 := fit_sl _ _ _ r0
    have V1 : fIEv.V u1 = u1 := fit_sl _ _ _ r1
    have g0 : w.rangeAt b (off + 0 * 1) (fIEv.F u0) := hsl.range okIEv hu0
    clear hsl hal h2
    show Calls Try.prog 32 #[.slice (some ⟨b, off, none⟩) 2 c, fnv F] w _
    have H : Hid (SlF fIEv w (.slice (some ⟨b, off, none⟩) 2 c) us) := H
    cases q0 : p x0
    · go_enter Try.func32, Try.ntmps32
      go_wp2_with (first
        | (refine ixFg okIEv (r := 0) rfl rfl rfl rfl (by decide) ?_)
        | (refine elNg okIEv rfl rfl rfl g0 V0 ?_)
        | (refine callvg (args := [.tmp 12]) rfl rfl rfl hf hn hb ?_; refine (hp u0 x0 _ r0).mono ?_; rintro e w1 ⟨rfl, hb1⟩; refine ⟨_, rfl, ?_⟩; rw [q0]))
      go_ret
      exact ⟨rfl, hb1⟩
    · cases q1 : p x1
      all_goals
        go_enter Try.func32, Try.ntmps32
        go_wp2_with (first
          | (refine ixFg okIEv (r := 0) rfl rfl rfl rfl (by decide) ?_)
          | (refine elNg okIEv rfl rfl rfl g0 V0 ?_)
          | (refine callvg (args := [.tmp 12]) rfl rfl rfl hf hn hb ?_; refine (hp u0 x0 _ r0).mono ?_; rintro e w1 ⟨rfl, hb1⟩; refine ⟨_, rfl, ?_⟩; rw [q0]; have g1 : w1.rangeAt b (off + 1 * 1) (fIEv.F u1) := (H.out.below hb1).range okIEv hu1; have r1' : (SlF fE) w1 u1 x1 := stays_sl _ _ _ _ r1 hb1)
          | (refine ixFg okIEv (r := 1) rfl rfl rfl rfl (by decide) ?_)
          | (refine elNg okIEv rfl rfl rfl g1 V1 ?_)
          | (refine callvg (args := [.tmp 19]) rfl rfl rfl hf hn hb ?_; refine (hp u1 x1 _ r1').mono ?_; rintro e w2 ⟨rfl, hb2⟩; refine ⟨_, rfl, ?_⟩; rw [q1]))
        go_ret
        exact ⟨rfl, below_more hb1 hb2⟩
  · have HR : Hid (both p l = false) := show _ = _ by simp [both, h2]
    rw [HR.out]
    obtain ⟨a, c, rfl, hlc, hcm⟩ := h.len
    unfold maxLen at hcm
    have hne : ((l.length : Int) == 2) = false := by simp; omega
    clear h h2
    go_enter Try.func32, Try.ntmps32
    go_wp2
    go_ret
    exact ⟨rfl, Below.refl _ _⟩
theorem traceOk_impl (v : Value) (l : List M3) (w : World) (h : SlF fE w v l) : Calls Try.prog 33 #[v] w fun e w' => e = .returned (.bool (fewEv l)) ∧ Below w.heap.size w w' := by
  obtain ⟨a, c, rfl, -, hlc, hcm, -⟩ := h
  unfold maxLen at hcm
  have HR : Hid (fewEv l = decide ((l.length : Int) ≤ 3000)) := show _ = _ by unfold fewEv; congr 1; simp; omega
  rw [HR.out]
  go_enter Try.func33, Try.ntmps33
  go_wp2
  go_ret
  exact ⟨rfl, Below.refl _ _⟩
theorem pairOk_impl (v : Value) (p : Pr) (w : World) (h : PSl w v p) : Calls Try.prog 8 #[v] w fun e w' => e = .returned (.bool p.ok) ∧ Below w.heap.size w w' := by
  obtain ⟨x, y, z, hv, h1, h2, h3⟩ := h
  have o1 := h1.one
  have o2 := h2.one
  have o3 := h3.one
  obtain ⟨r, HR⟩ : ∃ r, Hid (p.ok = r) := ⟨_, show _ = _ from rfl⟩
  rw [HR.out]
  unfold Pr.ok at HR
  obtain ⟨f1, hf1⟩ : ∃ f1, f1 = fnv 29 := ⟨_, rfl⟩
  cases c1 : both Mc.ok p.ms
  · have HE : Hid (r = false) := show _ = _ by rw [← HR.out, c1]; rfl
    go_enter Try.func8, Try.ntmps8
    go_wp2_with (first
      | (refine box3 rfl rfl hv o1 o2 o3 sz_ip ?_; intro w0 r0 hB0; have k0 := r0.cell 0; have k1 := r0.cell 1; have k2 := r0.cell 2)
      | (go_at_call 28; refine (bothMcs_impl 29 Try.func29 (by kernel_rfl) (by kernel_rfl) Mc.ok (fun u m w h => machineOk_impl u m w h) _ _ _ (h1.below stays_mc hB0)).mono ?_; rintro e w1 ⟨rfl, hb1⟩; rw [c1]))
    go_ret
    exact ⟨by rw [HE.out]; rfl, below_more hB0 hb1⟩
  cases c2 : both inboxOk p.is
  · have HE : Hid (r = false) := show _ = _ by rw [← HR.out, c1, c2]; rfl
    go_enter Try.func8, Try.ntmps8
    go_wp2_with (first
      | (refine box3 rfl rfl hv o1 o2 o3 sz_ip ?_; intro w0 r0 hB0; have k0 := r0.cell 0; have k1 := r0.cell 1; have k2 := r0.cell 2)
      | (go_at_call 28; refine (bothMcs_impl 29 Try.func29 (by kernel_rfl) (by kernel_rfl) Mc.ok (fun u m w h => machineOk_impl u m w h) _ _ _ (h1.below stays_mc hB0)).mono ?_; rintro e w1 ⟨rfl, hb1⟩; rw [c1]; have r1 := r0.below hb1; have k1' := r1.cell 1; have k2' := r1.cell 2; have hB1 := below_more hB0 hb1)
      | (go_at_call 30; refine (bothMss_impl 31 Try.func31 (by kernel_rfl) (by kernel_rfl) inboxOk (fun u m w h => inboxOk_impl u m w h) _ _ _ (h2.below stays_sl hB1)).mono ?_; rintro e w2 ⟨rfl, hb2⟩; rw [c2]))
    go_ret
    exact ⟨by rw [HE.out]; rfl, below_more hB1 hb2⟩
  · obtain ⟨q, c3⟩ : ∃ q, both fewEv p.ts = q := ⟨_, rfl⟩
    have HE : Hid (r = q) := show _ = _ by rw [← HR.out, c1, c2, c3]; rfl
    go_enter Try.func8, Try.ntmps8
    go_wp2_with (first
      | (refine box3 rfl rfl hv o1 o2 o3 sz_ip ?_; intro w0 r0 hB0; have k0 := r0.cell 0; have k1 := r0.cell 1; have k2 := r0.cell 2)
      | (go_at_call 28; refine (bothMcs_impl 29 Try.func29 (by kernel_rfl) (by kernel_rfl) Mc.ok (fun u m w h => machineOk_impl u m w h) _ _ _ (h1.below stays_mc hB0)).mono ?_; rintro e w1 ⟨rfl, hb1⟩; rw [c1]; have r1 := r0.below hb1; have k1' := r1.cell 1; have k2' := r1.cell 2; have hB1 := below_more hB0 hb1)
      | (go_at_call 30; refine (bothMss_impl 31 Try.func31 (by kernel_rfl) (by kernel_rfl) inboxOk (fun u m w h => inboxOk_impl u m w h) _ _ _ (h2.below stays_sl hB1)).mono ?_; rintro e w2 ⟨rfl, hb2⟩; rw [c2]; have r2 := r1.below hb2; have k2'' := r2.cell 2; have hB2 := below_more hB1 hb2)
      | (go_at_call 32; refine (bothEss_impl 33 Try.func33 (by kernel_rfl) (by kernel_rfl) fewEv (fun u m w h => traceOk_impl u m w h) _ _ _ (h3.below stays_sl hB2)).mono ?_; rintro e w3 ⟨rfl, hb3⟩; rw [c3]))
    go_ret
    exact ⟨by rw [HE.out]; rfl, below_more hB2 hb3⟩
theorem ok_two (m0 m1 : Mc) (i0 i1 t0 t1 : List M3) : Pr.ok ⟨[m0, m1], [i0, i1], [t0, t1]⟩ = (m0.ok && m1.ok && (inboxOk i0 && inboxOk i1) && (fewEv t0 && fewEv t1)) := by simp [Pr.ok, both]
set_option maxHeartbeats 1000000 in
theorem l11Pair_spec (x y z : Value) (p : Pr) (w : World) (h1 : NsF fIMc MSl w x p.ms) (h2 : NsF fIMs (SlF fM) w y p.is) (h3 : NsF fIEv (SlF fE) w z p.ts) :
    Calls Try.prog 24 #[x, y, z] w fun e w' => e = .returned (.bool p.ok) ∧ Below w.heap.size w w' := by
  obtain ⟨ms, is, ts⟩ := p
  simp only at h1 h2 h3
  obtain ⟨r, HR⟩ : ∃ r, Hid (Pr.ok ⟨ms, is, ts⟩ = r) := ⟨_, show _ = _ from rfl⟩
  rw [HR.out]
  have H1 : Hid (NsF fIMc MSl w x ms) := h1
  have H2 : Hid (NsF fIMs (SlF fM) w y is) := h2
  have H3 : Hid (NsF fIEv (SlF fE) w z ts) := h3
  obtain ⟨a1, c1, rfl, b1, d1⟩ := h1.len
  obtain ⟨a2, c2, rfl, b2, d2⟩ := h2.len
  obtain ⟨a3, c3, rfl, b3, d3⟩ := h3.len
  unfold maxLen at d1 d2 d3
  clear h1 h2 h3
  by_cases n1 : ¬ ms.length = 2
  · have HE : Hid (r = false) := show _ = _ by rw [← HR.out]; simp [Pr.ok, both, n1]
    have e1 : ((ms.length : Int) != 2) = true := by simp; omega
    clear n1 HR H1 H2 H3
    go_enter Try.func24, Try.ntmps24
    go_wp2
    go_ret
    exact ⟨by rw [HE.out]; rfl, Below.refl _ _⟩
  have n1 := Decidable.not_not.1 n1
  have e1 : ((ms.length : Int) != 2) = false := by simp; omega
  by_cases n2 : ¬ is.length = 2
  · have HE : Hid (r = false) := show _ = _ by rw [← HR.out]; simp [Pr.ok, both, n2]
    have e2 : ((is.length : Int) != 2) = true := by simp; omega
    clear n1 n2 HR H1 H2 H3
    go_enter Try.func24, Try.ntmps24
    go_wp2
    go_ret
    exact ⟨by rw [HE.out]; rfl, Below.refl _ _⟩
  have n2 := Decidable.not_not.1 n2
  have e2 : ((is.length : Int) != 2) = false := by simp; omega
  by_cases n3 : ¬ ts.length = 2
  · have HE : Hid (r = false) := show _ = _ by rw [← HR.out]; simp [Pr.ok, both, n3]
    have e3 : ((ts.length : Int) != 2) = true := by simp; omega
    clear n1 n2 n3 HR H1 H2 H3
    go_enter Try.func24, Try.ntmps24
    go_wp2
    go_ret
    exact ⟨by rw [HE.out]; rfl, Below.refl _ _⟩
  have n3 := Decidable.not_not.1 n3
  have e3 : ((ts.length : Int) != 2) = false := by simp; omega
  obtain ⟨m0, m1, rfl⟩ := two_of n1
  obtain ⟨i0, i1, rfl⟩ := two_of n2
  obtain ⟨t0, t1, rfl⟩ := two_of n3
  rw [ok_two] at HR
  clear n1 n2 n3
  show Calls Try.prog 24 #[.slice a1 2 c1, .slice a2 2 c2, .slice a3 2 c3] w _
  have H1 : Hid (NsF fIMc MSl w (.slice a1 2 c1) [m0, m1]) := H1
  have H2 : Hid (NsF fIMs (SlF fM) w (.slice a2 2 c2) [i0, i1]) := H2
  have H3 : Hid (NsF fIEv (SlF fE) w (.slice a3 2 c3) [t0, t1]) := H3
  clear e1 e2 e3
  go_enter Try.func24, Try.ntmps24
  go_wp2_with fail
  go_loopw [7] (fun i wr => ∃ k : Nat, k ≤ 2 ∧ i = .int .i64 k ∧ (∀ j, j < k → ∀ m i t, [m0, m1][j]? = some m → [i0, i1][j]? = some i → [t0, t1][j]? = some t → m.ok = true ∧ inboxOk i = true ∧ fewEv t = true) ∧ Below w.heap.size w wr) (fun i _ => 2 - (intOf i).toNat)
  case atStart => exact ⟨0, Nat.zero_le _, rfl, fun j hj => by omega, Below.refl _ _⟩
  case round =>
    obtain ⟨k, hk, rfl, hall, hbw⟩ := hrel
    have HB : Hid (Below w.heap.size w wr) := hbw
    have HA : Hid (∀ j, j < k → ∀ m i t, [m0, m1][j]? = some m → [i0, i1][j]? = some i → [t0, t1][j]? = some t → m.ok = true ∧ inboxOk i = true ∧ fewEv t = true) := hall
    clear hall
    by_cases hlt : k < 2
    · obtain ⟨us, sl1, al1⟩ := H1.out.below stays_mc hbw
      obtain ⟨vs, sl2, al2⟩ := H2.out.below stays_sl hbw
      obtain ⟨ws, sl3, al3⟩ := H3.out.below stays_sl hbw
      obtain ⟨bb1, o1, x1, e, -, -, -⟩ := sl1.shape (by rw [al1.1]; simp)
      simp only [Value.slice.injEq] at e
      obtain ⟨rfl, -, rfl⟩ := e
      obtain ⟨bb2, o2, x2, e, -, -, -⟩ := sl2.shape (by rw [al2.1]; simp)
      simp only [Value.slice.injEq] at e
      obtain ⟨rfl, -, rfl⟩ := e
      obtain ⟨bb3, o3, x3, e, -, -, -⟩ := sl3.shape (by rw [al3.1]; simp)
      simp only [Value.slice.injEq] at e
      obtain ⟨rfl, -, rfl⟩ := e
      obtain ⟨u, m, hu, hm, r1⟩ := al1.get (i := k) (by simpa using hlt)
      obtain ⟨v, i, hv, hi, r2⟩ := al2.get (i := k) (by simpa using hlt)
      obtain ⟨s, t, hs, ht, r3⟩ := al3.get (i := k) (by simpa using hlt)
      have V1 : fIMc.V u = u := fit_mc _ _ _ r1
      have V2 : fIMs.V v = v := fit_sl _ _ _ r2
      have V3 : fIEv.V s = s := fit_sl _ _ _ r3
      have g1 : wr.rangeAt bb1 (o1 + k * 25) (fIMc.F u) := sl1.range okIMc hu
      have S2 : Hid (∀ w', Below wr.heap.size wr w' → w'.rangeAt bb2 (o2 + k * 1) (fIMs.F v) ∧ SlF fM w' v i) := show ∀ _, _ from fun w' hb => ⟨(sl2.below hb).range okIMs hv, r2.below hb⟩
      have S3 : Hid (∀ w', Below wr.heap.size wr w' → w'.rangeAt bb3 (o3 + k * 1) (fIEv.F s) ∧ SlF fE w' s t) := show ∀ _, _ from fun w' hb => ⟨(sl3.below hb).range okIEv hs, r3.below hb⟩
      have HT : Hid (r = true → m.ok = true ∧ inboxOk i = true ∧ fewEv t = true) := show _ → _ from fun hr => by
        have h := HR.out.trans hr
        simp only [Bool.and_eq_true] at h
        have : k = 0 ∨ k = 1 := by omega
        rcases this with rfl | rfl <;> simp at hm hi ht <;> subst hm hi ht
        · exact ⟨h.1.1.1, h.1.2.1, h.2.1⟩
        · exact ⟨h.1.1.2, h.1.2.2, h.2.2⟩
      have HN : Hid ((m.ok = true ∧ inboxOk i = true ∧ fewEv t = true) → ∀ j, j < k + 1 → ∀ m i t, [m0, m1][j]? = some m → [i0, i1][j]? = some i → [t0, t1][j]? = some t → m.ok = true ∧ inboxOk i = true ∧ fewEv t = true) := show _ → _ from fun hg j hj m' i' t' q1 q2 q3 => by
        by_cases e : j = k
        · subst e
          rw [hm] at q1; rw [hi] at q2; rw [ht] at q3
          cases q1; cases q2; cases q3
          exact hg
        · exact HA.out j (by omega) m' i' t' q1 q2 q3
      clear sl1 al1 sl2 al2 sl3 al3 hu hm hv hi hs ht r2 hbw
      obtain ⟨a4, c4, hs4, -, hl4, hm4, -⟩ := r3
      unfold maxLen at hm4
      cases q1 : m.ok
      · have HE : Hid (r = false) := show _ = _ by
          cases hr : r
          · rfl
          · have := (HT.out hr).1; rw [q1] at this; cases this
        go_wp2_with (first
          | (refine ixF okIMc (r := k) rfl rfl rfl rfl hlt ?_)
          | (refine elN okIMc rfl rfl rfl g1 V1 ?_)
          | (go_at_call 54; refine (machineOk_spec u m _ r1).mono ?_; rintro e w1 ⟨rfl, hb1⟩; rw [q1]))
        go_ret
        exact ⟨by rw [HE.out]; rfl, below_more HB.out hb1⟩
      cases q2 : inboxOk i
      · have HE : Hid (r = false) := show _ = _ by
          cases hr : r
          · rfl
          · have := (HT.out hr).2.1; rw [q2] at this; cases this
        go_wp2_with (first
          | (refine ixF okIMc (r := k) rfl rfl rfl rfl hlt ?_)
          | (refine elN okIMc rfl rfl rfl g1 V1 ?_)
          | (go_at_call 54; refine (machineOk_spec u m _ r1).mono ?_; rintro e w1 ⟨rfl, hb1⟩; rw [q1]; have g2 := (S2.out _ hb1).1; have r2 := (S2.out _ hb1).2)
          | (refine ixFg okIMs (r := k) rfl rfl rfl rfl hlt ?_)
          | (refine elNg okIMs rfl rfl rfl g2 V2 ?_)
          | (go_at_call 55; refine (inboxOk_spec v i _ r2).mono ?_; rintro e w2 ⟨rfl, hb2⟩; rw [q2]))
        go_ret
        exact ⟨by rw [HE.out]; rfl, below_more HB.out (below_more hb1 hb2)⟩
      by_cases q3 : t.length ≤ 3000
      · have q3' : ¬ (3000 : Int) < (t.length : Int) := by omega
        go_wp2_with (first
          | (refine ixF okIMc (r := k) rfl rfl rfl rfl hlt ?_)
          | (refine elN okIMc rfl rfl rfl g1 V1 ?_)
          | (go_at_call 54; refine (machineOk_spec u m _ r1).mono ?_; rintro e w1 ⟨rfl, hb1⟩; rw [q1]; have g2 := (S2.out _ hb1).1; have r2 := (S2.out _ hb1).2)
          | (refine ixFg okIMs (r := k) rfl rfl rfl rfl hlt ?_)
          | (refine elNg okIMs rfl rfl rfl g2 V2 ?_)
          | (go_at_call 55; refine (inboxOk_spec v i _ r2).mono ?_; rintro e w2 ⟨rfl, hb2⟩; rw [q2]; have g3 := (S3.out _ (below_more hb1 hb2)).1)
          | (refine ixFg okIEv (r := k) rfl rfl rfl rfl hlt ?_)
          | (refine elNg okIEv rfl rfl rfl g3 V3 ?_; rw [hs4]))
        go_roundw
        case rel => exact ⟨k + 1, by omega, by go_num, HN.out ⟨q1, q2, by unfold fewEv; simpa using q3⟩, below_more HB.out (below_more hb1 hb2)⟩
        case measure => simp [intOf]; omega
      · have q3' : (3000 : Int) < (t.length : Int) := by omega
        have HE : Hid (r = false) := show _ = _ by
          cases hr : r
          · rfl
          · have := (HT.out hr).2.2; unfold fewEv at this; exact absurd (of_decide_eq_true this) q3
        go_wp2_with (first
          | (refine ixF okIMc (r := k) rfl rfl rfl rfl hlt ?_)
          | (refine elN okIMc rfl rfl rfl g1 V1 ?_)
          | (go_at_call 54; refine (machineOk_spec u m _ r1).mono ?_; rintro e w1 ⟨rfl, hb1⟩; rw [q1]; have g2 := (S2.out _ hb1).1; have r2 := (S2.out _ hb1).2)
          | (refine ixFg okIMs (r := k) rfl rfl rfl rfl hlt ?_)
          | (refine elNg okIMs rfl rfl rfl g2 V2 ?_)
          | (go_at_call 55; refine (inboxOk_spec v i _ r2).mono ?_; rintro e w2 ⟨rfl, hb2⟩; rw [q2]; have g3 := (S3.out _ (below_more hb1 hb2)).1)
          | (refine ixFg okIEv (r := k) rfl rfl rfl rfl hlt ?_)
          | (refine elNg okIEv rfl rfl rfl g3 V3 ?_; rw [hs4]))
        go_ret
        exact ⟨by rw [HE.out]; rfl, below_more HB.out (below_more hb1 hb2)⟩
    · have e : k = 2 := by omega
      subst e
      have HE : Hid (r = true) := show _ = _ by
        have h0 := HA.out 0 (by omega) m0 i0 t0 rfl rfl rfl
        have h1 := HA.out 1 (by omega) m1 i1 t1 rfl rfl rfl
        rw [← HR.out, h0.1, h0.2.1, h0.2.2, h1.1, h1.2.1, h1.2.2]
        rfl
      clear hbw
      go_wp2
      go_ret
      exact ⟨by rw [HE.out]; rfl, HB.out⟩
theorem pairOk_spec (v : Value) (p : Pr) (w : World) (h : PSl w v p) : Calls Try.prog 6 #[v] w fun e w' => e = .returned (.bool p.ok) ∧ Below w.heap.size w w' := by
  obtain ⟨x, y, z, hv, h1, h2, h3⟩ := h
  have o1 := h1.one
  have o2 := h2.one
  have o3 := h3.one
  go_enter Try.func6, Try.ntmps6
  go_wp2_with (first
    | (refine box3 rfl rfl hv o1 o2 o3 sz_ip ?_; intro w0 r0 hB0; have k0 := r0.cell 0; have k1 := r0.cell 1; have k2 := r0.cell 2)
    | (go_at_call 24; refine (l11Pair_spec _ _ _ p _ (h1.below stays_mc hB0) (h2.below stays_sl hB0) (h3.below stays_sl hB0)).mono ?_; rintro e w1 ⟨rfl, hb1⟩))
  go_ret
  exact ⟨rfl, below_more hB0 hb1⟩
end Go.Proofs.Ytjjafaikaghlgaa.Mem
