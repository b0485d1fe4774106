/-
  Slices whose elements are slices or structs that hold slices: the elements' own values (raw) lie as Slf has it; what each reads as is told besides.
-/
import Derived.Test.YtjjafaikaghlgaaMsg
import Derived.Test.YtjjafaikaghlgaaMc
import Derived.Deep.MidRow
namespace Go.Proofs.Ytjjafaikaghlgaa.Mem
open Go.ChangeShapes Go.WideShapes Go.RowKit Base Num Slc Slf Rw Tmr Reg
set_option linter.unusedVariables false
set_option linter.unusedSimpArgs false
set_option maxRecDepth 20000

def aggN (n : Nat) : Value → Bool
  | .agg cs => decide (cs.size = n) && cs.toList.all (·.oneCell')
  | _ => false
def isSl : Value → Bool
  | .slice _ _ _ => true
  | _ => false
def nrm (p : Value → Bool) (z v : Value) : Value := bif p v then v else z
theorem nrm_ok {p : Value → Bool} {z : Value} (hz : p z = true) (v : Value) : p (nrm p z v) = true := by
  unfold nrm
  cases h : p v
  · exact hz
  · exact h
theorem nrm_of {p : Value → Bool} {z v : Value} (h : p v = true) : nrm p z v = v := by unfold nrm; rw [h]; rfl
theorem aggN_parts {n : Nat} {v : Value} (h : aggN n v = true) : ∃ cs, v = .agg cs ∧ cs.size = n ∧ cs.toList.all (·.oneCell') = true := by
  cases v <;> simp only [aggN, Bool.false_eq_true] at h
  case agg cs =>
    simp only [Bool.and_eq_true, decide_eq_true_eq] at h
    exact ⟨cs, rfl, h.1, h.2⟩
theorem isSl_parts {v : Value} (h : isSl v = true) : ∃ a n c, v = .slice a n c := by
  cases v <;> simp only [isSl, Bool.false_eq_true] at h
  exact ⟨_, _, _, rfl⟩
/-- Elements of n cells that are structs. -/
def fA (T S : TypeId) (n bytes : Nat) (z : Value) : Fl Value := ⟨T, S, n, bytes, fun v => (nrm (aggN n) z v).cells.toList, z, nrm (aggN n) z⟩
/-- Elements that are slices. -/
def fS (T S : TypeId) : Fl Value := ⟨T, S, 1, 24, fun v => (nrm isSl (.slice none 0 0) v).cells.toList, .slice none 0 0, nrm isSl (.slice none 0 0)⟩
theorem okA {T S : TypeId} {n bytes : Nat} {z : Value} {d : TypeDesc} (hz : aggN n z = true) (hn : 0 < n) (hu : Try.prog.underlying S = some (.slice T)) (hi : (Try.prog.info? T).map (fun i => (i.zero, i.size, i.bytes)) = some (some z, n, bytes)) (hb : bytes ≤ 512) (hs : n ≤ 64)
    (hT : Try.prog.underlying T = some d) (hd : d.isRow = true) : (fA T S n bytes z).Ok := by
  have key : ∀ v, ∃ cs, nrm (aggN n) z v = .agg cs ∧ cs.size = n ∧ cs.toList.all (·.oneCell') = true := fun v => aggN_parts (nrm_ok hz v)
  refine ⟨fun v => ?_, hn, fun v => ?_, hu, ?_, hb, hs, fun v => ?_, fun v w b q h => ?_⟩
  · obtain ⟨cs, e, h1, h2⟩ := key v
    show (nrm (aggN n) z v).cells.toList.length = n
    rw [e]; simpa [Value.cells] using h1
  · obtain ⟨cs, e, h1, h2⟩ := key v
    show (nrm (aggN n) z v).cells.toList.all (·.oneCell') = true
    rw [e]; exact h2
  · show _ = some (some (nrm (aggN n) z z), n, bytes)
    rw [nrm_of hz]; exact hi
  · show (nrm (aggN n) z v).cells = (nrm (aggN n) z v).cells.toList.toArray
    simp
  · obtain ⟨cs, e, h1, h2⟩ := key v
    have h' : w.rangeAt b q (nrm (aggN n) z v).cells.toList := h
    show (loadVar T ⟨b, q, none⟩).run Try.prog w = Result.ok (nrm (aggN n) z v) w
    rw [e] at h' ⊢
    have hsz : (Try.prog.info? T).map (·.size) = some cs.toList.length := by
      obtain ⟨i0, hi0, hz0, hz1, hz2⟩ := info_parts hi
      rw [hi0]; simp [hz1, h1]
    have := run_loadVar_mid w b q T cs.toList d h' hT hd hsz
    simpa using this
theorem okS {T S : TypeId} {d : TypeDesc} (hu : Try.prog.underlying S = some (.slice T)) (hi : (Try.prog.info? T).map (fun i => (i.zero, i.size, i.bytes)) = some (some (.slice none 0 0), 1, 24)) (hT : Try.prog.underlying T = some d) (hd : d.isRow = false) : (fS T S).Ok := by
  have key : ∀ v, ∃ a n c, nrm isSl (.slice none 0 0) v = .slice a n c := fun v => isSl_parts (nrm_ok rfl v)
  refine ⟨fun v => ?_, Nat.one_pos, fun v => ?_, hu, hi, show 24 ≤ 512 by decide, show 1 ≤ 64 by decide, fun v => ?_, fun v w b q h => ?_⟩
  · obtain ⟨a, n, c, e⟩ := key v
    show (nrm isSl (.slice none 0 0) v).cells.toList.length = 1
    rw [e]; rfl
  · obtain ⟨a, n, c, e⟩ := key v
    show (nrm isSl (.slice none 0 0) v).cells.toList.all (·.oneCell') = true
    rw [e]; rfl
  · show (nrm isSl (.slice none 0 0) v).cells = (nrm isSl (.slice none 0 0) v).cells.toList.toArray
    simp
  · obtain ⟨a, n, c, e⟩ := key v
    have h' : w.rangeAt b q (nrm isSl (.slice none 0 0) v).cells.toList := h
    show (loadVar T ⟨b, q, none⟩).run Try.prog w = Result.ok (nrm isSl (.slice none 0 0) v) w
    rw [e] at h' ⊢
    have hc : w.cell? ⟨b, q, none⟩ = some (.slice a n c) := h' 0 _ rfl
    cases d <;> first | (simp [TypeDesc.isRow] at hd; done) | simp [loadVar, isAgg, run_underlying hT, run_load, hc]
/-- Each element reads as the list's. -/
def All2 {α : Type} (R : Value → α → Prop) (us : List Value) (l : List α) : Prop := us.length = l.length ∧ ∀ (i : Nat) (u : Value) (x : α), us[i]? = some u → l[i]? = some x → R u x
section
variable {α : Type} {R R' : Value → α → Prop} {us : List Value} {l : List α}
theorem All2.nil : All2 R [] [] := ⟨rfl, fun i u x h => by simp at h⟩
theorem All2.imp (h : All2 R us l) (f : ∀ u x, u ∈ us → x ∈ l → R u x → R' u x) : All2 R' us l := ⟨h.1, fun i u x h1 h2 => f u x (List.mem_of_getElem? h1) (List.mem_of_getElem? h2) (h.2 i u x h1 h2)⟩
theorem All2.snoc {u : Value} {x : α} (h : All2 R us l) (hu : R u x) : All2 R (us ++ [u]) (l ++ [x]) := by
  refine ⟨by simp [h.1], fun i v y h1 h2 => ?_⟩
  by_cases hi : i < us.length
  · rw [List.getElem?_append_left hi] at h1
    rw [List.getElem?_append_left (by rw [← h.1]; exact hi)] at h2
    exact h.2 i v y h1 h2
  · rw [List.getElem?_append_right (by omega)] at h1
    rw [List.getElem?_append_right (by rw [← h.1]; omega), ← h.1] at h2
    cases hj : i - us.length with
    | zero =>
      rw [hj] at h1 h2
      simp at h1 h2
      subst h1 h2
      exact hu
    | succ n => rw [hj] at h1; simp at h1
theorem All2.take (h : All2 R us l) (k : Nat) : All2 R (us.take k) (l.take k) := by
  refine ⟨by simp [h.1], fun i v y h1 h2 => ?_⟩
  rw [List.getElem?_take] at h1 h2
  by_cases hi : i < k
  · rw [if_pos hi] at h1 h2
    exact h.2 i v y h1 h2
  · rw [if_neg hi] at h1; cases h1
theorem All2.get (h : All2 R us l) {i : Nat} (hi : i < l.length) : ∃ u x, us[i]? = some u ∧ l[i]? = some x ∧ R u x := by
  have hu : i < us.length := by rw [h.1]; exact hi
  exact ⟨us[i], l[i], List.getElem?_eq_getElem hu, List.getElem?_eq_getElem hi, h.2 i _ _ (List.getElem?_eq_getElem hu) (List.getElem?_eq_getElem hi)⟩
end
/-- The slice value v reads, element by element by R, as the list l. -/
def NsF {α : Type} (f : Fl Value) (R : World → Value → α → Prop) (w : World) (v : Value) (l : List α) : Prop := ∃ us, SlF f w v us ∧ All2 (R w) us l
/-- A kind of reading that bears a call. -/
def Stays {α : Type} (R : World → Value → α → Prop) : Prop := ∀ w w' v x, R w v x → Below w.heap.size w w' → R w' v x
section
variable {α : Type} {f : Fl Value} {R : World → Value → α → Prop} {w w' : World} {v : Value} {l : List α}
theorem NsF.below (h : NsF f R w v l) (hR : Stays R) (hb : Below w.heap.size w w') : NsF f R w' v l := by
  obtain ⟨us, h1, h2⟩ := h
  exact ⟨us, h1.below hb, h2.imp fun u x _ _ h => hR _ _ _ _ h hb⟩
theorem NsF.len (h : NsF f R w v l) : ∃ a cap, v = .slice a l.length cap ∧ l.length ≤ cap ∧ cap ≤ maxLen := by
  obtain ⟨us, ⟨a, cap, rfl, h1, h2, h3, h4⟩, h5, h6⟩ := h
  rw [h5] at h2
  exact ⟨a, cap, by rw [h5], h2, h3⟩
theorem NsF.shape (h : NsF f R w v l) (h0 : 0 < l.length) : ∃ b off c, v = .slice (some ⟨b, off, none⟩) l.length c ∧ b < w.heap.size ∧ l.length ≤ c ∧ c ≤ maxLen := by
  obtain ⟨us, h1, h5, h6⟩ := h
  obtain ⟨b, off, c, e, h2, h3, h4⟩ := h1.shape (by omega)
  exact ⟨b, off, c, by rw [e, h5], h2, by omega, h4⟩
theorem stays_sl {f : Fl M3} : Stays (SlF f) := fun _ _ _ _ h hb => h.below hb
theorem stays_mc : Stays MSl := fun _ _ _ _ h hb => h.below hb
end
theorem cells_set (b : Nat) {base : Nat} {e : TypeId} {size n cap : Nat} : ∀ (vs : List Value) (k : Nat) (w : World) (xs : List Value), w.ownsRow base e size (.slice (some ⟨b, 0, none⟩) n cap) n xs → k + vs.length ≤ xs.length →
    ∃ ys, (w.setCells b k vs).ownsRow base e size (.slice (some ⟨b, 0, none⟩) n cap) n ys ∧ w.grownBy (w.setCells b k vs) (some b) ∧ ys.length = xs.length ∧ ∀ j, ys[j]? = if k ≤ j ∧ j < k + vs.length then vs[j - k]? else xs[j]?
  | [], k, w, xs, h, _ => ⟨xs, h, World.grownBy.refl _ _, rfl, fun j => by rw [if_neg (by rintro ⟨h1, h2⟩; simp only [List.length_nil] at h2; omega)]⟩
  | v :: vs, k, w, xs, h, hk => by
    simp only [List.length_cons] at hk
    have h1 := World.ownsRow.stored h k v
    obtain ⟨ys, h2, h3, h4, h5⟩ := cells_set b vs (k + 1) (w.setCell ⟨b, k, none⟩ v) (xs.set k v) h1.1 (by simp; omega)
    rw [List.length_set] at h4
    refine ⟨ys, h2, grown_trans h1.2 h3, h4, fun j => ?_⟩
    rw [h5 j]
    by_cases hj : k + 1 ≤ j ∧ j < k + 1 + vs.length
    · rw [if_pos hj, if_pos (by simp only [List.length_cons]; omega)]
      obtain ⟨q, rfl⟩ : ∃ q, j = k + 1 + q := ⟨j - (k + 1), by omega⟩
      rw [show k + 1 + q - (k + 1) = q by omega, show k + 1 + q - k = q + 1 by omega, List.getElem?_cons_succ]
    · rw [if_neg hj]
      by_cases e : j = k
      · subst e
        rw [if_pos (by simp only [List.length_cons]; omega), List.getElem?_set_self (by omega), Nat.sub_self]
        rfl
      · rw [if_neg (by simp only [List.length_cons]; omega), List.getElem?_set_ne (by omega)]
section
variable {f : Fl Value} {ops : Array Oper} {rest : List Oper} {o : Oper} {a : Act} {w : World} {Q : Exit → Act → World → Prop} {x y : Operand} {g base n cap i q : Nat} {l : List Value} {e e' : Value}
theorem store_flat (hf : f.Ok) (h : OwnF f base w (.slice (some ⟨g, 0, none⟩) n cap) l) (hi : l[i]? = some e) : OwnF f base (w.setCells g (i * f.n) (f.F e')) (.slice (some ⟨g, 0, none⟩) n cap) (l.set i e') ∧ w.grownBy (w.setCells g (i * f.n) (f.F e')) (some g) := by
  have hn : l.length = n := by
    obtain ⟨a, c, he, _⟩ := h.sl hf
    simp only [Value.slice.injEq] at he
    exact he.2.1.symm
  have hil : i < l.length := (List.getElem?_eq_some_iff.1 hi).1
  have hlen := hf.len e'
  subst hn
  obtain ⟨ys, h1, h2, h3, h4⟩ := cells_set g (f.F e') (i * f.n) w (f.flat l) h (by
    rw [hlen, flat_len hf]
    have : (i + 1) * f.n ≤ l.length * f.n := Nat.mul_le_mul_right _ hil
    rwa [Nat.add_mul, Nat.one_mul] at this)
  refine ⟨?_, h2⟩
  unfold OwnF
  rw [List.length_set]
  have : ys = f.flat (l.set i e') := by
    apply List.ext_getElem?
    intro j
    rw [h4 j]
    have hp := hf.pos
    by_cases hj : j < l.length * f.n
    · have e1 : j = j / f.n * f.n + j % f.n := by rw [Nat.mul_comm]; exact (Nat.div_add_mod j f.n).symm
      have e2 : j % f.n < f.n := Nat.mod_lt _ hp
      have e3 : j / f.n < l.length := by rw [Nat.div_lt_iff_lt_mul hp]; exact hj
      generalize j / f.n = r at e1 e3
      generalize j % f.n = s at e1 e2
      subst e1
      by_cases hr : r = i
      · subst hr
        rw [if_pos (by rw [hlen]; omega), show r * f.n + s - r * f.n = s by omega, flat_get hf (i := r) (x := e') (by simp [hil]) e2]
      · have hne : ¬ (i * f.n ≤ r * f.n + s ∧ r * f.n + s < i * f.n + (f.F e').length) := by
          rw [hlen]
          rintro ⟨h1, h2⟩
          rcases Nat.lt_or_gt_of_ne hr with h | h
          · have : (r + 1) * f.n ≤ i * f.n := Nat.mul_le_mul_right _ h
            rw [Nat.add_mul, Nat.one_mul] at this
            omega
          · have : (i + 1) * f.n ≤ r * f.n := Nat.mul_le_mul_right _ h
            rw [Nat.add_mul, Nat.one_mul] at this
            omega
        rw [if_neg hne, flat_get hf (i := r) (List.getElem?_eq_getElem e3) e2, flat_get hf (i := r) (x := l[r]) (by rw [List.getElem?_set_ne (by omega)]; exact List.getElem?_eq_getElem e3) e2]
    · have l1 : (f.flat l)[j]? = none := by rw [List.getElem?_eq_none_iff, flat_len hf]; omega
      have l2 : (f.flat (l.set i e'))[j]? = none := by rw [List.getElem?_eq_none_iff, flat_len hf, List.length_set]; omega
      have : ¬ (i * f.n ≤ j ∧ j < i * f.n + (f.F e').length) := by
        rw [hlen]
        rintro ⟨h1, h2⟩
        have : (i + 1) * f.n ≤ l.length * f.n := Nat.mul_le_mul_right _ hil
        rw [Nat.add_mul, Nat.one_mul] at this
        omega
      rw [if_neg this, l1, l2]
  rw [← this]
  exact h1
theorem own_there' (hf : f.Ok) (h : OwnF f base w (.slice (some ⟨g, 0, none⟩) n cap) l) (hi : l[i]? = some e) : w.there g (i * f.n) f.n := fun j hj => by
  have hc := h.cellAt hf hi hj
  have hfr := h.free (i * f.n + j)
  refine ⟨?_, hfr⟩
  rw [hc]
  have := hf.len e
  rw [List.getElem?_eq_getElem (by omega)]
  rfl
/-- An element goes into its place, whatever its kind. -/
theorem stN (hf : f.Ok) (hgd : o.guard = none) (ho : o.op = .store f.T x y) (hx : a.eval x = .pointer (some ⟨g, q, none⟩)) (hy : a.eval y = e') (hv : f.V e' = e') (hown : OwnF f base w (.slice (some ⟨g, 0, none⟩) n cap) l) (hi : l[i]? = some e) (hq : q = i * f.n)
    (h : ∀ w', OwnF f base w' (.slice (some ⟨g, 0, none⟩) n cap) (l.set i e') → w.grownBy w' (some g) → wpList Try.prog ops Q rest (a.put o.dst undef) w') : wpList Try.prog ops Q (o :: rest) a w :=
  wpList_plain hgd fun _ hK => by
    subst hq
    have ht : w.there g (i * f.n) (f.F e').length := by rw [hf.len]; exact own_there' hf hown hi
    have hs := store_flat (e' := e') hf hown hi
    have hc : e'.cells.toList = f.F e' := by rw [← hv, hf.val, hv]
    unfold Oper.wp execOp
    simp only [ho, hx, hy, Instr.storeAt, Instr.sureAddr, Sem.run_bind, Sem.run_pure, Result.andThen_ok, run_store_in (P := Try.prog) w g (i * f.n) f.T e' (f.F e') hc ht (size_info hf e') (hf.one e')]
    exact hK _ _ (h _ hs.1 hs.2)
end
section
variable {α : Type} {f : Fl Value} {R : World → Value → α → Prop} {ops : Array Oper} {rest : List Oper} {o : Oper} {A : Act} {w : World} {K : Act → World → Prop} {Q : Exit → Act → World → Prop} {x : Operand} {b q : Nat} {e : Value}
/-- What reads so is an element as it stands. -/
def Fit (f : Fl Value) (R : World → Value → α → Prop) : Prop := ∀ w u x, R w u x → f.V u = u
theorem elN (hf : f.Ok) (hgd : o.guard = none) (ho : o.op = .load f.T x) (hx : A.eval x = .pointer (some ⟨b, q, none⟩)) (hr : w.rangeAt b q (f.F e)) (hv : f.V e = e) (h : wpList Try.prog ops Q rest (A.put o.dst e) w) : wpList Try.prog ops Q (o :: rest) A w :=
  elF hf hgd ho hx hr (by rw [hv]; exact h)
theorem elN_op (hf : f.Ok) (ho : o.op = .load f.T x) (hx : A.eval x = .pointer (some ⟨b, q, none⟩)) (hr : w.rangeAt b q (f.F e)) (hv : f.V e = e) (h : K (A.put o.dst e) w) : o.wp Try.prog A w K Q :=
  elF_op hf ho hx hr (by rw [hv]; exact h)
end
theorem fit_sl {T S : TypeId} {f : Fl M3} : Fit (fS T S) (SlF f) := fun w u x h => by
  obtain ⟨a, c, rfl, _⟩ := h
  rfl
theorem mc_agg {w : World} {vr va : Value} {m : Mc} (h1 : Sl w vr m.rom) (h2 : Sl w va m.ram) : aggN 25 (m.val vr va) = true := by
  obtain ⟨a1, c1, rfl, _⟩ := h1
  obtain ⟨a2, c2, rfl, _⟩ := h2
  rfl
theorem fit_mc {T S : TypeId} {bytes : Nat} {z : Value} : Fit (fA T S 25 bytes z) MSl := fun w u x h => by
  obtain ⟨vr, va, rfl, h1, h2⟩ := h
  exact nrm_of (z := z) (mc_agg h1 h2)
/-- How much there is, against what is left. -/
def sub (left : Int) (n : Nat) : Int := if left < (n : Int) then -1 else left - n
def sm {α : Type} (size : α → Nat) (l : List α) : Nat := (l.map size).sum
def tot {α : Type} (size : α → Nat) (l : List α) : Nat := l.length + sm size l
section
variable {α : Type} {size : α → Nat} {l : List α}
theorem sm_take {k : Nat} {x : α} (h : l[k]? = some x) : sm size (l.take (k + 1)) = sm size (l.take k) + size x := by
  have hk : k < l.length := (List.getElem?_eq_some_iff.1 h).1
  have e : l[k] = x := by simpa [List.getElem?_eq_getElem hk] using h
  unfold sm
  rw [List.take_succ_eq_append_getElem hk, e]
  simp
theorem sm_le (k : Nat) : sm size (l.take k) ≤ sm size l := by
  unfold sm
  have : (l.map size).sum = ((l.take k).map size).sum + ((l.drop k).map size).sum := by
    rw [← List.sum_append, ← List.map_append, List.take_append_drop]
  omega
theorem size_le {x : α} (h : x ∈ l) : size x ≤ sm size l := by
  unfold sm
  induction l with
  | nil => simp at h
  | cons y l ih =>
    simp only [List.map_cons, List.sum_cons]
    rcases List.mem_cons.1 h with rfl | h
    · omega
    · have := ih h; omega
end
def Mc.len (m : Mc) : Nat := m.rom.length + m.ram.length
/-- The blocks that an element names. -/
def Bk (u : Value) (k : Nat) : Prop := ∃ c ∈ u.cells.toList, c.ownBlock = some k
/-- A kind of owning: what is one's own lies from base on, stays where nothing writes into its blocks. -/
structure Owns {α : Type} (O : Nat → World → Value → α → Prop) (R : World → Value → α → Prop) : Prop where
  lt : ∀ base w u x k, O base w u x → Bk u k → base ≤ k ∧ k < w.heap.size
  kept : ∀ base w w' u x, O base w u x → (∀ k, Bk u k → w'.heap[k]? = w.heap[k]?) → O base w' u x
  mono : ∀ base base' w u x, O base w u x → base' ≤ base → O base' w u x
  sl : ∀ base w u x, O base w u x → R w u x
theorem owns_sl {f : Fl M3} (hf : f.Ok) : Owns (OwnF f) (SlF f) where
  lt := fun base w u x k h ⟨c, hc, hk⟩ => by
    obtain ⟨a, cap, rfl, _⟩ := h.sl hf
    simp [Value.cells] at hc
    subst hc
    exact h.lt k hk
  kept := fun base w w' u x h hk => h.kept fun k he => hk k (by
    obtain ⟨a, cap, rfl, _⟩ := h.sl hf
    exact ⟨_, by simp [Value.cells], he⟩)
  mono := fun base base' w u x h hb => h.mono hb
  sl := fun base w u x h => h.sl hf
theorem owns_mc : Owns MOwn MSl where
  lt := fun base w u x k h ⟨c, hc, hk⟩ => by
    obtain ⟨vr, va, rfl, h1, h2, h3⟩ := h
    simp only [Mc.val, Mc.cells, Value.cells, List.mem_cons, List.not_mem_nil, or_false] at hc
    rcases hc with rfl | rfl | hc
    · exact h1.lt k hk
    · exact h2.lt k hk
    · exfalso
      rcases hc with rfl | rfl | rfl | rfl | rfl | rfl | rfl | rfl | rfl | rfl | rfl | rfl | rfl | rfl | rfl | rfl | rfl | rfl | rfl | rfl | rfl | rfl | rfl <;> simp [Value.ownBlock] at hk
  kept := fun base w w' u x h hk => by
    obtain ⟨vr, va, rfl, h1, h2, h3⟩ := h
    exact ⟨vr, va, rfl, h1.kept fun k he => hk k ⟨vr, by simp [Mc.val, Mc.cells, Value.cells], he⟩, h2.kept fun k he => hk k ⟨va, by simp [Mc.val, Mc.cells, Value.cells], he⟩, h3⟩
  mono := fun base base' w u x h hb => h.mono hb
  sl := fun base w u x h => h.sl
/-- A list of one's own whose elements are one's own. -/
def NoF {α : Type} (f : Fl Value) (O : Nat → World → Value → α → Prop) (base : Nat) (w : World) (v : Value) (l : List α) : Prop :=
  ∃ us, OwnF f base w v us ∧ All2 (O base w) us l ∧ ∀ u ∈ us, ∀ k, Bk u k → v.ownBlock ≠ some k
section
variable {α : Type} {f : Fl Value} {O : Nat → World → Value → α → Prop} {R : World → Value → α → Prop} {base : Nat} {w w' : World} {v : Value} {l : List α}
theorem NoF.ns (h : NoF f O base w v l) (hf : f.Ok) (ho : Owns O R) : NsF f R w v l := by
  obtain ⟨us, h1, h2, _⟩ := h
  exact ⟨us, h1.sl hf, h2.imp fun u x _ _ h => ho.sl _ _ _ _ h⟩
theorem NoF.below (h : NoF f O base w v l) (ho : Owns O R) (hb : Below w.heap.size w w') : NoF f O base w' v l := by
  obtain ⟨us, h1, h2, h3⟩ := h
  exact ⟨us, h1.below hb, h2.imp fun u x _ _ h => ho.kept _ _ _ _ _ h fun k hk => hb.block k (ho.lt _ _ _ _ _ h hk).2, h3⟩
theorem NoF.mono {base' : Nat} (h : NoF f O base w v l) (ho : Owns O R) (hb : base' ≤ base) : NoF f O base' w v l := by
  obtain ⟨us, h1, h2, h3⟩ := h
  exact ⟨us, h1.mono hb, h2.imp fun u x _ _ h => ho.mono _ _ _ _ _ h hb, h3⟩
end
theorem set_raw (us : List Value) (z v : Value) (n : Nat) (h : us.length < n) : (us ++ List.replicate (n - us.length) z).set us.length v = (us ++ [v]) ++ List.replicate (n - (us ++ [v]).length) z := by
  have e : n - us.length = (n - (us ++ [v]).length) + 1 := by simp; omega
  rw [e, List.replicate_succ, List.set_append_right _ _ (Nat.le_refl _), Nat.sub_self, List.set_cons_zero, List.append_assoc]
  rfl
end Go.Proofs.Ytjjafaikaghlgaa.Mem
