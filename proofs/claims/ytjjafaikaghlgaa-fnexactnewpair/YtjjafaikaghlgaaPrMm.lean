/-
  Marks in lists of machines: set, and found again.
-/
import Derived.Test.YtjjafaikaghlgaaPrMk
namespace Go.Proofs.Ytjjafaikaghlgaa.Mem
open Go.ChangeShapes Go.WideShapes Go.RowKit Base Num Slc Slf Rw Tmr Reg Ex
set_option linter.unusedVariables false
set_option linter.unusedSimpArgs false
set_option maxRecDepth 20000

/-- A list of one's own in a block of any type (an array's, too). -/
def OwnB {α : Type} (B : TypeId) (f : Fl α) (base : Nat) (w : World) (v : Value) (l : List α) : Prop := w.ownsRow base B f.n v l.length (f.flat l)
section
variable {α : Type} {B : TypeId} {f : Fl α} {w w' : World} {v : Value} {l : List α} {a : Option Addr} {base p : Nat} {row : Option Nat}
theorem OwnF.b (h : OwnF f base w v l) : OwnB f.T f base w v l := h
theorem OwnB.mono {base' : Nat} (h : OwnB B f base w v l) (hb : base' ≤ base) : OwnB B f base' w v l := by
  refine ⟨h.1, ?_⟩
  rcases h.2 with h0 | ⟨g, cap, cur, rfl, hb', rest⟩
  · exact .inl h0
  · exact .inr ⟨g, cap, cur, rfl, Nat.le_trans hb hb', rest⟩
theorem OwnB.kept (h : OwnB B f base w v l) (hk : ∀ k, v.ownBlock = some k → w'.heap[k]? = w.heap[k]?) : OwnB B f base w' v l := by
  refine ⟨h.1, ?_⟩
  rcases h.2 with h0 | ⟨g, cap, cur, rfl, hb, hg, rest⟩
  · exact .inl h0
  · exact .inr ⟨g, cap, cur, rfl, hb, by rw [hk g rfl]; exact hg, rest⟩
theorem OwnB.lt (h : OwnB B f base w v l) : ∀ k, v.ownBlock = some k → base ≤ k ∧ k < w.heap.size := World.ownsRow.lt h
theorem OwnB.below (h : OwnB B f base w v l) (hb : Below w.heap.size w w') : OwnB B f base w' v l := h.kept fun k hk => hb.block k (h.lt k hk).2
theorem OwnB.onto (h : OwnB B f base w v l) (ho : Onto p w w') (hp : v.ownBlock ≠ some p) : OwnB B f base w' v l :=
  h.kept fun k hk => ho.block k (fun e => hp (by rw [hk, e])) (h.lt k hk).2
theorem OwnB.grown (h : OwnB B f base w v l) (hg : w.grownBy w' row) (hr : ∀ k, row = some k → v.ownBlock ≠ some k) : OwnB B f base w' v l :=
  h.kept fun k hk => hg.block k (h.lt k hk).2 (fun e => hr k e.symm hk)
theorem OwnB.sl (hf : f.Ok) (h : OwnB B f base w v l) : SlF f w v l := by
  have hlt := h.lt
  rcases h.2 with ⟨rfl, h0⟩ | ⟨g, cap, cur, rfl, hb, hg, hn, hm, hcs, ht⟩
  · exact ⟨none, 0, by rw [h0], .inl h0, by omega, by decide, fun _ => ⟨h0, rfl⟩⟩
  · refine ⟨some ⟨g, 0, none⟩, cap, rfl, .inr ⟨g, 0, rfl, (hlt g rfl).2, fun k hk => ?_⟩, hn, hm, by simp⟩
    have hk' : k < (f.flat l).length := by rw [flat_len hf]; exact hk
    have := World.ownsRow.cells h (g := g) rfl k ((f.flat l)[k]) (List.getElem?_eq_getElem hk')
    have e : (⟨g, 0, none⟩ : Addr).add k = ⟨g, 0 + k, none⟩ := by
      by_cases hi0 : k = 0 <;> simp [Addr.add, hi0]
    rw [← e, this, List.getElem?_eq_getElem hk']
theorem OwnB.one (hf : f.Ok) (h : OwnB B f base w v l) : v.oneCell' = true := (h.sl hf).one
theorem OwnB.store (hf : f.Ok) {g n cap i j : Nat} {x x' : α} {u : Value} (h : OwnB B f base w (.slice (some ⟨g, 0, none⟩) n cap) l) (hi : l[i]? = some x) (hj : j < f.n) (hx : (f.F x).set j u = f.F x') :
    OwnB B f base (w.setCell ⟨g, i * f.n + j, none⟩ u) (.slice (some ⟨g, 0, none⟩) n cap) (l.set i x') ∧ w.grownBy (w.setCell ⟨g, i * f.n + j, none⟩ u) (some g) := by
  have hn : l.length = n := by
    rcases h.2 with ⟨e, _⟩ | ⟨g', cap', cur, e, _⟩
    · cases e
    · simp only [Value.slice.injEq] at e; exact e.2.1.symm
  subst hn
  have hs := World.ownsRow.stored h (i * f.n + j) u
  refine ⟨?_, hs.2⟩
  unfold OwnB
  rw [List.length_set, ← flat_set hf hi hj hx]
  exact hs.1
theorem OwnB.cellAt (hf : f.Ok) {g n cap i j : Nat} {x : α} (h : OwnB B f base w (.slice (some ⟨g, 0, none⟩) n cap) l) (hi : l[i]? = some x) (hj : j < f.n) : w.cell? ⟨g, i * f.n + j, none⟩ = (f.F x)[j]? := by
  obtain ⟨a, c, he, h1, _⟩ := h.sl hf
  simp only [Value.slice.injEq] at he
  obtain ⟨rfl, rfl, rfl⟩ := he
  have hil : i < l.length := (List.getElem?_eq_some_iff.1 hi).1
  rcases h1 with h0 | ⟨b, off, hb, _, hc⟩
  · omega
  · simp only [Option.some.injEq, Addr.mk.injEq] at hb
    obtain ⟨rfl, rfl, _⟩ := hb
    have hlt : i * f.n + j < l.length * f.n := by
      have : (i + 1) * f.n ≤ l.length * f.n := Nat.mul_le_mul_right _ hil
      rw [Nat.add_mul, Nat.one_mul] at this
      omega
    have := hc _ hlt
    rw [Nat.zero_add] at this
    rw [this, flat_get hf hi hj]
theorem OwnB.free {g n cap : Nat} (h : OwnB B f base w (.slice (some ⟨g, 0, none⟩) n cap) l) (j : Nat) : w.frozen? ⟨g, j, none⟩ = false := by
  have hn : l.length = n := by
    rcases h.2 with ⟨e, _⟩ | ⟨g', cap', cur, e, _⟩
    · cases e
    · simp only [Value.slice.injEq] at e; exact e.2.1.symm
  subst hn
  exact World.ownsRow.frozenAt h j
theorem own_thereB (hf : f.Ok) {g n cap i : Nat} {e : α} (h : OwnB B f base w (.slice (some ⟨g, 0, none⟩) n cap) l) (hi : l[i]? = some e) : w.there g (i * f.n) f.n := fun j hj => by
  have hc := h.cellAt hf hi hj
  have hfr := h.free (i * f.n + j)
  refine ⟨?_, hfr⟩
  rw [hc]
  have := hf.len e
  rw [List.getElem?_eq_getElem (by omega)]
  rfl
/-- One cell of an element is laid. -/
theorem stB (hf : f.Ok) {ops : Array Oper} {rest : List Oper} {o : Oper} {A : Act} {Q : Exit → Act → World → Prop} {x y : Operand} {ty : TypeId} {g n cap i j q : Nat} {e e' : α} {u : Value} (hgd : o.guard = none) (ho : o.op = .store ty x y) (hx : A.eval x = .pointer (some ⟨g, q, none⟩)) (hy : A.eval y = u) (hsz : (Try.prog.info? ty).map (·.size) = some 1)
    (hown : OwnB B f base w (.slice (some ⟨g, 0, none⟩) n cap) l) (hi : l[i]? = some e) (hq : q = i * f.n + j) (hj : j < f.n) (h1 : u.oneCell' = true) (hset : (f.F e).set j u = f.F e')
    (h : ∀ w', OwnB B f base w' (.slice (some ⟨g, 0, none⟩) n cap) (l.set i e') → w.grownBy w' (some g) → wpList Try.prog ops Q rest (A.put o.dst undef) w') : wpList Try.prog ops Q (o :: rest) A w :=
  wpList_plain hgd fun _ hK => by
    subst hq
    have ht : w.there g (i * f.n + j) [u].length := fun k hk => by
      have hk0 : k = 0 := by simpa using hk
      subst hk0
      exact own_thereB hf hown hi j hj
    have hs := hown.store hf hi hj hset
    unfold Oper.wp execOp
    simp only [ho, hx, hy, Instr.storeAt, Instr.sureAddr, Sem.run_bind, Sem.run_pure, Result.andThen_ok, run_store_in (P := Try.prog) w g (i * f.n + j) ty u [u] (cells_one h1) ht (by simpa using hsz) (by simp [h1])]
    exact hK _ _ (h _ hs.1 hs.2)
end
theorem sz_i : (Try.prog.info? 2).map (·.size) = some 1 := by kernel_rfl
theorem sz_b : (Try.prog.info? 4).map (·.size) = some 1 := by kernel_rfl
def b3 (q : Nat) : Bool := ((q : Int).tmod 3 == 0)
def Mc.mk0 (q : Nat) (M : Mc) : Mc := M
def Mc.mk1 (q : Nat) (M : Mc) : Mc := { Mc.mk0 q M with a := ((q + 0 : Nat) : Int) }
def Mc.mk2 (q : Nat) (M : Mc) : Mc := { Mc.mk1 q M with b := ((q + 1 : Nat) : Int) }
def Mc.mk3 (q : Nat) (M : Mc) : Mc := { Mc.mk2 q M with pc := ((q + 2 : Nat) : Int) }
def Mc.mk4 (q : Nat) (M : Mc) : Mc := { Mc.mk3 q M with sp := ((q + 3 : Nat) : Int) }
def Mc.mk5 (q : Nat) (M : Mc) : Mc := { Mc.mk4 q M with z := b3 (q + 4) }
def Mc.mk6 (q : Nat) (M : Mc) : Mc := { Mc.mk5 q M with c := b3 (q + 5) }
def Mc.mk7 (q : Nat) (M : Mc) : Mc := { Mc.mk6 q M with e := b3 (q + 6) }
def Mc.mk8 (q : Nat) (M : Mc) : Mc := { Mc.mk7 q M with h := b3 (q + 7) }
def Mc.mk9 (q : Nat) (M : Mc) : Mc := { Mc.mk8 q M with s := b3 (q + 8) }
def Mc.mk10 (q : Nat) (M : Mc) : Mc := { Mc.mk9 q M with fl := ((q + 9 : Nat) : Int) }
def Mc.mk11 (q : Nat) (M : Mc) : Mc := { Mc.mk10 q M with ms := ((q + 10 : Nat) : Int) }
def Mc.mk12 (q : Nat) (M : Mc) : Mc := { Mc.mk11 q M with ky := ((q + 11 : Nat) : Int) }
def Mc.mk13 (q : Nat) (M : Mc) : Mc := { Mc.mk12 q M with t := { (Mc.mk12 q M).t with c := ((q + 12 : Nat) : Int) } }
def Mc.mk14 (q : Nat) (M : Mc) : Mc := { Mc.mk13 q M with t := { (Mc.mk13 q M).t with v := ((q + 13 : Nat) : Int) } }
def Mc.mk15 (q : Nat) (M : Mc) : Mc := { Mc.mk14 q M with t := { (Mc.mk14 q M).t with s := ((q + 14 : Nat) : Int) } }
def Mc.mk16 (q : Nat) (M : Mc) : Mc := { Mc.mk15 q M with t := { (Mc.mk15 q M).t with m := ((q + 15 : Nat) : Int) } }
def Mc.mk17 (q : Nat) (M : Mc) : Mc := { Mc.mk16 q M with p := { (Mc.mk16 q M).p with d := ((q + 16 : Nat) : Int) } }
def Mc.mk18 (q : Nat) (M : Mc) : Mc := { Mc.mk17 q M with p := { (Mc.mk17 q M).p with b := b3 (q + 17) } }
def Mc.mk19 (q : Nat) (M : Mc) : Mc := { Mc.mk18 q M with p := { (Mc.mk18 q M).p with l := b3 (q + 18) } }
def Mc.mk20 (q : Nat) (M : Mc) : Mc := { Mc.mk19 q M with p := { (Mc.mk19 q M).p with n := ((q + 19 : Nat) : Int) } }
def Mc.mk21 (q : Nat) (M : Mc) : Mc := { Mc.mk20 q M with p := { (Mc.mk20 q M).p with x := ((q + 20 : Nat) : Int) } }
def Mc.mk22 (q : Nat) (M : Mc) : Mc := { Mc.mk21 q M with p := { (Mc.mk21 q M).p with t := b3 (q + 21) } }
def Mc.mk23 (q : Nat) (M : Mc) : Mc := { Mc.mk22 q M with k := ((q + 22 : Nat) : Int) }
def AptM (v : Value) (us : List Value) : Prop := (∀ (i j : Nat) (u u' : Value), i ≠ j → us[i]? = some u → us[j]? = some u' → ∀ k, Bk u k → ¬ Bk u' k) ∧ ∀ u ∈ us, ∀ k, Bk u k → v.ownBlock ≠ some k
section
variable {ops : Array Oper} {rest : List Oper} {o : Oper} {A : Act} {Q : Exit → Act → World → Prop} {x y : Operand} {ty : TypeId} {B : TypeId} {base g n cap i j q : Nat} {us : List Value} {e e' u : Value} {w w0 : World} {f : Fl Value}
theorem stC (hf : f.Ok) (hgd : o.guard = none) (ho : o.op = .store ty x y) (hx : A.eval x = .pointer (some ⟨g, q, none⟩)) (hy : A.eval y = u) (hsz : (Try.prog.info? ty).map (·.size) = some 1)
    (hown : OwnB B f base w (.slice (some ⟨g, 0, none⟩) n cap) (us.set i e)) (hT : Turn (· = g) w0 w) (hi : i < us.length) (hq : q = i * f.n + j) (hj : j < f.n) (h1 : u.oneCell' = true) (hset : (f.F e).set j u = f.F e')
    (h : ∀ w', OwnB B f base w' (.slice (some ⟨g, 0, none⟩) n cap) (us.set i e') → Turn (· = g) w0 w' → wpList Try.prog ops Q rest (A.put o.dst undef) w') : wpList Try.prog ops Q (o :: rest) A w :=
  stB hf hgd ho hx hy hsz hown (by simp [hi]) hq hj h1 hset fun w' h2 h3 => h w' (by simpa using h2) (hT.trans (Turn.grown h3 fun k hk => (Option.some.inj hk).symm))
theorem ldE (hf : f.Ok) {off : Nat} {d : TypeDesc} {b : Nat} (hgd : o.guard = none) (ho : o.op = .load ty x) (hu : Try.prog.underlying ty = some d) (hd : d.isRow = false) (hx : A.eval x = .pointer (some ⟨b, q, none⟩)) (hs : SlF f w (.slice (some ⟨b, off, none⟩) n cap) us) (hi : us[i]? = some e) (hq : q = off + (i * f.n + j)) (hj : j < f.n) (hv : (f.F e)[j]? = some u)
    (h : wpList Try.prog ops Q rest (A.put o.dst u) w) : wpList Try.prog ops Q (o :: rest) A w :=
  wpList_plain hgd fun _ hK => by
    subst hq
    have hc := (hs.cell hf hi hj).trans hv
    have e : (loadVar ty ⟨b, off + (i * f.n + j), none⟩).run Try.prog w = .ok u w := by
      cases d <;> first | (simp [TypeDesc.isRow] at hd; done) | simp [loadVar, isAgg, run_underlying hu, run_load, hc]
    unfold Oper.wp execOp
    simp only [ho, hx, Instr.loadAt, Instr.sureAddr, Sem.run_bind, Sem.run_pure, Result.andThen_ok, e]
    exact hK _ _ h
end
def Mc.cnt (m : Mc) : Nat := m.len + 23
def Mc.mkd (k : Nat) (m : Mc) : Mc := Mc.mk23 (k + m.rom.length + m.ram.length) { m with rom := marks k m.rom.length, ram := marks (k + m.rom.length) m.ram.length }
def marksMM (k : Nat) : List Mc → List Mc
  | [] => []
  | m :: ms => m.mkd k :: marksMM (k + m.cnt) ms
theorem marksMM_length (k : Nat) (ls : List Mc) : (marksMM k ls).length = ls.length := by
  induction ls generalizing k with
  | nil => rfl
  | cons l ls ih => simp [marksMM, ih]
theorem marksMM_get (k : Nat) (ls : List Mc) {i : Nat} {l : Mc} (h : ls[i]? = some l) : (marksMM k ls)[i]? = some (l.mkd (k + sm Mc.cnt (ls.take i))) := by
  induction ls generalizing k i with
  | nil => simp at h
  | cons x ls ih =>
    cases i with
    | zero => simp at h; subst h; simp [marksMM, sm]
    | succ i =>
      simp at h
      have := ih (k + x.cnt) h
      simp only [marksMM, List.getElem?_cons_succ, this, List.take_succ_cons]
      have e : k + x.cnt + sm Mc.cnt (ls.take i) = k + sm Mc.cnt (x :: ls.take i) := by simp [sm]; omega
      rw [e]
theorem marksM_part (k : Nat) (ls : List Mc) (i j : Nat) (x : Mc) (hi : i ≤ ls.length) (h : (marksMM k (ls.take i) ++ ls.drop i)[j]? = some x) : (j < i ∧ ∃ l, ls[j]? = some l ∧ x = l.mkd (k + sm Mc.cnt (ls.take j))) ∨ (i ≤ j ∧ ls[j]? = some x) := by
  have hl : (marksMM k (ls.take i)).length = i := by rw [marksMM_length]; simp; omega
  by_cases hj : j < i
  · rw [List.getElem?_append_left (by omega)] at h
    obtain ⟨l, hlj⟩ : ∃ l, ls[j]? = some l := ⟨_, List.getElem?_eq_getElem (by omega)⟩
    rw [marksMM_get k _ (i := j) (l := l) (by rw [List.getElem?_take_of_lt hj]; exact hlj), List.take_take, Nat.min_eq_left (by omega)] at h
    exact .inl ⟨hj, l, hlj, (Option.some.inj h).symm⟩
  · rw [List.getElem?_append_right (by omega), hl, List.getElem?_drop, show i + (j - i) = j by omega] at h
    exact .inr ⟨by omega, h⟩
theorem marksM_at (k : Nat) (ls : List Mc) (i j : Nat) (l : Mc) (hi : i ≤ ls.length) (h : ls[j]? = some l) : (marksMM k (ls.take i) ++ ls.drop i)[j]? = some (if j < i then l.mkd (k + sm Mc.cnt (ls.take j)) else l) := by
  have hl : (marksMM k (ls.take i)).length = i := by rw [marksMM_length]; simp; omega
  by_cases hj : j < i
  · rw [if_pos hj, List.getElem?_append_left (by omega), marksMM_get k _ (i := j) (l := l) (by rw [List.getElem?_take_of_lt hj]; exact h), List.take_take, Nat.min_eq_left (by omega)]
  · rw [if_neg hj, List.getElem?_append_right (by omega), hl, List.getElem?_drop, show i + (j - i) = j by omega]
    exact h
theorem sm_cnt (ls : List Mc) : sm Mc.cnt ls ≤ 23 * tot Mc.len ls := by
  unfold tot sm
  induction ls with
  | nil => simp
  | cons x l ih => simp only [List.map_cons, List.sum_cons, List.length_cons, Mc.cnt] at ih ⊢; omega
theorem bk_mc {vr va : Value} {m : Mc} {k : Nat} : Bk (m.val vr va) k ↔ vr.ownBlock = some k ∨ va.ownBlock = some k := by
  constructor
  · rintro ⟨c, hc, hk⟩
    simp only [Mc.val, Mc.cells, Value.cells, List.mem_cons, List.not_mem_nil, or_false] at hc
    rcases hc with rfl | rfl | hc
    · exact .inl hk
    · exact .inr hk
    · exfalso
      rcases hc with rfl | rfl | rfl | rfl | rfl | rfl | rfl | rfl | rfl | rfl | rfl | rfl | rfl | rfl | rfl | rfl | rfl | rfl | rfl | rfl | rfl | rfl | rfl <;> simp [Value.ownBlock] at hk
  · rintro (h | h)
    · exact ⟨vr, by simp [Mc.val, Mc.cells, Value.cells], h⟩
    · exact ⟨va, by simp [Mc.val, Mc.cells, Value.cells], h⟩
/-- The elements as they are now name no blocks but those that they named. -/
def Sub2 (us us' : List Value) : Prop := us'.length = us.length ∧ ∀ (i : Nat) (u u' : Value), us[i]? = some u → us'[i]? = some u' → ∀ k, Bk u' k → Bk u k
def Mine2 (v : Value) (us : List Value) (k : Nat) : Prop := v.ownBlock = some k ∨ ∃ u ∈ us, Bk u k
set_option maxHeartbeats 16000000 in
set_option maxRecDepth 100000 in
theorem markMcs_any (B : TypeId) (v : Value) (us : List Value) (ls : List Mc) (base k : Nat) (w : World) (h : OwnB B fIMc base w v us) (ha : All2 (MOwn base w) us ls) (hp : AptM v us) (hs : tot Mc.len ls ≤ 4000000) (hk : k ≤ 100000000) :
    Calls Try.prog 46 #[v, .int .i64 (k : Int)] w fun e w' => e = .returned (.int .i64 ((k + sm Mc.cnt ls : Nat) : Int)) ∧ ∃ us', OwnB B fIMc base w' v us' ∧ All2 (MOwn base w') us' (marksMM k ls) ∧ Sub2 us us' ∧ Turn (Mine2 v us) w w' := by
  have HL : Hid (us.length = ls.length) := ha.1
  have HP : Hid (AptM v us) := hp
  have HC : Hid (sm Mc.cnt ls ≤ 23 * tot Mc.len ls) := sm_cnt ls
  by_cases h0 : 0 < us.length
  · obtain ⟨b, off, c, rfl, -, hlc, hcm⟩ := (h.sl okIMc).shape h0
    have hof : off = 0 := by
      rcases h.2 with ⟨e, _⟩ | ⟨g', cap', cur, e, _⟩
      · cases e
      · simp only [Value.slice.injEq, Option.some.injEq, Addr.mk.injEq] at e; exact e.1.2.1
    subst hof
    unfold maxLen at hcm
    have hat : ∃ us', OwnB B fIMc base w (.slice (some ⟨b, 0, none⟩) us.length c) us' ∧ All2 (MOwn base w) us' (marksMM k (ls.take 0) ++ ls.drop 0) ∧ Sub2 us us' ∧ Turn (Mine2 (.slice (some ⟨b, 0, none⟩) us.length c) us) w w := ⟨us, h, by simpa [marksMM] using ha, ⟨rfl, fun i u u' h1 h2 k hk => by rw [h1] at h2; cases h2; exact hk⟩, Turn.of (Below.refl _ _)⟩
    have HAT : Hid (∃ us', OwnB B fIMc base w (.slice (some ⟨b, 0, none⟩) us.length c) us' ∧ All2 (MOwn base w) us' (marksMM k (ls.take 0) ++ ls.drop 0) ∧ Sub2 us us' ∧ Turn (Mine2 (.slice (some ⟨b, 0, none⟩) us.length c) us) w w) := hat
    clear h ha hp hat
    go_enter Try.func46, Try.ntmps46
    go_wp2_with fail
    go_loopw [1, 5] (fun z i wr => ∃ j : Nat, j ≤ us.length ∧ i = .int .i64 j ∧ z = .int .i64 ((k + sm Mc.cnt (ls.take j) : Nat) : Int) ∧ ∃ us', OwnB B fIMc base wr (.slice (some ⟨b, 0, none⟩) us.length c) us' ∧ All2 (MOwn base wr) us' (marksMM k (ls.take j) ++ ls.drop j) ∧ Sub2 us us' ∧ Turn (Mine2 (.slice (some ⟨b, 0, none⟩) us.length c) us) w wr) (fun _ i _ => us.length - (intOf i).toNat)
    case atStart => exact ⟨0, Nat.zero_le _, rfl, by simp [sm], HAT.out⟩
    case round =>
      obtain ⟨j, hj, rfl, rfl, us', hO, hA, hS, hT⟩ := hrel
      clear HAT
      have HO : Hid (OwnB B fIMc base wr (.slice (some ⟨b, 0, none⟩) us.length c) us') := hO
      have HA : Hid (All2 (MOwn base wr) us' (marksMM k (ls.take j) ++ ls.drop j)) := hA
      have HS : Hid (Sub2 us us') := hS
      have HT : Hid (Turn (Mine2 (.slice (some ⟨b, 0, none⟩) us.length c) us) w wr) := hT
      have HM : Hid (sm Mc.cnt (ls.take j) ≤ sm Mc.cnt ls) := sm_le _
      clear hO hA hS hT
      by_cases hlt : j < us.length
      · have hljj : j < ls.length := by rw [← HL.out]; exact hlt
        have hlt' : j < us'.length := by rw [HS.out.1]; exact hlt
        obtain ⟨m, hm⟩ : ∃ l, ls[j]? = some l := ⟨_, List.getElem?_eq_getElem hljj⟩
        obtain ⟨u0, hu0⟩ : ∃ u, us[j]? = some u := ⟨_, List.getElem?_eq_getElem hlt⟩
        obtain ⟨u, hu⟩ : ∃ u, us'[j]? = some u := ⟨_, List.getElem?_eq_getElem hlt'⟩
        have hown := HA.out.2 j u m hu (by rw [marksM_at k ls j j m (by omega) hm, if_neg (Nat.lt_irrefl _)])
        have hbk := HS.out.2 j u0 u hu0 hu
        have hsl := HO.out.sl okIMc
        obtain ⟨vr, va, rfl, hr, hv, hap⟩ := hown
        have hb1 : ∀ q, vr.ownBlock = some q → q ≠ b := fun q hq e => HP.out.2 u0 (List.mem_of_getElem? hu0) q (hbk q (bk_mc.2 (.inl hq))) (by rw [e]; rfl)
        have hb2 : ∀ q, va.ownBlock = some q → q ≠ b := fun q hq e => HP.out.2 u0 (List.mem_of_getElem? hu0) q (hbk q (bk_mc.2 (.inr hq))) (by rw [e]; rfl)
        have happ : ∀ i y y0, i ≠ j → us[i]? = some y0 → us'[i]? = some y → ∀ q, Bk y q → ¬ (vr.ownBlock = some q ∨ va.ownBlock = some q) ∧ q ≠ b := fun i y y0 hij h1 h2 q hq =>
          ⟨fun h3 => HP.out.1 i j y0 u0 hij h1 hu0 q (HS.out.2 i y0 y h1 h2 q hq) (hbk q (bk_mc.2 h3)), fun e => HP.out.2 y0 (List.mem_of_getElem? h1) q (HS.out.2 i y0 y h1 h2 q hq) (by rw [e]; rfl)⟩
        have HAPP : Hid (∀ i y y0, i ≠ j → us[i]? = some y0 → us'[i]? = some y → ∀ q, Bk y q → ¬ (vr.ownBlock = some q ∨ va.ownBlock = some q) ∧ q ≠ b) := happ
        have HBK : Hid (us[j]? = some u0 ∧ us'[j]? = some (m.val vr va) ∧ ls[j]? = some m ∧ ∀ q, Bk (m.val vr va) q → Bk u0 q) := ⟨hu0, hu, hm, hbk⟩
        have HM2 : Hid (sm Mc.cnt (ls.take (j + 1)) = sm Mc.cnt (ls.take j) + m.cnt) := sm_take hm
        have hmlen : m.len ≤ 4000000 := by have := size_le (size := Mc.len) (List.mem_of_getElem? hm); unfold tot at hs; omega
        have hkk : k + sm Mc.cnt (ls.take j) ≤ 900000000 := by have := HM.out; have := HC.out; omega
        have hcn : m.cnt = m.rom.length + m.ram.length + 23 := rfl
        have HCN : Hid (m.cnt = m.rom.length + m.ram.length + 23) := hcn
        have l0 : m.rom.length ≤ 4000000 := by unfold Mc.len at hmlen; omega
        have l1 : m.ram.length ≤ 4000000 := by unfold Mc.len at hmlen; omega
        obtain ⟨a0, c0, hvr, -, -, -⟩ := hr.shape
        obtain ⟨a1, c1, hva, -, -, -⟩ := hv.shape
        have HE1 : Hid (vr = .slice a0 m.rom.length c0 ∧ va = .slice a1 m.ram.length c1) := ⟨hvr, hva⟩
        have HR : Hid (Own base wr vr m.rom) := hr
        have HV : Hid (Own base wr va m.ram) := hv
        have HU : Hid (us'[j]? = some (m.val vr va)) := hu
        have HAP : Hid (∀ q, vr.ownBlock = some q → va.ownBlock ≠ some q) := hap
        have HB1 : Hid (∀ q, vr.ownBlock = some q → q ≠ b) := hb1
        have HB2 : Hid (∀ q, va.ownBlock = some q → q ≠ b) := hb2
        clear hr hv hu hm hu0 hbk hap hb1 hb2 happ hcn hmlen
        generalize hq : k + sm Mc.cnt (ls.take j) = q at *
        have hF : (fIMc.F (m.val vr va))[0]? = some vr ∧ (fIMc.F (m.val vr va))[1]? = some va := by rw [hvr, hva]; exact ⟨rfl, rfl⟩
        have HF : Hid ((fIMc.F (m.val vr va))[0]? = some vr ∧ (fIMc.F (m.val vr va))[1]? = some va) := hF
        clear hF hvr hva
        go_wp2_with (first
          | (refine ixF okIMc (r := j) rfl rfl rfl rfl hlt ?_)
          | (refine ldE okIMc (u := vr) (j := 0) rfl rfl Try.underlying37 rfl rfl hsl HU.out (by simp [fIMc, fA]) (by decide) HF.out.1 ?_))
        go_at_call 17
        refine (mark_any vr m.rom _ base q HR.out l0 (by omega)).mono ?_
        rintro e w1 ⟨rfl, hr1, hg1⟩
        have hO1 := HO.out.grown hg1 (fun q hq e => HB1.out q hq (by simpa [Value.ownBlock] using e.symm))
        have hs1 := hO1.sl okIMc
        have hv1 := HV.out.grown hg1 (fun q hq e => HAP.out q hq e)
        have HR1 : Hid (Own base w1 vr (marks q m.rom.length)) := hr1
        have HV1 : Hid (Own base w1 va m.ram) := hv1
        have HG1 : Hid (wr.grownBy w1 vr.ownBlock) := hg1
        clear hsl hr1 hv1 hg1
        go_wp2_with (first
          | (refine ixF okIMc (r := j) rfl rfl rfl rfl hlt ?_)
          | (refine ldE okIMc (u := va) (j := 1) rfl rfl Try.underlying37 rfl rfl hs1 HU.out (by simp [fIMc, fA]) (by decide) HF.out.2 ?_))
        go_at_call 17
        refine (mark_any va m.ram _ base (q + m.rom.length) HV1.out l1 (by omega)).mono ?_
        rintro e w2 ⟨rfl, hv2, hg2⟩
        have hO2 := hO1.grown hg2 (fun q hq e => HB2.out q hq (by simpa [Value.ownBlock] using e.symm))
        have hr2 := HR1.out.grown hg2 (fun q hq e => HAP.out q e hq)
        have HR2 : Hid (Own base w2 vr (marks q m.rom.length)) := hr2
        have HV2 : Hid (Own base w2 va (marks (q + m.rom.length) m.ram.length)) := hv2
        have HG2 : Hid (w1.grownBy w2 va.ownBlock) := hg2
        clear hs1 hO1 hr2 hv2 hg2
        obtain ⟨M, HMM⟩ : ∃ M : Mc, Hid (M = { m with rom := marks q m.rom.length, ram := marks (q + m.rom.length) m.ram.length }) := ⟨_, show _ = _ from rfl⟩
        have hval : m.val vr va = (Mc.mk0 0 M).val vr va := by rw [HMM.out]; rfl
        have hO0 : OwnB B fIMc base w2 (.slice (some ⟨b, 0, none⟩) us.length c) (us'.set j ((Mc.mk0 0 M).val vr va)) := by
          rw [← hval]
          have : us'.set j (m.val vr va) = us' := by
            apply List.ext_getElem?
            intro i
            by_cases e : i = j
            · subst e; rw [List.getElem?_set_self hlt', HU.out]
            · rw [List.getElem?_set_ne (fun h => e h.symm)]
          rw [this]; exact hO2
        have hT0 : Turn (· = b) w2 w2 := Turn.of (Below.refl _ _)
        clear hO2
        have HQ : Hid (q + m.rom.length + m.ram.length + 23 = q + m.cnt) := show _ = _ by rw [HCN.out]; omega
        have hQb : q + m.rom.length + m.ram.length ≤ 950000000 := by omega
        obtain ⟨Q, HQQ⟩ : ∃ Q, Hid (q + m.rom.length + m.ram.length = Q) := ⟨_, show _ = _ from rfl⟩
        rw [HQQ.out] at hQb ⊢
        have hmk0 : Mc.mk0 0 M = Mc.mk0 Q M := rfl
        rw [hmk0] at hO0
        clear hmk0 hval
        obtain ⟨hvr, hva⟩ := HE1.out
        clear HE1 HF HR HV
        subst hvr hva
        go_wp2_with (first
          | (refine ixF okIMc (r := j) rfl rfl rfl rfl hlt ?_)
          | (refine stC (us := us') (i := j) (e := (Mc.mk0 Q M).val (.slice a0 m.rom.length c0) (.slice a1 m.ram.length c1)) (e' := (Mc.mk1 Q M).val (.slice a0 m.rom.length c0) (.slice a1 m.ram.length c1)) (j := 2) okIMc rfl rfl rfl rfl sz_i hO0 hT0 hlt' (by simp [fIMc, fA]) (by decide) rfl (by kernel_rfl) ?_; intro w3 hO1 hT1; clear hO0 hT0)
          | (refine stC (us := us') (i := j) (e := (Mc.mk1 Q M).val (.slice a0 m.rom.length c0) (.slice a1 m.ram.length c1)) (e' := (Mc.mk2 Q M).val (.slice a0 m.rom.length c0) (.slice a1 m.ram.length c1)) (j := 3) okIMc rfl rfl rfl rfl sz_i hO1 hT1 hlt' (by simp [fIMc, fA]) (by decide) rfl (by kernel_rfl) ?_; intro w4 hO2 hT2; clear hO1 hT1)
          | (refine stC (us := us') (i := j) (e := (Mc.mk2 Q M).val (.slice a0 m.rom.length c0) (.slice a1 m.ram.length c1)) (e' := (Mc.mk3 Q M).val (.slice a0 m.rom.length c0) (.slice a1 m.ram.length c1)) (j := 4) okIMc rfl rfl rfl rfl sz_i hO2 hT2 hlt' (by simp [fIMc, fA]) (by decide) rfl (by kernel_rfl) ?_; intro w5 hO3 hT3; clear hO2 hT2)
          | (refine stC (us := us') (i := j) (e := (Mc.mk3 Q M).val (.slice a0 m.rom.length c0) (.slice a1 m.ram.length c1)) (e' := (Mc.mk4 Q M).val (.slice a0 m.rom.length c0) (.slice a1 m.ram.length c1)) (j := 5) okIMc rfl rfl rfl rfl sz_i hO3 hT3 hlt' (by simp [fIMc, fA]) (by decide) rfl (by kernel_rfl) ?_; intro w6 hO4 hT4; clear hO3 hT3)
          | (refine stC (us := us') (i := j) (e := (Mc.mk4 Q M).val (.slice a0 m.rom.length c0) (.slice a1 m.ram.length c1)) (e' := (Mc.mk5 Q M).val (.slice a0 m.rom.length c0) (.slice a1 m.ram.length c1)) (j := 6) okIMc rfl rfl rfl rfl sz_b hO4 hT4 hlt' (by simp [fIMc, fA]) (by decide) rfl (by kernel_rfl) ?_; intro w7 hO5 hT5; clear hO4 hT4)
          | (refine stC (us := us') (i := j) (e := (Mc.mk5 Q M).val (.slice a0 m.rom.length c0) (.slice a1 m.ram.length c1)) (e' := (Mc.mk6 Q M).val (.slice a0 m.rom.length c0) (.slice a1 m.ram.length c1)) (j := 7) okIMc rfl rfl rfl rfl sz_b hO5 hT5 hlt' (by simp [fIMc, fA]) (by decide) rfl (by kernel_rfl) ?_; intro w8 hO6 hT6; clear hO5 hT5)
          | (refine stC (us := us') (i := j) (e := (Mc.mk6 Q M).val (.slice a0 m.rom.length c0) (.slice a1 m.ram.length c1)) (e' := (Mc.mk7 Q M).val (.slice a0 m.rom.length c0) (.slice a1 m.ram.length c1)) (j := 8) okIMc rfl rfl rfl rfl sz_b hO6 hT6 hlt' (by simp [fIMc, fA]) (by decide) rfl (by kernel_rfl) ?_; intro w9 hO7 hT7; clear hO6 hT6)
          | (refine stC (us := us') (i := j) (e := (Mc.mk7 Q M).val (.slice a0 m.rom.length c0) (.slice a1 m.ram.length c1)) (e' := (Mc.mk8 Q M).val (.slice a0 m.rom.length c0) (.slice a1 m.ram.length c1)) (j := 9) okIMc rfl rfl rfl rfl sz_b hO7 hT7 hlt' (by simp [fIMc, fA]) (by decide) rfl (by kernel_rfl) ?_; intro w10 hO8 hT8; clear hO7 hT7)
          | (refine stC (us := us') (i := j) (e := (Mc.mk8 Q M).val (.slice a0 m.rom.length c0) (.slice a1 m.ram.length c1)) (e' := (Mc.mk9 Q M).val (.slice a0 m.rom.length c0) (.slice a1 m.ram.length c1)) (j := 10) okIMc rfl rfl rfl rfl sz_b hO8 hT8 hlt' (by simp [fIMc, fA]) (by decide) rfl (by kernel_rfl) ?_; intro w11 hO9 hT9; clear hO8 hT8)
          | (refine stC (us := us') (i := j) (e := (Mc.mk9 Q M).val (.slice a0 m.rom.length c0) (.slice a1 m.ram.length c1)) (e' := (Mc.mk10 Q M).val (.slice a0 m.rom.length c0) (.slice a1 m.ram.length c1)) (j := 11) okIMc rfl rfl rfl rfl sz_i hO9 hT9 hlt' (by simp [fIMc, fA]) (by decide) rfl (by kernel_rfl) ?_; intro w12 hO10 hT10; clear hO9 hT9)
          | (refine stC (us := us') (i := j) (e := (Mc.mk10 Q M).val (.slice a0 m.rom.length c0) (.slice a1 m.ram.length c1)) (e' := (Mc.mk11 Q M).val (.slice a0 m.rom.length c0) (.slice a1 m.ram.length c1)) (j := 12) okIMc rfl rfl rfl rfl sz_i hO10 hT10 hlt' (by simp [fIMc, fA]) (by decide) rfl (by kernel_rfl) ?_; intro w13 hO11 hT11; clear hO10 hT10)
          | (refine stC (us := us') (i := j) (e := (Mc.mk11 Q M).val (.slice a0 m.rom.length c0) (.slice a1 m.ram.length c1)) (e' := (Mc.mk12 Q M).val (.slice a0 m.rom.length c0) (.slice a1 m.ram.length c1)) (j := 13) okIMc rfl rfl rfl rfl sz_i hO11 hT11 hlt' (by simp [fIMc, fA]) (by decide) rfl (by kernel_rfl) ?_; intro w14 hO12 hT12; clear hO11 hT11)
          | (refine stC (us := us') (i := j) (e := (Mc.mk12 Q M).val (.slice a0 m.rom.length c0) (.slice a1 m.ram.length c1)) (e' := (Mc.mk13 Q M).val (.slice a0 m.rom.length c0) (.slice a1 m.ram.length c1)) (j := 14) okIMc rfl rfl rfl rfl sz_i hO12 hT12 hlt' (by simp [fIMc, fA]) (by decide) rfl (by kernel_rfl) ?_; intro w15 hO13 hT13; clear hO12 hT12)
          | (refine stC (us := us') (i := j) (e := (Mc.mk13 Q M).val (.slice a0 m.rom.length c0) (.slice a1 m.ram.length c1)) (e' := (Mc.mk14 Q M).val (.slice a0 m.rom.length c0) (.slice a1 m.ram.length c1)) (j := 15) okIMc rfl rfl rfl rfl sz_i hO13 hT13 hlt' (by simp [fIMc, fA]) (by decide) rfl (by kernel_rfl) ?_; intro w16 hO14 hT14; clear hO13 hT13)
          | (refine stC (us := us') (i := j) (e := (Mc.mk14 Q M).val (.slice a0 m.rom.length c0) (.slice a1 m.ram.length c1)) (e' := (Mc.mk15 Q M).val (.slice a0 m.rom.length c0) (.slice a1 m.ram.length c1)) (j := 16) okIMc rfl rfl rfl rfl sz_i hO14 hT14 hlt' (by simp [fIMc, fA]) (by decide) rfl (by kernel_rfl) ?_; intro w17 hO15 hT15; clear hO14 hT14)
          | (refine stC (us := us') (i := j) (e := (Mc.mk15 Q M).val (.slice a0 m.rom.length c0) (.slice a1 m.ram.length c1)) (e' := (Mc.mk16 Q M).val (.slice a0 m.rom.length c0) (.slice a1 m.ram.length c1)) (j := 17) okIMc rfl rfl rfl rfl sz_i hO15 hT15 hlt' (by simp [fIMc, fA]) (by decide) rfl (by kernel_rfl) ?_; intro w18 hO16 hT16; clear hO15 hT15)
          | (refine stC (us := us') (i := j) (e := (Mc.mk16 Q M).val (.slice a0 m.rom.length c0) (.slice a1 m.ram.length c1)) (e' := (Mc.mk17 Q M).val (.slice a0 m.rom.length c0) (.slice a1 m.ram.length c1)) (j := 18) okIMc rfl rfl rfl rfl sz_i hO16 hT16 hlt' (by simp [fIMc, fA]) (by decide) rfl (by kernel_rfl) ?_; intro w19 hO17 hT17; clear hO16 hT16)
          | (refine stC (us := us') (i := j) (e := (Mc.mk17 Q M).val (.slice a0 m.rom.length c0) (.slice a1 m.ram.length c1)) (e' := (Mc.mk18 Q M).val (.slice a0 m.rom.length c0) (.slice a1 m.ram.length c1)) (j := 19) okIMc rfl rfl rfl rfl sz_b hO17 hT17 hlt' (by simp [fIMc, fA]) (by decide) rfl (by kernel_rfl) ?_; intro w20 hO18 hT18; clear hO17 hT17)
          | (refine stC (us := us') (i := j) (e := (Mc.mk18 Q M).val (.slice a0 m.rom.length c0) (.slice a1 m.ram.length c1)) (e' := (Mc.mk19 Q M).val (.slice a0 m.rom.length c0) (.slice a1 m.ram.length c1)) (j := 20) okIMc rfl rfl rfl rfl sz_b hO18 hT18 hlt' (by simp [fIMc, fA]) (by decide) rfl (by kernel_rfl) ?_; intro w21 hO19 hT19; clear hO18 hT18)
          | (refine stC (us := us') (i := j) (e := (Mc.mk19 Q M).val (.slice a0 m.rom.length c0) (.slice a1 m.ram.length c1)) (e' := (Mc.mk20 Q M).val (.slice a0 m.rom.length c0) (.slice a1 m.ram.length c1)) (j := 21) okIMc rfl rfl rfl rfl sz_i hO19 hT19 hlt' (by simp [fIMc, fA]) (by decide) rfl (by kernel_rfl) ?_; intro w22 hO20 hT20; clear hO19 hT19)
          | (refine stC (us := us') (i := j) (e := (Mc.mk20 Q M).val (.slice a0 m.rom.length c0) (.slice a1 m.ram.length c1)) (e' := (Mc.mk21 Q M).val (.slice a0 m.rom.length c0) (.slice a1 m.ram.length c1)) (j := 22) okIMc rfl rfl rfl rfl sz_i hO20 hT20 hlt' (by simp [fIMc, fA]) (by decide) rfl (by kernel_rfl) ?_; intro w23 hO21 hT21; clear hO20 hT20)
          | (refine stC (us := us') (i := j) (e := (Mc.mk21 Q M).val (.slice a0 m.rom.length c0) (.slice a1 m.ram.length c1)) (e' := (Mc.mk22 Q M).val (.slice a0 m.rom.length c0) (.slice a1 m.ram.length c1)) (j := 23) okIMc rfl rfl rfl rfl sz_b hO21 hT21 hlt' (by simp [fIMc, fA]) (by decide) rfl (by kernel_rfl) ?_; intro w24 hO22 hT22; clear hO21 hT21)
          | (refine stC (us := us') (i := j) (e := (Mc.mk22 Q M).val (.slice a0 m.rom.length c0) (.slice a1 m.ram.length c1)) (e' := (Mc.mk23 Q M).val (.slice a0 m.rom.length c0) (.slice a1 m.ram.length c1)) (j := 24) okIMc rfl rfl rfl rfl sz_i hO22 hT22 hlt' (by simp [fIMc, fA]) (by decide) rfl (by kernel_rfl) ?_; intro w25 hO23 hT23; clear hO22 hT22))
        go_roundw
        case rel =>
          obtain ⟨hu0, hu, hm, hbk⟩ := HBK.out
          have hMr : (Mc.mk23 Q M).rom = marks q m.rom.length := by rw [HMM.out]; rfl
          have hMa : (Mc.mk23 Q M).ram = marks (q + m.rom.length) m.ram.length := by rw [HMM.out]; rfl
          have hkd : m.mkd q = Mc.mk23 Q M := by rw [HMM.out]; unfold Mc.mkd; rw [HQQ.out]
          have hkeep : ∀ p, ¬ ((Value.slice a0 m.rom.length c0).ownBlock = some p ∨ (Value.slice a1 m.ram.length c1).ownBlock = some p) → p ≠ b → p < wr.heap.size → w25.heap[p]? = wr.heap[p]? := fun p h1 h2 h3 => by
            have s1 := HG1.out.size
            have s2 := HG2.out.size
            rw [hT23.block p h2 (by omega), HG2.out.block p (by omega) (fun e => h1 (.inr e.symm)), HG1.out.block p h3 (fun e => h1 (.inl e.symm))]
          refine ⟨j + 1, by omega, by go_num, by congr 1; have := HM2.out; have := HQQ.out; have := HCN.out; omega, us'.set j ((Mc.mk23 Q M).val (.slice a0 m.rom.length c0) (.slice a1 m.ram.length c1)), hO23, ⟨by rw [List.length_set, List.length_append, marksMM_length, HS.out.1, HL.out]; simp; omega, fun i y x h1 h2 => ?_⟩, ⟨by rw [List.length_set]; exact HS.out.1, fun i y y' h1 h2 p hp => ?_⟩, ?_⟩
          · by_cases e : i = j
            · subst e
              rw [List.getElem?_set_self hlt'] at h1
              cases h1
              rw [marksM_at k ls (i + 1) i m (by omega) hm, if_pos (Nat.lt_succ_self _), hq, hkd] at h2
              cases h2
              refine ⟨_, _, rfl, ?_, ?_, HAP.out⟩
              · rw [hMr]; exact hT23.own HR2.out (fun p hp e => HB1.out p hp e)
              · rw [hMa]; exact hT23.own HV2.out (fun p hp e => HB2.out p hp e)
            · rw [List.getElem?_set_ne (fun h => e h.symm)] at h1
              have hil : i < ls.length := by
                have h3 := (List.getElem?_eq_some_iff.1 h2).1
                rw [List.length_append, marksMM_length] at h3
                simp at h3; omega
              have hy : MOwn base wr y x := by
                refine HA.out.2 i y x h1 ?_
                rw [marksM_at k ls (j + 1) i ls[i] (by omega) (List.getElem?_eq_getElem hil)] at h2
                rw [marksM_at k ls j i ls[i] (by omega) (List.getElem?_eq_getElem hil), ← h2]
                by_cases hij : i < j
                · rw [if_pos hij, if_pos (by omega)]
                · rw [if_neg hij, if_neg (by omega)]
              have hiu : i < us.length := by rw [HL.out]; exact hil
              refine owns_mc.kept _ _ _ _ _ hy fun p hp => ?_
              have h4 := HAPP.out i y us[i] e (List.getElem?_eq_getElem hiu) h1 p hp
              exact hkeep p h4.1 h4.2 (owns_mc.lt _ _ _ _ _ hy hp).2
          · by_cases e : i = j
            · subst e
              rw [List.getElem?_set_self hlt'] at h2
              cases h2
              rw [hu0] at h1
              cases h1
              exact hbk p (bk_mc.2 (bk_mc.1 hp))
            · rw [List.getElem?_set_ne (fun h => e h.symm)] at h2
              exact HS.out.2 i y y' h1 h2 p hp
          · have hmem := List.mem_of_getElem? hu0
            exact ((HT.out.trans (Turn.grown HG1.out fun p hp => .inr ⟨u0, hmem, hbk p (bk_mc.2 (.inl hp))⟩)).trans (Turn.grown HG2.out fun p hp => .inr ⟨u0, hmem, hbk p (bk_mc.2 (.inr hp))⟩)).trans ⟨hT23.os, hT23.tape, hT23.output, hT23.size, fun p hp hl => hT23.block p (fun e => hp (.inl (by rw [e]; rfl))) hl⟩
        case measure => simp [intOf]; omega
      · have e : j = us.length := by omega
        subst e
        have HE : Hid (ls.take us.length = ls ∧ ls.drop us.length = []) := ⟨by rw [HL.out, List.take_length], by rw [HL.out]; simp⟩
        go_wp2
        go_ret
        have hA := HA.out
        rw [HE.out.1, HE.out.2, List.append_nil] at hA
        exact ⟨by rw [HE.out.1]; rfl, us', HO.out, hA, HS.out, HT.out⟩
  · have hu : us = [] := List.eq_nil_of_length_eq_zero (by omega)
    subst hu
    have hl : ls = [] := List.eq_nil_of_length_eq_zero (by have := HL.out; simp at this; omega)
    subst hl
    have HH : Hid (OwnB B fIMc base w v [] ∧ All2 (MOwn base w) [] []) := ⟨h, ha⟩
    obtain ⟨a, cap, rfl, -, hlc, hcm, -⟩ := h.sl okIMc
    unfold maxLen at hcm
    clear h ha hp HP
    show Calls Try.prog 46 #[.slice a 0 cap, .int .i64 (k : Int)] w _
    go_enter Try.func46, Try.ntmps46
    go_wp2_with fail
    go_loopw [1, 5] (fun z i wr => z = .int .i64 (k : Int) ∧ i = .int .i64 0 ∧ wr = w) (fun _ i _ => 0)
    case atStart => exact ⟨rfl, rfl, rfl⟩
    case round =>
      obtain ⟨rfl, rfl, rfl⟩ := hrel
      go_wp2
      go_ret
      exact ⟨rfl, [], HH.out.1, by simpa [marksMM] using HH.out.2, ⟨rfl, fun i u u' h1 => by simp at h1⟩, Turn.of (Below.refl _ _)⟩
end Go.Proofs.Ytjjafaikaghlgaa.Mem
