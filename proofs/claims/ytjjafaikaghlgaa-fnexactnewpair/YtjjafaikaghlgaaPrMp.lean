/-
  Marks in a pair of a call's own.
-/
import Derived.Test.YtjjafaikaghlgaaPrNw
namespace Go.Proofs.Ytjjafaikaghlgaa.Mem
open Go.ChangeShapes Go.WideShapes Go.RowKit Base Num Slc Slf Rw Tmr Reg Ex
set_option linter.unusedVariables false
set_option linter.unusedSimpArgs false
set_option maxRecDepth 20000

def Pr.cnt (p : Pr) : Nat := sm Mc.cnt p.ms + 3 * sm List.length p.is + 3 * sm List.length p.ts
def marksP (k : Nat) (p : Pr) : Pr := ⟨marksMM k p.ms, marksLL (k + sm Mc.cnt p.ms) p.is, marksLL (k + sm Mc.cnt p.ms + 3 * sm List.length p.is) p.ts⟩
/-- Blocks of two types are two. -/
theorem OwnB.apart {α β : Type} {B B' : TypeId} {f : Fl α} {f' : Fl β} {b b' : Nat} {w : World} {v v' : Value} {l : List α} {l' : List β} (h : OwnB B f b w v l) (h' : OwnB B' f' b' w v' l') (hB : B ≠ B') {p : Nat} (hp : v.ownBlock = some p) (hp' : v'.ownBlock = some p) : False := by
  rcases h.2 with ⟨rfl, _⟩ | ⟨g, cap, cur, rfl, _, hg, _⟩
  · simp [Value.ownBlock] at hp
  rcases h'.2 with ⟨rfl, _⟩ | ⟨g', cap', cur', rfl, _, hg', _⟩
  · simp [Value.ownBlock] at hp'
  have e : g = p := Option.some.inj hp
  have e' : g' = p := Option.some.inj hp'
  subst e e'
  rw [hg] at hg'
  simp only [Option.some.injEq, Obj.cells.injEq] at hg'
  exact hB hg'.2.1
theorem own_apartB {α : Type} {B : TypeId} {f : Fl α} {b b' : Nat} {w : World} {v v' : Value} {l : List α} {l' : List Int} (h : OwnB B f b w v l) (h' : Own b' w v' l') (hB : B ≠ 2) {p : Nat} (hp : v.ownBlock = some p) (hp' : v'.ownBlock = some p) : False := by
  rcases h.2 with ⟨rfl, _⟩ | ⟨g, cap, cur, rfl, _, hg, _⟩
  · simp [Value.ownBlock] at hp
  rcases h'.2 with ⟨rfl, _⟩ | ⟨g', cap', cur', rfl, _, hg', _⟩
  · simp [Value.ownBlock] at hp'
  have e : g = p := Option.some.inj hp
  have e' : g' = p := Option.some.inj hp'
  subst e e'
  rw [hg] at hg'
  simp only [Option.some.injEq, Obj.cells.injEq] at hg'
  exact hB hg'.2.1
set_option maxHeartbeats 2000000 in
theorem markPair_any (B1 B2 B3 : TypeId) (x y z : Value) (uM uS uE : List Value) (p : Pr) (base k : Nat) (w : World) (h : PParts B1 B2 B3 base w x y z uM uS uE p) (hs : p.size ≤ 1100000) (hk : k ≤ 100)
    (n1 : B1 ≠ B2) (n2 : B1 ≠ B3) (n3 : B1 ≠ 78) (n4 : B1 ≠ 121) (m1 : B2 ≠ 2) (m2 : B2 ≠ 78) (m3 : B3 ≠ 2) (m4 : B3 ≠ 78) (m5 : B3 ≠ 121) (m6 : B2 ≠ 121) :
    Calls Try.prog 19 #[.agg #[x, y, z], .int .i64 (k : Int)] w fun e w' => e = .returned (.int .i64 ((k + p.cnt : Nat) : Int)) ∧ PSl w' (.agg #[x, y, z]) (marksP k p) ∧ Turn (fun q => base ≤ q ∧ (Mine2 x uM q ∨ InOne uS q ∨ InOne uE q)) w w' := by
  obtain ⟨vv, hvv⟩ : ∃ vv, vv = Value.agg #[x, y, z] := ⟨_, rfl⟩
  have o1 := h.ox.one okIMc
  have o2 := h.oy.one okIMs
  have o3 := h.oz.one okIEv
  have t1 := sm_cnt p.ms
  unfold Pr.size at hs
  have e1 : tot Mc.len p.ms ≤ 1100000 := by omega
  have e2 : tot List.length p.is ≤ 1100000 := by omega
  have e3 : tot List.length p.ts ≤ 1100000 := by omega
  have e4 : sm List.length p.is ≤ 1100000 := by unfold tot at e2; omega
  rw [← hvv]
  go_enter Try.func19, Try.ntmps19
  go_wp2_with (first
    | (refine box3 rfl rfl hvv o1 o2 o3 sz_ip ?_; intro w0 r0 hB0; have k0 := r0.cell 0))
  have h0 := h.below hB0
  go_at_call 46
  refine (markMcs_any B1 x uM p.ms base k _ h0.ox h0.om h0.am (by omega) (by omega)).mono ?_
  rintro e w1 ⟨rfl, us1, ox1, om1, hs1, ht1⟩
  have bx : ∀ q, Mine2 x uM q → base ≤ q ∧ q < w.heap.size := fun q hq => by
    rcases hq with hq | ⟨u, hu, hq⟩
    · exact h.ox.lt q hq
    · obtain ⟨i, hi⟩ := List.getElem?_of_mem hu
      have hil : i < p.ms.length := by rw [← h.om.1]; exact (List.getElem?_eq_some_iff.1 hi).1
      exact owns_mc.lt _ _ _ _ _ (h.om.2 i u _ hi (List.getElem?_eq_getElem hil)) hq
  have inM : ∀ u ∈ uM, ∃ m, MOwn base w0 u m := fun u hu => by
    obtain ⟨i, hi⟩ := List.getElem?_of_mem hu
    have hil : i < p.ms.length := by rw [← h.om.1]; exact (List.getElem?_eq_some_iff.1 hi).1
    exact ⟨_, h0.om.2 i u _ hi (List.getElem?_eq_getElem hil)⟩
  have inS : ∀ u ∈ uS, ∃ l, OwnF fM base w0 u l := fun u hu => by
    obtain ⟨i, hi⟩ := List.getElem?_of_mem hu
    have hil : i < p.is.length := by rw [← h.oi.1]; exact (List.getElem?_eq_some_iff.1 hi).1
    exact ⟨_, h0.oi.2 i u _ hi (List.getElem?_eq_getElem hil)⟩
  have inE : ∀ u ∈ uE, ∃ l, OwnF fE base w0 u l := fun u hu => by
    obtain ⟨i, hi⟩ := List.getElem?_of_mem hu
    have hil : i < p.ts.length := by rw [← h.ot.1]; exact (List.getElem?_eq_some_iff.1 hi).1
    exact ⟨_, h0.ot.2 i u _ hi (List.getElem?_eq_getElem hil)⟩
  -- what has another type than the machines' blocks
  have ap : ∀ {α : Type} {B : TypeId} {f : Fl α} {v : Value} {l : List α}, B ≠ B1 → B ≠ 2 → OwnB B f base w0 v l → ∀ q, v.ownBlock = some q → ¬ Mine2 x uM q := fun a1 a2 ho q hq hm => by
    rcases hm with hm | ⟨u, hu, hm⟩
    · exact ho.apart h0.ox a1 hq hm
    · obtain ⟨m, vr, va, rfl, g1, g2, _⟩ := inM u hu
      rcases bk_mc.1 hm with hm | hm
      · exact own_apartB ho g1 a2 hq hm
      · exact own_apartB ho g2 a2 hq hm
  have oy1 : OwnB B2 fIMs base w1 y uS := h0.oy.kept fun q hq => ht1.block q (ap n1.symm m1 h0.oy q hq) (h0.oy.lt q hq).2
  have oz1 : OwnB B3 fIEv base w1 z uE := h0.oz.kept fun q hq => ht1.block q (ap n2.symm m3 h0.oz q hq) (h0.oz.lt q hq).2
  have oi1 : All2 (OwnF fM base w1) uS p.is := h0.oi.imp fun u l _ _ ho => ho.kept fun q hq => ht1.block q (ap n3.symm (by decide) (show OwnB 78 fM base w0 u l from ho) q hq) (ho.lt q hq).2
  have ot1 : All2 (OwnF fE base w1) uE p.ts := h0.ot.imp fun u l _ _ ho => ho.kept fun q hq => ht1.block q (ap n4.symm (by decide) (show OwnB 121 fE base w0 u l from ho) q hq) (ho.lt q hq).2
  have r1 : Row w1 w.heap.size #[x, y, z] 33 := ht1.row r0 (fun hq => by have := (bx _ hq).2; omega)
  have k1 := r1.cell 1
  have T1 : Turn (fun q => base ≤ q ∧ (Mine2 x uM q ∨ InOne uS q ∨ InOne uE q)) w w1 := (Turn.of hB0).trans ⟨ht1.os, ht1.tape, ht1.output, ht1.size, fun q hq hl => ht1.block q (fun hm => hq ⟨(bx q hm).1, .inl hm⟩) hl⟩
  have HX : Hid (OwnB B1 fIMc base w1 x us1 ∧ All2 (MOwn base w1) us1 (marksMM k p.ms) ∧ Sub2 uM us1) := ⟨ox1, om1, hs1⟩
  clear ox1 om1 hs1 k0 r0
  go_wp2_with fail
  go_at_call 47
  refine (markMss_any y uS p.is base (k + sm Mc.cnt p.ms) _ (oy1.sl okIMs) oi1 h.ai (by omega) (by omega)).mono ?_
  rintro e w2 ⟨rfl, sy2, oi2, ht2⟩
  have inS1 : ∀ u ∈ uS, ∃ l, OwnF fM base w1 u l := fun u hu => by
    obtain ⟨i, hi⟩ := List.getElem?_of_mem hu
    have hil : i < p.is.length := by rw [← h.oi.1]; exact (List.getElem?_eq_some_iff.1 hi).1
    exact ⟨_, oi1.2 i u _ hi (List.getElem?_eq_getElem hil)⟩
  have bs : ∀ q, InOne uS q → base ≤ q ∧ q < w.heap.size := fun q ⟨u, hu, hq⟩ => by
    obtain ⟨i, hi⟩ := List.getElem?_of_mem hu
    have hil : i < p.is.length := by rw [← h.oi.1]; exact (List.getElem?_eq_some_iff.1 hi).1
    exact (h.oi.2 i u _ hi (List.getElem?_eq_getElem hil)).lt q hq
  have ap2 : ∀ {α : Type} {B : TypeId} {f : Fl α} {v : Value} {l : List α}, B ≠ 78 → OwnB B f base w1 v l → ∀ q, v.ownBlock = some q → ¬ InOne uS q := fun a1 ho q hq ⟨u, hu, hm⟩ => by
    obtain ⟨l, hl⟩ := inS1 u hu
    exact ho.apart (show OwnB 78 fM base w1 u l from hl) a1 hq hm
  have ap2i : ∀ {n : Nat} {v : Value} {l : List Int}, Own n w1 v l → ∀ q, v.ownBlock = some q → ¬ InOne uS q := fun ho q hq ⟨u, hu, hm⟩ => by
    obtain ⟨l, hl⟩ := inS1 u hu
    exact own_apartB (show OwnB 78 fM base w1 u l from hl) ho (by decide) hm hq
  have ox2 : OwnB B1 fIMc base w2 x us1 := HX.out.1.kept fun q hq => ht2.block q (ap2 n3 HX.out.1 q hq) (HX.out.1.lt q hq).2
  have om2 : All2 (MOwn base w2) us1 (marksMM k p.ms) := HX.out.2.1.imp fun u m _ _ ho => by
    obtain ⟨vr, va, rfl, g1, g2, g3⟩ := ho
    exact ⟨vr, va, rfl, g1.kept fun q hq => ht2.block q (ap2i g1 q hq) (g1.lt q hq).2, g2.kept fun q hq => ht2.block q (ap2i g2 q hq) (g2.lt q hq).2, g3⟩
  have oz2 : OwnB B3 fIEv base w2 z uE := oz1.kept fun q hq => ht2.block q (ap2 m4 oz1 q hq) (oz1.lt q hq).2
  have ot2 : All2 (OwnF fE base w2) uE p.ts := ot1.imp fun u l _ _ ho => ho.kept fun q hq => ht2.block q (ap2 (by decide) (show OwnB 121 fE base w1 u l from ho) q hq) (ho.lt q hq).2
  have r2 : Row w2 w.heap.size #[x, y, z] 33 := ht2.row r1 (fun hq => by have := (bs _ hq).2; omega)
  have k2 := r2.cell 2
  have T2 : Turn (fun q => base ≤ q ∧ (Mine2 x uM q ∨ InOne uS q ∨ InOne uE q)) w w2 := T1.trans ⟨ht2.os, ht2.tape, ht2.output, ht2.size, fun q hq hl => ht2.block q (fun hm => hq ⟨(bs q hm).1, .inr (.inl hm)⟩) hl⟩
  have HX2 : Hid (OwnB B1 fIMc base w2 x us1 ∧ All2 (MOwn base w2) us1 (marksMM k p.ms) ∧ SlF fIMs w2 y uS ∧ All2 (OwnF fM base w2) uS (marksLL (k + sm Mc.cnt p.ms) p.is)) := ⟨ox2, om2, sy2, oi2⟩
  have hoy2 : ∀ q, y.ownBlock = some q → ¬ InOne uE q := fun q hq ⟨u, hu, hm⟩ => by
    obtain ⟨l, hl⟩ := inE u hu
    exact h0.oy.apart (show OwnB 121 fE base w0 u l from hl) m6 hq hm
  clear ox2 om2 sy2 oi2 k1 r1 oy1
  go_wp2_with fail
  go_at_call 48
  refine (markEss_any z uE p.ts base (k + sm Mc.cnt p.ms + 3 * sm List.length p.is) _ (oz2.sl okIEv) ot2 h.az (by omega) (by omega)).mono ?_
  rintro e w3 ⟨rfl, sz3, ot3, ht3⟩
  have inE2 : ∀ u ∈ uE, ∃ l, OwnF fE base w2 u l := fun u hu => by
    obtain ⟨i, hi⟩ := List.getElem?_of_mem hu
    have hil : i < p.ts.length := by rw [← h.ot.1]; exact (List.getElem?_eq_some_iff.1 hi).1
    exact ⟨_, ot2.2 i u _ hi (List.getElem?_eq_getElem hil)⟩
  have be : ∀ q, InOne uE q → base ≤ q ∧ q < w.heap.size := fun q ⟨u, hu, hq⟩ => by
    obtain ⟨i, hi⟩ := List.getElem?_of_mem hu
    have hil : i < p.ts.length := by rw [← h.ot.1]; exact (List.getElem?_eq_some_iff.1 hi).1
    exact (h.ot.2 i u _ hi (List.getElem?_eq_getElem hil)).lt q hq
  have ap3 : ∀ {α : Type} {B : TypeId} {f : Fl α} {v : Value} {l : List α}, B ≠ 121 → OwnB B f base w2 v l → ∀ q, v.ownBlock = some q → ¬ InOne uE q := fun a1 ho q hq ⟨u, hu, hm⟩ => by
    obtain ⟨l, hl⟩ := inE2 u hu
    exact ho.apart (show OwnB 121 fE base w2 u l from hl) a1 hq hm
  have ap3i : ∀ {n : Nat} {v : Value} {l : List Int}, Own n w2 v l → ∀ q, v.ownBlock = some q → ¬ InOne uE q := fun ho q hq ⟨u, hu, hm⟩ => by
    obtain ⟨l, hl⟩ := inE2 u hu
    exact own_apartB (show OwnB 121 fE base w2 u l from hl) ho (by decide) hm hq
  obtain ⟨ox2, om2, sy2, oi2⟩ := HX2.out
  have ox3 : OwnB B1 fIMc base w3 x us1 := ox2.kept fun q hq => ht3.block q (ap3 n4 ox2 q hq) (ox2.lt q hq).2
  have om3 : All2 (MSl w3) us1 (marksMM k p.ms) := om2.imp fun u m _ _ ho => by
    obtain ⟨vr, va, rfl, g1, g2, g3⟩ := ho
    exact ⟨vr, va, rfl, (g1.kept fun q hq => ht3.block q (ap3i g1 q hq) (g1.lt q hq).2).sl, (g2.kept fun q hq => ht3.block q (ap3i g2 q hq) (g2.lt q hq).2).sl⟩
  have oi3 : All2 (SlF fM w3) uS (marksLL (k + sm Mc.cnt p.ms) p.is) := oi2.imp fun u l _ _ ho => OwnF.sl okM (ho.kept fun q hq => ht3.block q (ap3 (by decide) (show OwnB 78 fM base w2 u l from ho) q hq) (ho.lt q hq).2)
  have sy3 : SlF fIMs w3 y uS := by
    obtain ⟨a, cap, rfl, q1, q2⟩ := sy2
    refine ⟨a, cap, rfl, q1.keep ht3.size fun h0' a' ha => ht3.block _ (hoy2 _ (by subst ha; rfl)) (q1.lt h0' a' ha), q2⟩
  have T3 : Turn (fun q => base ≤ q ∧ (Mine2 x uM q ∨ InOne uS q ∨ InOne uE q)) w w3 := T2.trans ⟨ht3.os, ht3.tape, ht3.output, ht3.size, fun q hq hl => ht3.block q (fun hm => hq ⟨(be q hm).1, .inr (.inr hm)⟩) hl⟩
  have HF : Hid (PSl w3 (.agg #[x, y, z]) (marksP k p) ∧ Turn (fun q => base ≤ q ∧ (Mine2 x uM q ∨ InOne uS q ∨ InOne uE q)) w w3) := ⟨⟨x, y, z, rfl, ⟨us1, ox3.sl okIMc, om3⟩, ⟨uS, sy3, oi3⟩, ⟨uE, sz3, ot3.imp fun u l _ _ ho => ho.sl okE⟩⟩, T3⟩
  clear ox2 om2 sy2 oi2 ox3 om3 oi3 sy3 sz3 ot3 k2 r2 oz2 ot2 oz1 ot1 oi1
  go_wp2_with fail
  go_ret
  exact ⟨by unfold Pr.cnt; rw [show k + (sm Mc.cnt p.ms + 3 * sm List.length p.is + 3 * sm List.length p.ts) = k + sm Mc.cnt p.ms + 3 * sm List.length p.is + 3 * sm List.length p.ts by omega]; rfl, by rw [hvv]; exact HF.out.1, HF.out.2⟩
theorem PParts.top {B1 B2 B3 : TypeId} {base : Nat} {w : World} {x y z : Value} {uM uS uE : List Value} {p : Pr} (h : PParts B1 B2 B3 base w x y z uM uS uE p) {q : Nat} (hq : Mine2 x uM q ∨ InOne uS q ∨ InOne uE q) : q < w.heap.size := by
  rcases hq with (hq | ⟨u, hu, hq⟩) | ⟨u, hu, hq⟩ | ⟨u, hu, hq⟩
  · exact (h.ox.lt q hq).2
  all_goals
    obtain ⟨i, hi⟩ := List.getElem?_of_mem hu
  · have hil : i < p.ms.length := by rw [← h.om.1]; exact (List.getElem?_eq_some_iff.1 hi).1
    exact (owns_mc.lt _ _ _ _ _ (h.om.2 i u _ hi (List.getElem?_eq_getElem hil)) hq).2
  · have hil : i < p.is.length := by rw [← h.oi.1]; exact (List.getElem?_eq_some_iff.1 hi).1
    exact ((h.oi.2 i u _ hi (List.getElem?_eq_getElem hil)).lt q hq).2
  · have hil : i < p.ts.length := by rw [← h.ot.1]; exact (List.getElem?_eq_some_iff.1 hi).1
    exact ((h.ot.2 i u _ hi (List.getElem?_eq_getElem hil)).lt q hq).2
end Go.Proofs.Ytjjafaikaghlgaa.Mem
