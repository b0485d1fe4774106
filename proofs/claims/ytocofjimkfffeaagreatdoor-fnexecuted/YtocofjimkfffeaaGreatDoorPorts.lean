/-
  The program's places from 240 on, as a map that is made for each call.
-/
import Derived.Test.YtocofjimkfffeaaGreatDoorMc
import Derived.Test.YtocofjimkfffeaaGreatDoorRegs
namespace Go.Proofs.YtocofjimkfffeaaGreatDoor.Mem
open Go.ChangeShapes Go.WideShapes Go.RowKit Base Num Slc Rw Tmr Srl Rom RomOf Mp Reg
set_option linter.unusedVariables false

/-- What the place of the cable tells. -/
def cable (s : Sr) : Int := 128 * flag s.b + flag s.l
/-- What stands at the places from 240 to 248. -/
def Mc.port (m : Mc) (q : Int) : Option Int :=
  if q = 240 then some m.p.d else if q = 241 then some (cable m.p) else if q = 242 then some (m.t.c / 16 % 256) else if q = 243 then some m.t.v else if q = 244 then some m.t.s
  else if q = 245 then some m.t.m else if q = 246 then some m.fl else if q = 247 then some m.ms else if q = 248 then some m.ky else none
/-- The map at b holds what f tells. -/
def PortsAt (w : World) (b : Nat) (f : Int → Option Int) : Prop := ∃ L, MapAt w b L ∧ (L.map Prod.fst).Nodup ∧ ∀ x, mget L x = f x
theorem cableTold_impl (s : Sr) (w : World) :
    Calls Tryz.prog 130 #[s.val] w fun e w' => e = .returned (.int .i64 (cable s)) ∧ Below w.heap.size w w' := by
  obtain ⟨d, b, l, n, x, t⟩ := s
  show Calls Tryz.prog 130 #[.agg #[.int .i64 d, .bool b, .bool l, .int .i64 n, .int .i64 x, .bool t]] w _
  cases b <;> cases l
  all_goals
    go_enter Tryz.func130, Tryz.ntmps130
    go_wp2
    go_ret
    exact ⟨rfl, (Below.refl _ _).alloc (Nat.le_refl _) _⟩
theorem und_map : Tryz.prog.underlying 85 = some (.map 2 2) := Tryz.underlying85
structure Gm (w : World) (cs : Array Value) (W : World) : Prop where
  row : Row W w.heap.size cs 30
  bel : Below w.heap.size w W
theorem Gm.below {w W W' : World} {cs : Array Value} (h : Gm w cs W) (hb : Below W.heap.size W W') : Gm w cs W' := ⟨h.row.below hb, below_more h.bel hb⟩
theorem Gm.onto {w W W' : World} {cs : Array Value} {b : Nat} (h : Gm w cs W) (ho : Onto b W W') (hb : w.heap.size < b) : Gm w cs W' := ⟨h.row.onto ho (by omega), below_onto h.bel ho (by omega)⟩
theorem Gm.drew {w W : World} {cs : Array Value} (h : Gm w cs W) : Gm w cs W.drew := ⟨h.row.drewN 1, h.bel.drew⟩
set_option maxRecDepth 100000 in
set_option maxHeartbeats 4000000 in
theorem portsOf_impl (v : Value) (m : Mc) (w : World) (hm : MSl w v m) (h0 : 0 ≤ m.t.c) (h1 : m.t.c ≤ 1000000000) :
    Calls Tryz.prog 66 #[v] w fun e w' => ∃ b, e = .returned (.map (some b)) ∧ w.heap.size ≤ b ∧ PortsAt w' b m.port ∧ Below w.heap.size w w' := by
  obtain ⟨vr, va, rfl, hr, ha⟩ := hm
  obtain ⟨cs, hv, hcs, hk⟩ := Mc.open vr va m
  rw [hv]
  clear hv hcs
  go_enter Tryz.func66, Tryz.ntmps66
  go_wp2_with (refine box_mc rfl rfl rfl hk ?_; intro w0 r0 hB0)
  have hG : Gm w cs w0 := ⟨r0, hB0⟩
  clear r0 hB0 hr ha
  obtain ⟨l, hl⟩ : ∃ l : List Tk, l = [.new, .val 4 (.pointer (some ⟨w.heap.size, 18, none⟩)), .val 5 (.pointer (some ⟨w.heap.size, 18, none⟩)), .val 6 (.int .i64 (m.p.d)), .ins 240 (m.p.d), .val 7 (.pointer (some ⟨w.heap.size, 18, none⟩)), .val 8 (m.p.val), .val 9 (.int .i64 (cable m.p)), .ins 241 (cable m.p), .val 10 (.pointer (some ⟨w.heap.size, 14, none⟩)), .val 11 (.pointer (some ⟨w.heap.size, 14, none⟩)), .val 12 (.int .i64 (m.t.c)), .val 13 (.int .i64 (m.t.c / 16)), .val 14 (.int .i64 (m.t.c / 16 % 256)), .ins 242 (m.t.c / 16 % 256), .val 15 (.pointer (some ⟨w.heap.size, 14, none⟩)), .val 16 (.pointer (some ⟨w.heap.size, 15, none⟩)), .val 17 (.int .i64 (m.t.v)), .ins 243 (m.t.v), .val 18 (.pointer (some ⟨w.heap.size, 14, none⟩)), .val 19 (.pointer (some ⟨w.heap.size, 16, none⟩)), .val 20 (.int .i64 (m.t.s)), .ins 244 (m.t.s), .val 21 (.pointer (some ⟨w.heap.size, 14, none⟩)), .val 22 (.pointer (some ⟨w.heap.size, 17, none⟩)), .val 23 (.int .i64 (m.t.m)), .ins 245 (m.t.m), .val 24 (.pointer (some ⟨w.heap.size, 11, none⟩)), .val 25 (.int .i64 (m.fl)), .ins 246 (m.fl), .val 26 (.pointer (some ⟨w.heap.size, 12, none⟩)), .val 27 (.int .i64 (m.ms)), .ins 247 (m.ms), .val 28 (.pointer (some ⟨w.heap.size, 13, none⟩)), .val 29 (.int .i64 (m.ky)), .ins 248 (m.ky), .same 30 3, .same 2 30] := ⟨_, rfl⟩
  have hks : l.map Tk.key = [-1, -1, -1, -1, 240, -1, -1, -1, 241, -1, -1, -1, -1, -1, 242, -1, -1, -1, 243, -1, -1, -1, 244, -1, -1, -1, 245, -1, -1, 246, -1, -1, 247, -1, -1, 248, -1, -1] := by rw [hl]; rfl
  refine region_gen (by kernel_rfl) (by kernel_rfl) (fun W => Gm w cs W) (told w.heap.size l) (fun i => Rq (([-1, -1, -1, -1, 240, -1, -1, -1, 241, -1, -1, -1, -1, -1, 242, -1, -1, -1, 243, -1, -1, -1, 244, -1, -1, -1, 245, -1, -1, 246, -1, -1, 247, -1, -1, 248, -1, -1] : List Int).getD i (-1))) ?mono hG.drew ?step ?done
  case mono =>
    refine told_mono hks (by decide +kernel) ?_ ?_ (by rw [hl]; rfl)
    · rw [hl]; kernel_rfl
    · intro q x hx
      rw [hl] at hx
      simp only [Tk.val, Tk.new, Tk.ins, Tk.same, List.mem_cons, List.not_mem_nil, or_false, reduceCtorEq, false_or, Sum.inr.injEq, Sum.inl.injEq, Prod.mk.injEq] at hx
      omega
  case step =>
    intro L ix o A W hi hI hL hd
    have hin : ix < 38 := by
      by_cases hl : ix < 38
      · exact hl
      · simp [hl] at hi
    have hsz : A.tmps.size = 31 := hI.size
    have hg := hI.g
    have ck := hk.at hg.row
    have q0 : ∀ f W, told w.heap.size l 0 f W ↔ Tk.says w.heap.size f W (.new) := fun f W => by rw [hl]; exact Iff.rfl
    have q1 : ∀ f W, told w.heap.size l 1 f W ↔ Tk.says w.heap.size f W (.val 4 (.pointer (some ⟨w.heap.size, 18, none⟩))) := fun f W => by rw [hl]; exact Iff.rfl
    have q2 : ∀ f W, told w.heap.size l 2 f W ↔ Tk.says w.heap.size f W (.val 5 (.pointer (some ⟨w.heap.size, 18, none⟩))) := fun f W => by rw [hl]; exact Iff.rfl
    have q3 : ∀ f W, told w.heap.size l 3 f W ↔ Tk.says w.heap.size f W (.val 6 (.int .i64 (m.p.d))) := fun f W => by rw [hl]; exact Iff.rfl
    have q4 : ∀ f W, told w.heap.size l 4 f W ↔ Tk.says w.heap.size f W (.ins 240 (m.p.d)) := fun f W => by rw [hl]; exact Iff.rfl
    have q5 : ∀ f W, told w.heap.size l 5 f W ↔ Tk.says w.heap.size f W (.val 7 (.pointer (some ⟨w.heap.size, 18, none⟩))) := fun f W => by rw [hl]; exact Iff.rfl
    have q6 : ∀ f W, told w.heap.size l 6 f W ↔ Tk.says w.heap.size f W (.val 8 (m.p.val)) := fun f W => by rw [hl]; exact Iff.rfl
    have q7 : ∀ f W, told w.heap.size l 7 f W ↔ Tk.says w.heap.size f W (.val 9 (.int .i64 (cable m.p))) := fun f W => by rw [hl]; exact Iff.rfl
    have q8 : ∀ f W, told w.heap.size l 8 f W ↔ Tk.says w.heap.size f W (.ins 241 (cable m.p)) := fun f W => by rw [hl]; exact Iff.rfl
    have q9 : ∀ f W, told w.heap.size l 9 f W ↔ Tk.says w.heap.size f W (.val 10 (.pointer (some ⟨w.heap.size, 14, none⟩))) := fun f W => by rw [hl]; exact Iff.rfl
    have q10 : ∀ f W, told w.heap.size l 10 f W ↔ Tk.says w.heap.size f W (.val 11 (.pointer (some ⟨w.heap.size, 14, none⟩))) := fun f W => by rw [hl]; exact Iff.rfl
    have q11 : ∀ f W, told w.heap.size l 11 f W ↔ Tk.says w.heap.size f W (.val 12 (.int .i64 (m.t.c))) := fun f W => by rw [hl]; exact Iff.rfl
    have q12 : ∀ f W, told w.heap.size l 12 f W ↔ Tk.says w.heap.size f W (.val 13 (.int .i64 (m.t.c / 16))) := fun f W => by rw [hl]; exact Iff.rfl
    have q13 : ∀ f W, told w.heap.size l 13 f W ↔ Tk.says w.heap.size f W (.val 14 (.int .i64 (m.t.c / 16 % 256))) := fun f W => by rw [hl]; exact Iff.rfl
    have q14 : ∀ f W, told w.heap.size l 14 f W ↔ Tk.says w.heap.size f W (.ins 242 (m.t.c / 16 % 256)) := fun f W => by rw [hl]; exact Iff.rfl
    have q15 : ∀ f W, told w.heap.size l 15 f W ↔ Tk.says w.heap.size f W (.val 15 (.pointer (some ⟨w.heap.size, 14, none⟩))) := fun f W => by rw [hl]; exact Iff.rfl
    have q16 : ∀ f W, told w.heap.size l 16 f W ↔ Tk.says w.heap.size f W (.val 16 (.pointer (some ⟨w.heap.size, 15, none⟩))) := fun f W => by rw [hl]; exact Iff.rfl
    have q17 : ∀ f W, told w.heap.size l 17 f W ↔ Tk.says w.heap.size f W (.val 17 (.int .i64 (m.t.v))) := fun f W => by rw [hl]; exact Iff.rfl
    have q18 : ∀ f W, told w.heap.size l 18 f W ↔ Tk.says w.heap.size f W (.ins 243 (m.t.v)) := fun f W => by rw [hl]; exact Iff.rfl
    have q19 : ∀ f W, told w.heap.size l 19 f W ↔ Tk.says w.heap.size f W (.val 18 (.pointer (some ⟨w.heap.size, 14, none⟩))) := fun f W => by rw [hl]; exact Iff.rfl
    have q20 : ∀ f W, told w.heap.size l 20 f W ↔ Tk.says w.heap.size f W (.val 19 (.pointer (some ⟨w.heap.size, 16, none⟩))) := fun f W => by rw [hl]; exact Iff.rfl
    have q21 : ∀ f W, told w.heap.size l 21 f W ↔ Tk.says w.heap.size f W (.val 20 (.int .i64 (m.t.s))) := fun f W => by rw [hl]; exact Iff.rfl
    have q22 : ∀ f W, told w.heap.size l 22 f W ↔ Tk.says w.heap.size f W (.ins 244 (m.t.s)) := fun f W => by rw [hl]; exact Iff.rfl
    have q23 : ∀ f W, told w.heap.size l 23 f W ↔ Tk.says w.heap.size f W (.val 21 (.pointer (some ⟨w.heap.size, 14, none⟩))) := fun f W => by rw [hl]; exact Iff.rfl
    have q24 : ∀ f W, told w.heap.size l 24 f W ↔ Tk.says w.heap.size f W (.val 22 (.pointer (some ⟨w.heap.size, 17, none⟩))) := fun f W => by rw [hl]; exact Iff.rfl
    have q25 : ∀ f W, told w.heap.size l 25 f W ↔ Tk.says w.heap.size f W (.val 23 (.int .i64 (m.t.m))) := fun f W => by rw [hl]; exact Iff.rfl
    have q26 : ∀ f W, told w.heap.size l 26 f W ↔ Tk.says w.heap.size f W (.ins 245 (m.t.m)) := fun f W => by rw [hl]; exact Iff.rfl
    have q27 : ∀ f W, told w.heap.size l 27 f W ↔ Tk.says w.heap.size f W (.val 24 (.pointer (some ⟨w.heap.size, 11, none⟩))) := fun f W => by rw [hl]; exact Iff.rfl
    have q28 : ∀ f W, told w.heap.size l 28 f W ↔ Tk.says w.heap.size f W (.val 25 (.int .i64 (m.fl))) := fun f W => by rw [hl]; exact Iff.rfl
    have q29 : ∀ f W, told w.heap.size l 29 f W ↔ Tk.says w.heap.size f W (.ins 246 (m.fl)) := fun f W => by rw [hl]; exact Iff.rfl
    have q30 : ∀ f W, told w.heap.size l 30 f W ↔ Tk.says w.heap.size f W (.val 26 (.pointer (some ⟨w.heap.size, 12, none⟩))) := fun f W => by rw [hl]; exact Iff.rfl
    have q31 : ∀ f W, told w.heap.size l 31 f W ↔ Tk.says w.heap.size f W (.val 27 (.int .i64 (m.ms))) := fun f W => by rw [hl]; exact Iff.rfl
    have q32 : ∀ f W, told w.heap.size l 32 f W ↔ Tk.says w.heap.size f W (.ins 247 (m.ms)) := fun f W => by rw [hl]; exact Iff.rfl
    have q33 : ∀ f W, told w.heap.size l 33 f W ↔ Tk.says w.heap.size f W (.val 28 (.pointer (some ⟨w.heap.size, 13, none⟩))) := fun f W => by rw [hl]; exact Iff.rfl
    have q34 : ∀ f W, told w.heap.size l 34 f W ↔ Tk.says w.heap.size f W (.val 29 (.int .i64 (m.ky))) := fun f W => by rw [hl]; exact Iff.rfl
    have q35 : ∀ f W, told w.heap.size l 35 f W ↔ Tk.says w.heap.size f W (.ins 248 (m.ky)) := fun f W => by rw [hl]; exact Iff.rfl
    have q36 : ∀ f W, told w.heap.size l 36 f W ↔ Tk.says w.heap.size f W (.same 30 3) := fun f W => by rw [hl]; exact Iff.rfl
    have q37 : ∀ f W, told w.heap.size l 37 f W ↔ Tk.says w.heap.size f W (.same 2 30) := fun f W => by rw [hl]; exact Iff.rfl
    rcases ix with _ | ix
    · obtain rfl := (Option.some.inj hi).symm
      exact at_op rfl rfl (makeMap_op rfl ⟨_, rfl, (q0 _ _).2 ⟨_, [], getD_put_same _ _ _ (by omega), hg.row.lt, MapAt.new _, Nice.nil⟩, hg.below ((Below.refl _ _).alloc (Nat.le_refl _) _), Rq.below ((Below.refl _ _).alloc (Nat.le_refl _) _)⟩)
    rcases ix with _ | ix
    · obtain rfl := (Option.some.inj hi).symm
      have e : A.eval (.tmp 1) = .pointer (some ⟨w.heap.size, 0, none⟩) := hI.old 1 (by kernel_rfl)
      refine at_op rfl rfl (val_op (v := .pointer (some ⟨w.heap.size, 18, none⟩)) ?_ ⟨_, rfl, (q1 _ _).2 (getD_put_same _ _ _ (by omega)), hg, Rq.refl _ _⟩)
      unfold execOp
      simp only [List.getElem_toArray, List.getElem_cons_zero, List.getElem_cons_succ, e]
      simp [go_sem]
    rcases ix with _ | ix
    · obtain rfl := (Option.some.inj hi).symm
      have e : A.eval (.tmp 4) = .pointer (some ⟨w.heap.size, 18, none⟩) := (q1 _ _).1 (hI.get hd 1 rfl (by kernel_rfl))
      refine at_op rfl rfl (val_op (v := .pointer (some ⟨w.heap.size, 18, none⟩)) ?_ ⟨_, rfl, (q2 _ _).2 (getD_put_same _ _ _ (by omega)), hg, Rq.refl _ _⟩)
      unfold execOp
      simp only [List.getElem_toArray, List.getElem_cons_zero, List.getElem_cons_succ, e]
      simp [go_sem]
    rcases ix with _ | ix
    · obtain rfl := (Option.some.inj hi).symm
      have e : A.eval (.tmp 5) = .pointer (some ⟨w.heap.size, 18, none⟩) := (q2 _ _).1 (hI.get hd 2 rfl (by kernel_rfl))
      exact at_op rfl rfl (load_op rfl Tryz.underlying2 e ck.pd ⟨_, rfl, (q3 _ _).2 (getD_put_same _ _ _ (by omega)), hg, Rq.refl _ _⟩)
    rcases ix with _ | ix
    · obtain rfl := (Option.some.inj hi).symm
      obtain ⟨b, LL, e3, hb, hM, hN⟩ := (q0 _ _).1 (hI.get hd 0 rfl (by kernel_rfl))
      have e : A.eval (.tmp 6) = .int .i64 (m.p.d) := (q3 _ _).1 (hI.get hd 3 rfl (by kernel_rfl))
      refine at_op rfl rfl (insert_op rfl und_map Tryz.underlying2 e3 rfl e hM ?_)
      intro W' hM' ho'
      exact ⟨_, rfl, (q4 _ _).2 ⟨b, _, e3, hM', hN.put _ (by omega), by rw [mget_mput]; simp⟩, hg.onto ho' hb, Rq.put (q := 240) hM hM' ho' (by omega)⟩
    rcases ix with _ | ix
    · obtain rfl := (Option.some.inj hi).symm
      have e : A.eval (.tmp 1) = .pointer (some ⟨w.heap.size, 0, none⟩) := hI.old 1 (by kernel_rfl)
      refine at_op rfl rfl (val_op (v := .pointer (some ⟨w.heap.size, 18, none⟩)) ?_ ⟨_, rfl, (q5 _ _).2 (getD_put_same _ _ _ (by omega)), hg, Rq.refl _ _⟩)
      unfold execOp
      simp only [List.getElem_toArray, List.getElem_cons_zero, List.getElem_cons_succ, e]
      simp [go_sem]
    rcases ix with _ | ix
    · obtain rfl := (Option.some.inj hi).symm
      have e : A.eval (.tmp 7) = .pointer (some ⟨w.heap.size, 18, none⟩) := (q5 _ _).1 (hI.get hd 5 rfl (by kernel_rfl))
      exact at_op rfl rfl (lw_in (cs' := #[.int .i64 m.p.d, .bool m.p.b, .bool m.p.l, .int .i64 m.p.n, .int .i64 m.p.x, .bool m.p.t]) rfl e hg.row Tryz.underlying28 rfl hk.ser (by kernel_rfl) ⟨_, rfl, (q6 _ _).2 (getD_put_same _ _ _ (by omega)), hg, Rq.refl _ _⟩)
    rcases ix with _ | ix
    · obtain rfl := (Option.some.inj hi).symm
      have e0 : A.eval (.tmp 8) = m.p.val := (q6 _ _).1 (hI.get hd 6 rfl (by kernel_rfl))
      refine at_op rfl rfl (call_op rfl Tryz.func130 (by kernel_rfl) (by kernel_rfl) ?_)
      simp only [List.map_cons, List.map_nil, e0]
      refine (cableTold_impl m.p W).mono ?_
      rintro e w5 ⟨rfl, hb5⟩
      exact ⟨_, rfl, _, rfl, (q7 _ _).2 (getD_put_same _ _ _ (by omega)), hg.below hb5, Rq.below hb5⟩
    rcases ix with _ | ix
    · obtain rfl := (Option.some.inj hi).symm
      obtain ⟨b, LL, e3, hb, hM, hN⟩ := (q0 _ _).1 (hI.get hd 0 rfl (by kernel_rfl))
      have e : A.eval (.tmp 9) = .int .i64 (cable m.p) := (q7 _ _).1 (hI.get hd 7 rfl (by kernel_rfl))
      refine at_op rfl rfl (insert_op rfl und_map Tryz.underlying2 e3 rfl e hM ?_)
      intro W' hM' ho'
      exact ⟨_, rfl, (q8 _ _).2 ⟨b, _, e3, hM', hN.put _ (by omega), by rw [mget_mput]; simp⟩, hg.onto ho' hb, Rq.put (q := 241) hM hM' ho' (by omega)⟩
    rcases ix with _ | ix
    · obtain rfl := (Option.some.inj hi).symm
      have e : A.eval (.tmp 1) = .pointer (some ⟨w.heap.size, 0, none⟩) := hI.old 1 (by kernel_rfl)
      refine at_op rfl rfl (val_op (v := .pointer (some ⟨w.heap.size, 14, none⟩)) ?_ ⟨_, rfl, (q9 _ _).2 (getD_put_same _ _ _ (by omega)), hg, Rq.refl _ _⟩)
      unfold execOp
      simp only [List.getElem_toArray, List.getElem_cons_zero, List.getElem_cons_succ, e]
      simp [go_sem]
    rcases ix with _ | ix
    · obtain rfl := (Option.some.inj hi).symm
      have e : A.eval (.tmp 10) = .pointer (some ⟨w.heap.size, 14, none⟩) := (q9 _ _).1 (hI.get hd 9 rfl (by kernel_rfl))
      refine at_op rfl rfl (val_op (v := .pointer (some ⟨w.heap.size, 14, none⟩)) ?_ ⟨_, rfl, (q10 _ _).2 (getD_put_same _ _ _ (by omega)), hg, Rq.refl _ _⟩)
      unfold execOp
      simp only [List.getElem_toArray, List.getElem_cons_zero, List.getElem_cons_succ, e]
      simp [go_sem]
    rcases ix with _ | ix
    · obtain rfl := (Option.some.inj hi).symm
      have e : A.eval (.tmp 11) = .pointer (some ⟨w.heap.size, 14, none⟩) := (q10 _ _).1 (hI.get hd 10 rfl (by kernel_rfl))
      exact at_op rfl rfl (load_op rfl Tryz.underlying2 e ck.tc ⟨_, rfl, (q11 _ _).2 (getD_put_same _ _ _ (by omega)), hg, Rq.refl _ _⟩)
    rcases ix with _ | ix
    · obtain rfl := (Option.some.inj hi).symm
      have e1 : A.eval (.tmp 12) = .int .i64 (m.t.c) := (q11 _ _).1 (hI.get hd 11 rfl (by kernel_rfl))
      have hq : Int.tdiv (m.t.c) 16 = (m.t.c) / 16 := Int.tdiv_eq_ediv_of_nonneg (by omega)
      exact at_op rfl rfl (bin_op (vy := .int .i64 16) rfl e1 rfl (fun w => by simp [go_sem, hq]; simp [IntKind.wrap, IntKind.bits, IntKind.signed]; omega) ⟨_, rfl, (q12 _ _).2 (getD_put_same _ _ _ (by omega)), hg, Rq.refl _ _⟩)
    rcases ix with _ | ix
    · obtain rfl := (Option.some.inj hi).symm
      have e1 : A.eval (.tmp 13) = .int .i64 (m.t.c / 16) := (q12 _ _).1 (hI.get hd 12 rfl (by kernel_rfl))
      have hq : Int.tmod (m.t.c / 16) 256 = (m.t.c / 16) % 256 := Int.tmod_eq_emod_of_nonneg (by omega)
      exact at_op rfl rfl (bin_op (vy := .int .i64 256) rfl e1 rfl (fun w => by simp [go_sem, hq]) ⟨_, rfl, (q13 _ _).2 (getD_put_same _ _ _ (by omega)), hg, Rq.refl _ _⟩)
    rcases ix with _ | ix
    · obtain rfl := (Option.some.inj hi).symm
      obtain ⟨b, LL, e3, hb, hM, hN⟩ := (q0 _ _).1 (hI.get hd 0 rfl (by kernel_rfl))
      have e : A.eval (.tmp 14) = .int .i64 (m.t.c / 16 % 256) := (q13 _ _).1 (hI.get hd 13 rfl (by kernel_rfl))
      refine at_op rfl rfl (insert_op rfl und_map Tryz.underlying2 e3 rfl e hM ?_)
      intro W' hM' ho'
      exact ⟨_, rfl, (q14 _ _).2 ⟨b, _, e3, hM', hN.put _ (by omega), by rw [mget_mput]; simp⟩, hg.onto ho' hb, Rq.put (q := 242) hM hM' ho' (by omega)⟩
    rcases ix with _ | ix
    · obtain rfl := (Option.some.inj hi).symm
      have e : A.eval (.tmp 1) = .pointer (some ⟨w.heap.size, 0, none⟩) := hI.old 1 (by kernel_rfl)
      refine at_op rfl rfl (val_op (v := .pointer (some ⟨w.heap.size, 14, none⟩)) ?_ ⟨_, rfl, (q15 _ _).2 (getD_put_same _ _ _ (by omega)), hg, Rq.refl _ _⟩)
      unfold execOp
      simp only [List.getElem_toArray, List.getElem_cons_zero, List.getElem_cons_succ, e]
      simp [go_sem]
    rcases ix with _ | ix
    · obtain rfl := (Option.some.inj hi).symm
      have e : A.eval (.tmp 15) = .pointer (some ⟨w.heap.size, 14, none⟩) := (q15 _ _).1 (hI.get hd 15 rfl (by kernel_rfl))
      refine at_op rfl rfl (val_op (v := .pointer (some ⟨w.heap.size, 15, none⟩)) ?_ ⟨_, rfl, (q16 _ _).2 (getD_put_same _ _ _ (by omega)), hg, Rq.refl _ _⟩)
      unfold execOp
      simp only [List.getElem_toArray, List.getElem_cons_zero, List.getElem_cons_succ, e]
      simp [go_sem]
    rcases ix with _ | ix
    · obtain rfl := (Option.some.inj hi).symm
      have e : A.eval (.tmp 16) = .pointer (some ⟨w.heap.size, 15, none⟩) := (q16 _ _).1 (hI.get hd 16 rfl (by kernel_rfl))
      exact at_op rfl rfl (load_op rfl Tryz.underlying2 e ck.tv ⟨_, rfl, (q17 _ _).2 (getD_put_same _ _ _ (by omega)), hg, Rq.refl _ _⟩)
    rcases ix with _ | ix
    · obtain rfl := (Option.some.inj hi).symm
      obtain ⟨b, LL, e3, hb, hM, hN⟩ := (q0 _ _).1 (hI.get hd 0 rfl (by kernel_rfl))
      have e : A.eval (.tmp 17) = .int .i64 (m.t.v) := (q17 _ _).1 (hI.get hd 17 rfl (by kernel_rfl))
      refine at_op rfl rfl (insert_op rfl und_map Tryz.underlying2 e3 rfl e hM ?_)
      intro W' hM' ho'
      exact ⟨_, rfl, (q18 _ _).2 ⟨b, _, e3, hM', hN.put _ (by omega), by rw [mget_mput]; simp⟩, hg.onto ho' hb, Rq.put (q := 243) hM hM' ho' (by omega)⟩
    rcases ix with _ | ix
    · obtain rfl := (Option.some.inj hi).symm
      have e : A.eval (.tmp 1) = .pointer (some ⟨w.heap.size, 0, none⟩) := hI.old 1 (by kernel_rfl)
      refine at_op rfl rfl (val_op (v := .pointer (some ⟨w.heap.size, 14, none⟩)) ?_ ⟨_, rfl, (q19 _ _).2 (getD_put_same _ _ _ (by omega)), hg, Rq.refl _ _⟩)
      unfold execOp
      simp only [List.getElem_toArray, List.getElem_cons_zero, List.getElem_cons_succ, e]
      simp [go_sem]
    rcases ix with _ | ix
    · obtain rfl := (Option.some.inj hi).symm
      have e : A.eval (.tmp 18) = .pointer (some ⟨w.heap.size, 14, none⟩) := (q19 _ _).1 (hI.get hd 19 rfl (by kernel_rfl))
      refine at_op rfl rfl (val_op (v := .pointer (some ⟨w.heap.size, 16, none⟩)) ?_ ⟨_, rfl, (q20 _ _).2 (getD_put_same _ _ _ (by omega)), hg, Rq.refl _ _⟩)
      unfold execOp
      simp only [List.getElem_toArray, List.getElem_cons_zero, List.getElem_cons_succ, e]
      simp [go_sem]
    rcases ix with _ | ix
    · obtain rfl := (Option.some.inj hi).symm
      have e : A.eval (.tmp 19) = .pointer (some ⟨w.heap.size, 16, none⟩) := (q20 _ _).1 (hI.get hd 20 rfl (by kernel_rfl))
      exact at_op rfl rfl (load_op rfl Tryz.underlying2 e ck.ts ⟨_, rfl, (q21 _ _).2 (getD_put_same _ _ _ (by omega)), hg, Rq.refl _ _⟩)
    rcases ix with _ | ix
    · obtain rfl := (Option.some.inj hi).symm
      obtain ⟨b, LL, e3, hb, hM, hN⟩ := (q0 _ _).1 (hI.get hd 0 rfl (by kernel_rfl))
      have e : A.eval (.tmp 20) = .int .i64 (m.t.s) := (q21 _ _).1 (hI.get hd 21 rfl (by kernel_rfl))
      refine at_op rfl rfl (insert_op rfl und_map Tryz.underlying2 e3 rfl e hM ?_)
      intro W' hM' ho'
      exact ⟨_, rfl, (q22 _ _).2 ⟨b, _, e3, hM', hN.put _ (by omega), by rw [mget_mput]; simp⟩, hg.onto ho' hb, Rq.put (q := 244) hM hM' ho' (by omega)⟩
    rcases ix with _ | ix
    · obtain rfl := (Option.some.inj hi).symm
      have e : A.eval (.tmp 1) = .pointer (some ⟨w.heap.size, 0, none⟩) := hI.old 1 (by kernel_rfl)
      refine at_op rfl rfl (val_op (v := .pointer (some ⟨w.heap.size, 14, none⟩)) ?_ ⟨_, rfl, (q23 _ _).2 (getD_put_same _ _ _ (by omega)), hg, Rq.refl _ _⟩)
      unfold execOp
      simp only [List.getElem_toArray, List.getElem_cons_zero, List.getElem_cons_succ, e]
      simp [go_sem]
    rcases ix with _ | ix
    · obtain rfl := (Option.some.inj hi).symm
      have e : A.eval (.tmp 21) = .pointer (some ⟨w.heap.size, 14, none⟩) := (q23 _ _).1 (hI.get hd 23 rfl (by kernel_rfl))
      refine at_op rfl rfl (val_op (v := .pointer (some ⟨w.heap.size, 17, none⟩)) ?_ ⟨_, rfl, (q24 _ _).2 (getD_put_same _ _ _ (by omega)), hg, Rq.refl _ _⟩)
      unfold execOp
      simp only [List.getElem_toArray, List.getElem_cons_zero, List.getElem_cons_succ, e]
      simp [go_sem]
    rcases ix with _ | ix
    · obtain rfl := (Option.some.inj hi).symm
      have e : A.eval (.tmp 22) = .pointer (some ⟨w.heap.size, 17, none⟩) := (q24 _ _).1 (hI.get hd 24 rfl (by kernel_rfl))
      exact at_op rfl rfl (load_op rfl Tryz.underlying2 e ck.tm ⟨_, rfl, (q25 _ _).2 (getD_put_same _ _ _ (by omega)), hg, Rq.refl _ _⟩)
    rcases ix with _ | ix
    · obtain rfl := (Option.some.inj hi).symm
      obtain ⟨b, LL, e3, hb, hM, hN⟩ := (q0 _ _).1 (hI.get hd 0 rfl (by kernel_rfl))
      have e : A.eval (.tmp 23) = .int .i64 (m.t.m) := (q25 _ _).1 (hI.get hd 25 rfl (by kernel_rfl))
      refine at_op rfl rfl (insert_op rfl und_map Tryz.underlying2 e3 rfl e hM ?_)
      intro W' hM' ho'
      exact ⟨_, rfl, (q26 _ _).2 ⟨b, _, e3, hM', hN.put _ (by omega), by rw [mget_mput]; simp⟩, hg.onto ho' hb, Rq.put (q := 245) hM hM' ho' (by omega)⟩
    rcases ix with _ | ix
    · obtain rfl := (Option.some.inj hi).symm
      have e : A.eval (.tmp 1) = .pointer (some ⟨w.heap.size, 0, none⟩) := hI.old 1 (by kernel_rfl)
      refine at_op rfl rfl (val_op (v := .pointer (some ⟨w.heap.size, 11, none⟩)) ?_ ⟨_, rfl, (q27 _ _).2 (getD_put_same _ _ _ (by omega)), hg, Rq.refl _ _⟩)
      unfold execOp
      simp only [List.getElem_toArray, List.getElem_cons_zero, List.getElem_cons_succ, e]
      simp [go_sem]
    rcases ix with _ | ix
    · obtain rfl := (Option.some.inj hi).symm
      have e : A.eval (.tmp 24) = .pointer (some ⟨w.heap.size, 11, none⟩) := (q27 _ _).1 (hI.get hd 27 rfl (by kernel_rfl))
      exact at_op rfl rfl (load_op rfl Tryz.underlying2 e ck.fl ⟨_, rfl, (q28 _ _).2 (getD_put_same _ _ _ (by omega)), hg, Rq.refl _ _⟩)
    rcases ix with _ | ix
    · obtain rfl := (Option.some.inj hi).symm
      obtain ⟨b, LL, e3, hb, hM, hN⟩ := (q0 _ _).1 (hI.get hd 0 rfl (by kernel_rfl))
      have e : A.eval (.tmp 25) = .int .i64 (m.fl) := (q28 _ _).1 (hI.get hd 28 rfl (by kernel_rfl))
      refine at_op rfl rfl (insert_op rfl und_map Tryz.underlying2 e3 rfl e hM ?_)
      intro W' hM' ho'
      exact ⟨_, rfl, (q29 _ _).2 ⟨b, _, e3, hM', hN.put _ (by omega), by rw [mget_mput]; simp⟩, hg.onto ho' hb, Rq.put (q := 246) hM hM' ho' (by omega)⟩
    rcases ix with _ | ix
    · obtain rfl := (Option.some.inj hi).symm
      have e : A.eval (.tmp 1) = .pointer (some ⟨w.heap.size, 0, none⟩) := hI.old 1 (by kernel_rfl)
      refine at_op rfl rfl (val_op (v := .pointer (some ⟨w.heap.size, 12, none⟩)) ?_ ⟨_, rfl, (q30 _ _).2 (getD_put_same _ _ _ (by omega)), hg, Rq.refl _ _⟩)
      unfold execOp
      simp only [List.getElem_toArray, List.getElem_cons_zero, List.getElem_cons_succ, e]
      simp [go_sem]
    rcases ix with _ | ix
    · obtain rfl := (Option.some.inj hi).symm
      have e : A.eval (.tmp 26) = .pointer (some ⟨w.heap.size, 12, none⟩) := (q30 _ _).1 (hI.get hd 30 rfl (by kernel_rfl))
      exact at_op rfl rfl (load_op rfl Tryz.underlying2 e ck.ms ⟨_, rfl, (q31 _ _).2 (getD_put_same _ _ _ (by omega)), hg, Rq.refl _ _⟩)
    rcases ix with _ | ix
    · obtain rfl := (Option.some.inj hi).symm
      obtain ⟨b, LL, e3, hb, hM, hN⟩ := (q0 _ _).1 (hI.get hd 0 rfl (by kernel_rfl))
      have e : A.eval (.tmp 27) = .int .i64 (m.ms) := (q31 _ _).1 (hI.get hd 31 rfl (by kernel_rfl))
      refine at_op rfl rfl (insert_op rfl und_map Tryz.underlying2 e3 rfl e hM ?_)
      intro W' hM' ho'
      exact ⟨_, rfl, (q32 _ _).2 ⟨b, _, e3, hM', hN.put _ (by omega), by rw [mget_mput]; simp⟩, hg.onto ho' hb, Rq.put (q := 247) hM hM' ho' (by omega)⟩
    rcases ix with _ | ix
    · obtain rfl := (Option.some.inj hi).symm
      have e : A.eval (.tmp 1) = .pointer (some ⟨w.heap.size, 0, none⟩) := hI.old 1 (by kernel_rfl)
      refine at_op rfl rfl (val_op (v := .pointer (some ⟨w.heap.size, 13, none⟩)) ?_ ⟨_, rfl, (q33 _ _).2 (getD_put_same _ _ _ (by omega)), hg, Rq.refl _ _⟩)
      unfold execOp
      simp only [List.getElem_toArray, List.getElem_cons_zero, List.getElem_cons_succ, e]
      simp [go_sem]
    rcases ix with _ | ix
    · obtain rfl := (Option.some.inj hi).symm
      have e : A.eval (.tmp 28) = .pointer (some ⟨w.heap.size, 13, none⟩) := (q33 _ _).1 (hI.get hd 33 rfl (by kernel_rfl))
      exact at_op rfl rfl (load_op rfl Tryz.underlying2 e ck.ky ⟨_, rfl, (q34 _ _).2 (getD_put_same _ _ _ (by omega)), hg, Rq.refl _ _⟩)
    rcases ix with _ | ix
    · obtain rfl := (Option.some.inj hi).symm
      obtain ⟨b, LL, e3, hb, hM, hN⟩ := (q0 _ _).1 (hI.get hd 0 rfl (by kernel_rfl))
      have e : A.eval (.tmp 29) = .int .i64 (m.ky) := (q34 _ _).1 (hI.get hd 34 rfl (by kernel_rfl))
      refine at_op rfl rfl (insert_op rfl und_map Tryz.underlying2 e3 rfl e hM ?_)
      intro W' hM' ho'
      exact ⟨_, rfl, (q35 _ _).2 ⟨b, _, e3, hM', hN.put _ (by omega), by rw [mget_mput]; simp⟩, hg.onto ho' hb, Rq.put (q := 248) hM hM' ho' (by omega)⟩
    rcases ix with _ | ix
    · obtain rfl := (Option.some.inj hi).symm
      exact at_op rfl rfl (move_op rfl ⟨_, rfl, (q36 _ _).2 ((getD_put_same _ _ _ (by omega)).trans (getD_put _ _ _ _ (by simp)).symm), hg, Rq.refl _ _⟩)
    rcases ix with _ | ix
    · obtain rfl := (Option.some.inj hi).symm
      exact at_op rfl rfl (assign_op rfl ⟨_, rfl, (q37 _ _).2 ((getD_put_same _ _ _ (by omega)).trans (getD_put _ _ _ _ (by simp)).symm), hg, Rq.refl _ _⟩)
    omega
  case done =>
    intro A W hI
    have hg := hI.g
    have t0 : Tk.says w.heap.size (at_ A) W (.new) := by have := hI.told 0 _ rfl rfl; rw [hl] at this; exact this
    have t4 : Tk.says w.heap.size (at_ A) W (.ins 240 (m.p.d)) := by have := hI.told 4 _ rfl rfl; rw [hl] at this; exact this
    have t8 : Tk.says w.heap.size (at_ A) W (.ins 241 (cable m.p)) := by have := hI.told 8 _ rfl rfl; rw [hl] at this; exact this
    have t14 : Tk.says w.heap.size (at_ A) W (.ins 242 (m.t.c / 16 % 256)) := by have := hI.told 14 _ rfl rfl; rw [hl] at this; exact this
    have t18 : Tk.says w.heap.size (at_ A) W (.ins 243 (m.t.v)) := by have := hI.told 18 _ rfl rfl; rw [hl] at this; exact this
    have t22 : Tk.says w.heap.size (at_ A) W (.ins 244 (m.t.s)) := by have := hI.told 22 _ rfl rfl; rw [hl] at this; exact this
    have t26 : Tk.says w.heap.size (at_ A) W (.ins 245 (m.t.m)) := by have := hI.told 26 _ rfl rfl; rw [hl] at this; exact this
    have t29 : Tk.says w.heap.size (at_ A) W (.ins 246 (m.fl)) := by have := hI.told 29 _ rfl rfl; rw [hl] at this; exact this
    have t32 : Tk.says w.heap.size (at_ A) W (.ins 247 (m.ms)) := by have := hI.told 32 _ rfl rfl; rw [hl] at this; exact this
    have t35 : Tk.says w.heap.size (at_ A) W (.ins 248 (m.ky)) := by have := hI.told 35 _ rfl rfl; rw [hl] at this; exact this
    have t36 : Tk.says w.heap.size (at_ A) W (.same 30 3) := by have := hI.told 36 _ rfl rfl; rw [hl] at this; exact this
    have t37 : Tk.says w.heap.size (at_ A) W (.same 2 30) := by have := hI.told 37 _ rfl rfl; rw [hl] at this; exact this
    obtain ⟨b, LL, e3, hb, hM, hN⟩ := t0
    have g240 : mget LL 240 = some (m.p.d) := by
      obtain ⟨b', L', e3', hM', _, hx⟩ := t4
      obtain rfl : b = b' := by have := e3.symm.trans e3'; simpa using this
      rw [mapAt_one hM hM']; exact hx
    have g241 : mget LL 241 = some (cable m.p) := by
      obtain ⟨b', L', e3', hM', _, hx⟩ := t8
      obtain rfl : b = b' := by have := e3.symm.trans e3'; simpa using this
      rw [mapAt_one hM hM']; exact hx
    have g242 : mget LL 242 = some (m.t.c / 16 % 256) := by
      obtain ⟨b', L', e3', hM', _, hx⟩ := t14
      obtain rfl : b = b' := by have := e3.symm.trans e3'; simpa using this
      rw [mapAt_one hM hM']; exact hx
    have g243 : mget LL 243 = some (m.t.v) := by
      obtain ⟨b', L', e3', hM', _, hx⟩ := t18
      obtain rfl : b = b' := by have := e3.symm.trans e3'; simpa using this
      rw [mapAt_one hM hM']; exact hx
    have g244 : mget LL 244 = some (m.t.s) := by
      obtain ⟨b', L', e3', hM', _, hx⟩ := t22
      obtain rfl : b = b' := by have := e3.symm.trans e3'; simpa using this
      rw [mapAt_one hM hM']; exact hx
    have g245 : mget LL 245 = some (m.t.m) := by
      obtain ⟨b', L', e3', hM', _, hx⟩ := t26
      obtain rfl : b = b' := by have := e3.symm.trans e3'; simpa using this
      rw [mapAt_one hM hM']; exact hx
    have g246 : mget LL 246 = some (m.fl) := by
      obtain ⟨b', L', e3', hM', _, hx⟩ := t29
      obtain rfl : b = b' := by have := e3.symm.trans e3'; simpa using this
      rw [mapAt_one hM hM']; exact hx
    have g247 : mget LL 247 = some (m.ms) := by
      obtain ⟨b', L', e3', hM', _, hx⟩ := t32
      obtain rfl : b = b' := by have := e3.symm.trans e3'; simpa using this
      rw [mapAt_one hM hM']; exact hx
    have g248 : mget LL 248 = some (m.ky) := by
      obtain ⟨b', L', e3', hM', _, hx⟩ := t35
      obtain rfl : b = b' := by have := e3.symm.trans e3'; simpa using this
      rw [mapAt_one hM hM']; exact hx
    have e2 : A.tmps.getD 2 undef = .map (some b) := (show at_ A 2 = at_ A 30 from t37).trans ((show at_ A 30 = at_ A 3 from t36).trans e3)
    have hA := frame_lit A 31 hI.size
    have hde : A.defers = [] := hI.defers
    rw [hde, show List.range 31 = [0, 1, 2, 3, 4, 5, 6, 7, 8, 9, 10, 11, 12, 13, 14, 15, 16, 17, 18, 19, 20, 21, 22, 23, 24, 25, 26, 27, 28, 29, 30] from rfl] at hA
    simp only [List.map_cons, List.map_nil, e2] at hA
    rw [hA]
    clear hA e2 hI hde t36 t37 e3
    have HM : Hid (∀ x, mget LL x = m.port x) := fun x => by
      unfold Mc.port
      by_cases hx : 240 ≤ x ∧ x ≤ 248
      · obtain rfl | rfl | rfl | rfl | rfl | rfl | rfl | rfl | rfl : x = 240 ∨ x = 241 ∨ x = 242 ∨ x = 243 ∨ x = 244 ∨ x = 245 ∨ x = 246 ∨ x = 247 ∨ x = 248 := by omega
        all_goals first | exact g240 | exact g241 | exact g242 | exact g243 | exact g244 | exact g245 | exact g246 | exact g247 | exact g248
      · rw [if_neg (by omega), if_neg (by omega), if_neg (by omega), if_neg (by omega), if_neg (by omega), if_neg (by omega), if_neg (by omega), if_neg (by omega), if_neg (by omega)]
        cases hgx : mget LL x with
        | none => rfl
        | some y => exact absurd (hN.range x y hgx) hx
    clear g240 g241 g242 g243 g244 g245 g246 g247 g248
    go_wp2
    go_ret
    exact ⟨b, rfl, by omega, ⟨LL, hM, hN.one, HM.out⟩, hg.bel⟩
end Go.Proofs.YtocofjimkfffeaaGreatDoor.Mem
