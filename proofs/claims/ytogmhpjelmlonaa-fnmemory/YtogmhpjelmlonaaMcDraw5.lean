/-
  What the draws of chapter 6 give.
-/
import Derived.Test.YtogmhpjelmlonaaMcDraw4
namespace Go.Proofs.Ytogmhpjelmlonaa.Mem
open Go.ChangeShapes Go.WideShapes Go.RowKit Base Draw Slc Num Rw Tmr Srl Rom RomOf Reg
set_option linter.unusedVariables false
set_option linter.unusedSimpArgs false

set_option maxHeartbeats 2000000 in
theorem l6DrawPlace_any {w0 : World} {p : Nat} {a : Option Addr} {len cap : Nat} (w : World) (h : Drawn p a len cap w0 w) :
    Calls Try.prog 35 #[.pointer (some ⟨p, 0, none⟩)] w fun e w' => ∃ z : Int, e = .returned (.int .i64 z) ∧ Onto p w w' ∧ Drawn p a len cap w0 w' := by
  have hpl := h.cur.lt
  go_enter Try.func35, Try.ntmps35
  go_wp2_with fail
  go_at_call 67
  refine (Draw.once_any _ _ h (by omega)).mono ?_
  rintro e w1 ⟨r1, rfl, ho1, hd1⟩
  cases r1
  · have hO := ho1
    go_wp2_with fail
    go_at_call 68
    refine (Draw.below_any _ _ hd1 (by omega)).mono ?_
    rintro e w2 ⟨q2, rfl, hq2, ho2, hd2⟩
    replace hO := hO.trans ho2
    go_wp2_with fail
    go_at_call 68
    refine (Draw.below_any _ _ hd2 (by omega)).mono ?_
    rintro e w3 ⟨q3, rfl, hq3, ho3, hd3⟩
    replace hO := hO.trans ho3
    go_wp2_with fail
    go_at_call 68
    refine (Draw.below_any _ _ hd3 (by omega)).mono ?_
    rintro e w4 ⟨q4, rfl, hq4, ho4, hd4⟩
    replace hO := hO.trans ho4
    go_wp2_with fail
    go_at_call 68
    refine (Draw.below_any _ _ hd4 (by omega)).mono ?_
    rintro e w5 ⟨q5, rfl, hq5, ho5, hd5⟩
    replace hO := hO.trans ho5
    go_wp2_with fail
    go_at_call 68
    refine (Draw.below_any _ _ hd5 (by omega)).mono ?_
    rintro e w6 ⟨q6, rfl, hq6, ho6, hd6⟩
    replace hO := hO.trans ho6
    have hlit := own_lit 0 w6 #[.int .i64 (q2 : Int), .int .i64 (126 + (q3 : Int)), .int .i64 (189 + (q4 : Int)), .int .i64 (239 + (q5 : Int)), .int .i64 (q6 : Int)] [(q2 : Int), 126 + (q3 : Int), 189 + (q4 : Int), 239 + (q5 : Int), (q6 : Int)] rfl (by simp [maxLen]) (Nat.zero_le _)
    have hpl6 : p < w6.heap.size := by have := hO.size; omega
    go_wp2_with fail
    go_at_call 68
    refine (Draw.below_any _ _ (hd6.alloc _) (by omega)).mono ?_
    rintro e w7 ⟨q7, rfl, hq7, ho7, hd7⟩
    have hz := (hlit.onto ho7 (fun e => by simp [Value.ownBlock] at e; omega)).cellAt (j := q7) (by simp; omega)
    generalize ([(q2 : Int), 126 + (q3 : Int), 189 + (q4 : Int), 239 + (q5 : Int), (q6 : Int)] : List Int).getD q7 0 = z at hz
    have hq7' : q7 < 5 := by omega
    go_wp2_with fail
    go_ret
    exact ⟨_, rfl, (hO.alloc _).trans ho7, hd7⟩
  · go_wp2_with fail
    go_at_call 69
    refine (Draw.num_any _ _ hd1 (by omega) (by omega)).mono ?_
    rintro e w2 ⟨z2, rfl, hz2, ho2, hd2⟩
    go_wp2
    go_ret
    exact ⟨_, rfl, ho1.trans ho2, hd2⟩
/-- What stands while a draw is handed back. -/
structure Gd (w wd : World) (p : Nat) (a : Option Addr) (len cap g gr base : Nat) (x y : Value) (M : Mc) (W : World) : Prop where
  cur : CurAt W p a len cap
  row : MRow W g x y M
  res : ∃ cs : Array Value, cs.size = 25 ∧ Row W gr cs 30
  md : MDr base W x y M
  bel : Below w.heap.size w W
/-- Where the blocks lie. -/
structure Pd (w wd : World) (p : Nat) (a : Option Addr) (len g gr base : Nat) : Prop where
  code : 0 < len → ∀ x, a = some x → x.block ≠ gr
  n0 : w.heap.size ≤ gr
  n1 : gr < p
  n2 : p < base
  n3 : wd.heap.size ≤ g
  n4 : p < wd.heap.size
  n5 : gr < wd.heap.size
theorem Gd.drew {w wd W : World} {p : Nat} {a : Option Addr} {len cap g gr base : Nat} {x y : Value} {M : Mc} (h : Gd w wd p a len cap g gr base x y M W) : Gd w wd p a len cap g gr base x y M W.drew :=
  ⟨h.cur.drewN 1, h.row.drewN 1, h.res.imp fun _ r => ⟨r.1, r.2.drewN 1⟩, h.md.below (drew_below (n := 1) rfl), h.bel.drew⟩
theorem Gd.onto {w wd W W' : World} {p : Nat} {a : Option Addr} {len cap g gr base : Nat} {x y : Value} {M : Mc} (h : Gd w wd p a len cap g gr base x y M W) (hP : Pd w wd p a len g gr base) (ho : Onto p W W') (hd : CurAt W' p a len cap) : Gd w wd p a len cap g gr base x y M W' := by
  have := hP.n0; have := hP.n1; have := hP.n2; have := hP.n3; have := hP.n4
  exact ⟨hd, h.row.onto ho (by omega), h.res.imp fun _ r => ⟨r.1, r.2.onto ho (by omega)⟩, h.md.onto ho (by omega), below_onto h.bel ho (by omega)⟩
theorem mdr_new {base : Nat} {w3 w4 w5 : World} {x y : Value} {M : Mc} (h : MDr base w3 x y M) (hb : Below w3.heap.size w3 w4) (ho : Onto w3.heap.size w4 w5) : MDr base w5 x y M := by
  have k1 : ∀ {v : Value} {l : List Int}, Sl w3 v l → Sl w5 v l := fun {v l} hs => by
    by_cases h0 : 0 < l.length
    · exact sl_onto (hs.below hb) ho (fun e => by have := hs.lt h0 _ e; omega)
    · obtain ⟨a, cap, rfl, h1, h2⟩ := hs
      exact ⟨a, cap, rfl, ⟨h1.1, .inl (by omega)⟩, h2⟩
  exact ⟨k1 h.s1, k1 h.s2, h.b1, h.b2, h.l1, h.l2⟩
theorem drawMachineOk_any (a : Option Addr) (len cap : Nat) (w : World) (hc : CodeAt w a len) (hl : len ≤ 4096) :
    Calls Try.prog 12 #[.slice a len cap] w fun e w' => ∃ x y M, e = .returned (Mc.val x y M) ∧ MDr 0 w' x y M ∧ Below w.heap.size w w' := by
  go_enter Try.func12, Try.ntmps12
  go_wp2_with (refine al_mc rfl rfl ?_; intro w1 z1 hB1; have l1 := z1.lt)
  go_at_call 33
  refine (new_any a len cap _ (hc.below hB1) hl).mono ?_
  rintro e w2 ⟨rfl, hb2, hcur⟩
  have z2 := z1.below hb2
  have hB2 := hB1.trans (hb2.mono hB1.size)
  go_wp2_with fail
  go_at_call 34
  refine (l6DrawAny_any _ hcur.drawn).mono ?_
  rintro e w3 ⟨x, y, M, rfl, hm, ho3, hd3⟩
  have z3 := z2.onto ho3 (by omega)
  have hB3 := below_onto hB2 ho3 (by have := hB1.size; omega)
  have s2 := hb2.size
  go_wp2_with (refine st_mc rfl rfl rfl rfl z3 (one_sl hm.s1) (one_sl hm.s2) ?_; rintro w4 z4 o4 -)
  refine ret_mc rfl rfl z4 rfl ?_
  have hm4 := hm.onto o4 (by omega)
  exact ⟨_, _, M, rfl, ⟨hm4.s1, hm4.s2, fun _ _ => Nat.zero_le _, fun _ _ => Nat.zero_le _, hm4.l1, hm4.l2⟩, below_onto hB3 o4 (Nat.le_refl _)⟩
set_option maxRecDepth 20000 in
set_option maxHeartbeats 2000000 in
theorem drawReadAt_any (a : Option Addr) (len cap : Nat) (w : World) (hc : CodeAt w a len) (hl : len ≤ 4096) :
    Calls Try.prog 11 #[.slice a len cap] w fun e w' => ∃ x y M, ∃ z : Int, e = .returned (.tuple #[Mc.val x y M, .int .i64 z]) ∧ MDr 0 w' x y M ∧ Below w.heap.size w w' := by
  go_enter Try.func11, Try.ntmps11
  go_wp2_with (refine al_mc rfl rfl ?_; intro w1 z1 hB1; have l1 := z1.lt)
  go_at_call 33
  refine (new_any a len cap _ (hc.below hB1) hl).mono ?_
  rintro e w2 ⟨rfl, hb2, hcur⟩
  have z2 := z1.below hb2
  have hB2 := hB1.trans (hb2.mono hB1.size)
  have hcl := hcur.lt
  have hcode := hcur.code.lt
  go_wp2_with fail
  go_at_call 34
  refine (l6DrawAny_any _ hcur.drawn).mono ?_
  rintro e w3 ⟨x, y, M, rfl, hm, ho3, hd3⟩
  have z3 := z2.onto ho3 (by omega)
  have hB3 := below_onto hB2 ho3 (by have := hB1.size; omega)
  have s2 := hb2.size
  have s3 := ho3.size
  have hP : Pd w w2 w1.heap.size a len w3.heap.size w.heap.size (w2.heap.size + 1) := ⟨fun h0 x hx e => by have := hc.lt h0 x hx; omega, Nat.le_refl _, by omega, by omega, by omega, by omega, by omega⟩
  go_wp2_with (first
    | (refine al_mc rfl rfl ?_; intro w4 z4 hB4; have l4 := z4.lt)
    | (refine st_mc rfl rfl rfl rfl z4 (one_sl hm.s1) (one_sl hm.s2) ?_; rintro w5 z5 o5 -; have hG : Gd w w2 w1.heap.size a len cap w3.heap.size w.heap.size (w2.heap.size + 1) x y M w5 := ⟨(hd3.cur.below hB4).onto o5 (by omega) (fun h0 x hx e => by have := hcode h0 x hx; omega), z5, ⟨_, rfl, (z3.below hB4).onto o5 (by omega)⟩, mdr_new hm hB4 o5, below_onto (hB3.trans (hB4.mono hB3.size)) o5 (by have := hB3.size; omega)⟩))
  refine region_by_each (by kernel_rfl) (by kernel_rfl) (fun W => Gd w w2 w1.heap.size a len cap w3.heap.size w.heap.size (w2.heap.size + 1) x y M W)
    (kinds [KIs (M.val x y), KIs (.pointer (some ⟨w1.heap.size, 0, none⟩)), KInt, KRow w.heap.size (M.cells x y) 30, KInt])
    (steps 3 (fun k => k = w.heap.size) (fun k => k = w1.heap.size ∨ w2.heap.size ≤ k)) (by kernel_rfl) (kinds_steps ?hY ?hX) hG.drew ?step ?done
  case hY =>
    intro K hK
    simp only [List.mem_cons, List.not_mem_nil, or_false] at hK
    rcases hK with rfl | rfl | rfl | rfl | rfl
    all_goals first | exact bears_is _ _ | exact bears_any _ | exact bears_int _ | exact bears_row _ _ _ _ (by omega)
  case hX =>
    intro ix K hK hne
    rcases ix with _ | ix
    · obtain rfl := (Option.some.inj hK).symm; first | exact bears_is _ _ | exact bears_any _ | exact bears_int _
    rcases ix with _ | ix
    · obtain rfl := (Option.some.inj hK).symm; first | exact bears_is _ _ | exact bears_any _ | exact bears_int _
    rcases ix with _ | ix
    · obtain rfl := (Option.some.inj hK).symm; first | exact bears_is _ _ | exact bears_any _ | exact bears_int _
    rcases ix with _ | ix
    · exact absurd rfl hne
    rcases ix with _ | ix
    · obtain rfl := (Option.some.inj hK).symm; first | exact bears_is _ _ | exact bears_any _ | exact bears_int _
    simp at hK
  case step =>
    intro L ix o A W hi hI hL hd
    have hin : ix < 5 := by
      by_cases hl : ix < 5
      · exact hl
      · simp [hl] at hi
    have hsz : A.tmps.size = 13 := hI.size
    have hS := hI.g
    rcases ix with _ | ix
    · obtain rfl := (Option.some.inj hi).symm
      have e : A.eval (.tmp 5) = .pointer (some ⟨w3.heap.size, 0, none⟩) := hI.old 5 (by kernel_rfl)
      exact at_op rfl rfl (wp_load_row _ _ rfl _ e _ _ _ _ hS.row.row Try.underlying30 rfl info_mc ⟨_, rfl, rfl, hS, steps_other (by decide) (Rel.refl _ _)⟩)
    rcases ix with _ | ix
    · obtain rfl := (Option.some.inj hi).symm
      have e : A.eval (.tmp 4) = .pointer (some ⟨w1.heap.size, 0, none⟩) := hI.old 4 (by kernel_rfl)
      exact at_op rfl rfl (move_op rfl ⟨_, rfl, e, hS, steps_other (by decide) (Rel.refl _ _)⟩)
    rcases ix with _ | ix
    · obtain rfl := (Option.some.inj hi).symm
      have e0 : A.eval (.tmp 11) = .pointer (some ⟨w1.heap.size, 0, none⟩) := hI.get hd 1 11 rfl (by kernel_rfl)
      refine at_op rfl rfl (call_op rfl Try.func35 (by kernel_rfl) (by kernel_rfl) ?_)
      simp only [List.map_cons, List.map_nil, e0]
      refine (l6DrawPlace_any W hS.cur.drawn).mono ?_
      rintro e w7 ⟨z7, rfl, ho7, hd7⟩
      exact ⟨_, rfl, _, rfl, ⟨z7, rfl⟩, hS.onto hP ho7 hd7.cur, steps_other (by decide) (Rel.onto ho7 (.inl rfl))⟩
    rcases ix with _ | ix
    · obtain rfl := (Option.some.inj hi).symm
      have e1 : A.eval (.tmp 10) = M.val x y := hI.get hd 0 10 rfl (by kernel_rfl)
      have e2 : A.eval (.tmp 2) = .pointer (some ⟨w.heap.size, 0, none⟩) := hI.old 2 (by kernel_rfl)
      obtain ⟨oc, hoc, hr⟩ := hS.res
      have hon : Onto w.heap.size W (W.setRow w.heap.size (M.cells x y)) := row_set _
      have hn := hP.n1
      have hn2 := hP.n2
      have hn5 := hP.n5
      have hn3 := hP.n3
      exact at_op rfl rfl (wp_store_row _ _ _ rfl _ _ e2 e1 _ _ hr.row info_mc hoc (all_one (one_sl hS.md.s1) (one_sl hS.md.s2) M) ⟨_, rfl, setRow_heap W _ _ _ _ _ hr.row, ⟨hS.cur.onto hon (by omega) hP.code, hS.row.onto hon (by omega), ⟨_, rfl, Row.of (setRow_heap W _ _ _ _ _ hr.row)⟩, hS.md.onto hon (by omega), below_onto hS.bel hon (Nat.le_refl _)⟩, steps_same (Rel.onto hon rfl)⟩)
    rcases ix with _ | ix
    · obtain rfl := (Option.some.inj hi).symm
      obtain ⟨z, ez⟩ : KInt (A.eval (.tmp 12)) W := hI.get hd 2 12 rfl (by kernel_rfl)
      exact at_op rfl rfl (assign_op rfl ⟨_, rfl, ⟨z, ez⟩, hS, steps_other (by decide) (Rel.refl _ _)⟩)
    omega
  case done =>
    intro A W hI
    have hS := hI.g
    obtain ⟨z3', ez3⟩ : KInt (A.tmps.getD 3 undef) W := hI.slot 4 3 rfl rfl
    obtain ⟨vv, hv⟩ := hI.eff 3 _ rfl rfl rfl
    have hrow : MRow W w.heap.size x y M := Row.of hv
    have hA := hI.frame [10, 11, 12, 3] (by kernel_rfl)
    have e3 : (fun k => A.tmps.getD k undef) 3 = .int .i64 z3' := ez3
    rw [hA]
    simp only [putAll, List.foldl_cons, List.foldl_nil, ez3]
    clear hA hI e3 ez3
    go_wp2
    refine ret_row_tmp rfl rfl hrow Try.underlying30 rfl info_mc rfl rfl ?_
    exact ⟨_, _, M, _, rfl, ⟨hS.md.s1, hS.md.s2, fun _ _ => Nat.zero_le _, fun _ _ => Nat.zero_le _, hS.md.l1, hS.md.l2⟩, hS.bel⟩
set_option maxRecDepth 20000 in
set_option maxHeartbeats 2000000 in
theorem drawWrittenAt_any (a : Option Addr) (len cap : Nat) (w : World) (hc : CodeAt w a len) (hl : len ≤ 4096) :
    Calls Try.prog 9 #[.slice a len cap] w fun e w' => ∃ x y M, ∃ z n : Int, e = .returned (.tuple #[Mc.val x y M, .int .i64 z, .int .i64 n]) ∧ MDr 0 w' x y M ∧ Below w.heap.size w w' := by
  go_enter Try.func9, Try.ntmps9
  go_wp2_with (refine al_mc rfl rfl ?_; intro w1 z1 hB1; have l1 := z1.lt)
  go_at_call 33
  refine (new_any a len cap _ (hc.below hB1) hl).mono ?_
  rintro e w2 ⟨rfl, hb2, hcur⟩
  have z2 := z1.below hb2
  have hB2 := hB1.trans (hb2.mono hB1.size)
  have hcl := hcur.lt
  have hcode := hcur.code.lt
  go_wp2_with fail
  go_at_call 34
  refine (l6DrawAny_any _ hcur.drawn).mono ?_
  rintro e w3 ⟨x, y, M, rfl, hm, ho3, hd3⟩
  have z3 := z2.onto ho3 (by omega)
  have hB3 := below_onto hB2 ho3 (by have := hB1.size; omega)
  have s2 := hb2.size
  have s3 := ho3.size
  have hP : Pd w w2 w1.heap.size a len w3.heap.size w.heap.size (w2.heap.size + 1) := ⟨fun h0 x hx e => by have := hc.lt h0 x hx; omega, Nat.le_refl _, by omega, by omega, by omega, by omega, by omega⟩
  go_wp2_with (first
    | (refine al_mc rfl rfl ?_; intro w4 z4 hB4; have l4 := z4.lt)
    | (refine st_mc rfl rfl rfl rfl z4 (one_sl hm.s1) (one_sl hm.s2) ?_; rintro w5 z5 o5 -; have hG : Gd w w2 w1.heap.size a len cap w3.heap.size w.heap.size (w2.heap.size + 1) x y M w5 := ⟨(hd3.cur.below hB4).onto o5 (by omega) (fun h0 x hx e => by have := hcode h0 x hx; omega), z5, ⟨_, rfl, (z3.below hB4).onto o5 (by omega)⟩, mdr_new hm hB4 o5, below_onto (hB3.trans (hB4.mono hB3.size)) o5 (by have := hB3.size; omega)⟩))
  go_at_call 35
  refine (l6DrawPlace_any _ hG.cur.drawn).mono ?_
  rintro e w6 ⟨z6, rfl, ho6, hd6⟩
  replace hG := hG.onto hP ho6 hd6.cur
  go_wp2_with fail
  refine region_by_each (by kernel_rfl) (by kernel_rfl) (fun W => Gd w w2 w1.heap.size a len cap w3.heap.size w.heap.size (w2.heap.size + 1) x y M W)
    (kinds [KIs (M.val x y), KIs (.int .i64 z6), KIs (.pointer (some ⟨w1.heap.size, 0, none⟩)), KInt, KRow w.heap.size (M.cells x y) 30, KIs (.int .i64 z6), KInt])
    (steps 4 (fun k => k = w.heap.size) (fun k => k = w1.heap.size ∨ w2.heap.size ≤ k)) (by kernel_rfl) (kinds_steps ?hY ?hX) hG.drew ?step ?done
  case hY =>
    intro K hK
    simp only [List.mem_cons, List.not_mem_nil, or_false] at hK
    rcases hK with rfl | rfl | rfl | rfl | rfl | rfl | rfl
    all_goals first | exact bears_is _ _ | exact bears_any _ | exact bears_int _ | exact bears_row _ _ _ _ (by omega)
  case hX =>
    intro ix K hK hne
    rcases ix with _ | ix
    · obtain rfl := (Option.some.inj hK).symm; first | exact bears_is _ _ | exact bears_any _ | exact bears_int _
    rcases ix with _ | ix
    · obtain rfl := (Option.some.inj hK).symm; first | exact bears_is _ _ | exact bears_any _ | exact bears_int _
    rcases ix with _ | ix
    · obtain rfl := (Option.some.inj hK).symm; first | exact bears_is _ _ | exact bears_any _ | exact bears_int _
    rcases ix with _ | ix
    · obtain rfl := (Option.some.inj hK).symm; first | exact bears_is _ _ | exact bears_any _ | exact bears_int _
    rcases ix with _ | ix
    · exact absurd rfl hne
    rcases ix with _ | ix
    · obtain rfl := (Option.some.inj hK).symm; first | exact bears_is _ _ | exact bears_any _ | exact bears_int _
    rcases ix with _ | ix
    · obtain rfl := (Option.some.inj hK).symm; first | exact bears_is _ _ | exact bears_any _ | exact bears_int _
    simp at hK
  case step =>
    intro L ix o A W hi hI hL hd
    have hin : ix < 7 := by
      by_cases hl : ix < 7
      · exact hl
      · simp [hl] at hi
    have hsz : A.tmps.size = 18 := hI.size
    have hS := hI.g
    rcases ix with _ | ix
    · obtain rfl := (Option.some.inj hi).symm
      have e : A.eval (.tmp 6) = .pointer (some ⟨w3.heap.size, 0, none⟩) := hI.old 6 (by kernel_rfl)
      exact at_op rfl rfl (wp_load_row _ _ rfl _ e _ _ _ _ hS.row.row Try.underlying30 rfl info_mc ⟨_, rfl, rfl, hS, steps_other (by decide) (Rel.refl _ _)⟩)
    rcases ix with _ | ix
    · obtain rfl := (Option.some.inj hi).symm
      have e : A.eval (.tmp 7) = .int .i64 z6 := hI.old 7 (by kernel_rfl)
      exact at_op rfl rfl (move_op rfl ⟨_, rfl, e, hS, steps_other (by decide) (Rel.refl _ _)⟩)
    rcases ix with _ | ix
    · obtain rfl := (Option.some.inj hi).symm
      have e : A.eval (.tmp 5) = .pointer (some ⟨w1.heap.size, 0, none⟩) := hI.old 5 (by kernel_rfl)
      exact at_op rfl rfl (move_op rfl ⟨_, rfl, e, hS, steps_other (by decide) (Rel.refl _ _)⟩)
    rcases ix with _ | ix
    · obtain rfl := (Option.some.inj hi).symm
      have e0 : A.eval (.tmp 16) = .pointer (some ⟨w1.heap.size, 0, none⟩) := hI.get hd 2 16 rfl (by kernel_rfl)
      refine at_op rfl rfl (call_op rfl Try.func36 (by kernel_rfl) (by kernel_rfl) ?_)
      simp only [List.map_cons, List.map_nil, e0]
      refine (Draw.drawByte_any W hS.cur.drawn).mono ?_
      rintro e w7 ⟨z7, rfl, hz7, ho7, hd7⟩
      exact ⟨_, rfl, _, rfl, ⟨z7, rfl⟩, hS.onto hP ho7 hd7.cur, steps_other (by decide) (Rel.onto ho7 (.inl rfl))⟩
    rcases ix with _ | ix
    · obtain rfl := (Option.some.inj hi).symm
      have e1 : A.eval (.tmp 14) = M.val x y := hI.get hd 0 14 rfl (by kernel_rfl)
      have e2 : A.eval (.tmp 2) = .pointer (some ⟨w.heap.size, 0, none⟩) := hI.old 2 (by kernel_rfl)
      obtain ⟨oc, hoc, hr⟩ := hS.res
      have hon : Onto w.heap.size W (W.setRow w.heap.size (M.cells x y)) := row_set _
      have hn := hP.n1
      have hn2 := hP.n2
      have hn5 := hP.n5
      have hn3 := hP.n3
      exact at_op rfl rfl (wp_store_row _ _ _ rfl _ _ e2 e1 _ _ hr.row info_mc hoc (all_one (one_sl hS.md.s1) (one_sl hS.md.s2) M) ⟨_, rfl, setRow_heap W _ _ _ _ _ hr.row, ⟨hS.cur.onto hon (by omega) hP.code, hS.row.onto hon (by omega), ⟨_, rfl, Row.of (setRow_heap W _ _ _ _ _ hr.row)⟩, hS.md.onto hon (by omega), below_onto hS.bel hon (Nat.le_refl _)⟩, steps_same (Rel.onto hon rfl)⟩)
    rcases ix with _ | ix
    · obtain rfl := (Option.some.inj hi).symm
      have e : A.eval (.tmp 15) = .int .i64 z6 := hI.get hd 1 15 rfl (by kernel_rfl)
      exact at_op rfl rfl (assign_op rfl ⟨_, rfl, e, hS, steps_other (by decide) (Rel.refl _ _)⟩)
    rcases ix with _ | ix
    · obtain rfl := (Option.some.inj hi).symm
      obtain ⟨z, ez⟩ : KInt (A.eval (.tmp 17)) W := hI.get hd 3 17 rfl (by kernel_rfl)
      exact at_op rfl rfl (assign_op rfl ⟨_, rfl, ⟨z, ez⟩, hS, steps_other (by decide) (Rel.refl _ _)⟩)
    omega
  case done =>
    intro A W hI
    have hS := hI.g
    have ez3 : A.tmps.getD 3 undef = .int .i64 z6 := hI.slot 5 3 rfl rfl
    obtain ⟨z4', ez4⟩ : KInt (A.tmps.getD 4 undef) W := hI.slot 6 4 rfl rfl
    obtain ⟨vv, hv⟩ := hI.eff 4 _ rfl rfl rfl
    have hrow : MRow W w.heap.size x y M := Row.of hv
    have hA := hI.frame [14, 15, 16, 17, 3, 4] (by kernel_rfl)
    rw [hA]
    simp only [putAll, List.foldl_cons, List.foldl_nil, ez3, ez4]
    clear hA hI ez3 ez4
    simp only [List.setIfInBounds_toArray, List.set_cons_zero, List.set_cons_succ]
    go_wp2
    refine ret_row_tmp2 (v := .int .i64 z6) (v2 := .int .i64 z4') rfl rfl hrow Try.underlying30 rfl info_mc rfl rfl rfl ?_
    exact ⟨x, y, M, z6, z4', rfl, ⟨hS.md.s1, hS.md.s2, fun _ _ => Nat.zero_le _, fun _ _ => Nat.zero_le _, hS.md.l1, hS.md.l2⟩, hS.bel⟩
end Go.Proofs.Ytogmhpjelmlonaa.Mem
