/-
  What the draw of a machine gives.
-/
import Derived.Test.YtocofjimkfffeaaGreatDoorMcDraw2
import Derived.Test.YtocofjimkfffeaaGreatDoorMcCopyI
namespace Go.Proofs.YtocofjimkfffeaaGreatDoor.Mem
open Go.ChangeShapes Go.WideShapes Go.RowKit Base Draw Slc Num Rw Tmr Srl Rom RomOf Reg
set_option linter.unusedVariables false
set_option linter.unusedSimpArgs false

theorem rom_bytes {l : List Int} (hb : l.all bok = true) (h1 : 1 ≤ l.length) (h2 : l.length ≤ 127) : romOk (l ++ [chk l]) = true := by
  have hc := chk_ok l hb
  have hlast : (l ++ [chk l]).getD ((l ++ [chk l]).length - 1) 0 = chk l := by simp [List.getD_eq_getElem?_getD]
  rw [romOk_mid (by simp; omega) (by simp; omega) (by rw [List.all_append, hb]; simp [hc]), hlast]
  simp
def KPt (b n : Nat) (v : Value) (w : World) : Prop := ∃ r : Nat, v = .pointer (some ⟨b, r, none⟩) ∧ r < n
theorem bears_pt (X : Nat → Prop) (b n : Nat) : Bears X (KPt b n) := fun _ _ _ h _ => h
/-- A number is stored, in a drawn region. -/
theorem sto_op {o : Oper} {a : Act} {w : World} {K : Act → World → Prop} {Q : Exit → Act → World → Prop} {x y : Operand} {b r : Nat} {z : Int} {old : Value} (ho : o.op = .store 2 x y) (hx : a.eval x = .pointer (some ⟨b, r, none⟩)) (hy : a.eval y = .int .i64 z)
    (hc : w.cell? ⟨b, r, none⟩ = some old) (hf : w.frozen? ⟨b, r, none⟩ = false) (h : K (a.put o.dst undef) (w.setCell ⟨b, r, none⟩ (.int .i64 z))) : o.wp Tryz.prog a w K Q := by
  unfold Oper.wp execOp
  have ht : w.there b r 1 := fun j hj => by
    obtain rfl : j = 0 := by omega
    exact ⟨by simp [hc], hf⟩
  simp only [ho, hx, hy, Instr.storeAt, Instr.sureAddr, Sem.run_bind, Sem.run_pure, Result.andThen_ok, run_store_in w b r 2 (.int .i64 z) [.int .i64 z] rfl ht info_i rfl]
  exact h
theorem add_wrap (i j : Int) (x y : Operand) (w : World) : (do eqGuard .add 2 x y (.int .i64 i) (.int .i64 j); binOp .add 2 (.int .i64 i) (.int .i64 j) : Sem Value).run Tryz.prog w = .ok (.int .i64 (IntKind.i64.wrap (i + j))) w := by simp [go_sem]
set_option maxRecDepth 100000 in
set_option maxHeartbeats 8000000 in
theorem l6Draw_any {w0 : World} {p : Nat} {a : Option Addr} {len cap : Nat} (w : World) (h0 : Drawn p a len cap w0 w) :
    Calls Tryz.prog 59 #[.pointer (some ⟨p, 0, none⟩)] w fun e w' => ∃ x y M, e = .returned (Mc.val x y M) ∧ (2 ≤ M.rom.length ∧ M.rom.length ≤ 128 ∧ M.ram.length = 64 ∧ Own (w.heap.size + 1) w' x M.rom ∧ Own (w.heap.size + 1) w' y M.ram ∧ Apart x y ∧ 0 ≤ M.pc ∧ M.pc ≤ 255) ∧ Onto p w w' ∧ Drawn p a len cap w0 w' := by
  have hend : ∀ w', Drawn p a len cap w w' → Onto p w w' ∧ Drawn p a len cap w0 w' := fun w' hd => ⟨hd.onto, h0.onto.trans hd.onto, hd.cur⟩
  have h := h0.cur.drawn
  have hOldC : OldC p a len w := ⟨h0.cur.lt, h0.cur.code.lt⟩
  have hpw := h0.cur.lt
  go_enter Tryz.func59, Tryz.ntmps59
  go_wp2_with (refine al_mc rfl rfl ?_; intro w1 z1 hB1; have l1 := z1.lt)
  go_at_call 124
  refine (l6DrawCode_any _ (h.below hB1)).mono ?_
  rintro e w2 ⟨v2, l, rfl, ho2, hl1, hl2, hall, hon2, hd2⟩
  have z2 := z1.onto hon2 (by omega)
  have s2 := hon2.size
  go_wp2_with fail
  go_at_call 22
  refine (romOf_spec v2 l _ ho2.sl (by omega)).mono ?_
  rintro e w3 ⟨v3, rfl, ho3, hb3⟩
  have hrom := rom_bytes hall hl1 (by omega)
  have hro : romOf l = l ++ [chk l] := by simp [romOf, hrom]
  rw [hro] at ho3
  have z3 := z2.below hb3
  have hd3 := hd2.below hb3
  have s3 := hb3.size
  go_wp2_with fail
  go_at_call 125
  refine (newMachine_spec v3 (l ++ [chk l]) _ ho3.sl).mono ?_
  rintro e w4 ⟨v4, rfl, ⟨x, y, rfl, hx, hy, hxy⟩, hb4⟩
  have hnm : newMc (l ++ [chk l]) = Mc.fresh (l ++ [chk l]) := by simp [newMc, hrom]
  rw [hnm] at hx hy
  have z4 := z3.below hb4
  have hd4 := hd3.below hb4
  have s4 := hb4.size
  have hxl := hx.lt
  have hyl := hy.lt
  have ho34 := ho3.below hb4
  obtain ⟨a3, c3, e3, hi3, hm3, _⟩ := ho34.shape
  have hlen3 : (l ++ [chk l]).length = l.length + 1 := by simp
  rw [hlen3] at e3
  subst e3
  rw [hnm]
  have hram : (Mc.fresh (l ++ [chk l])).ram.length = 64 := by simp [Mc.fresh]
  obtain ⟨gy, cy, rfl, hgy1, hgy2, hgy3, hgy4⟩ := hy.block (by omega)
  have hfr : ∀ q, Mc.val x (.slice (some ⟨gy, 0, none⟩) (Mc.fresh (l ++ [chk l])).ram.length cy) q = Mc.val x (.slice (some ⟨gy, 0, none⟩) 64 cy) q := fun q => by rw [hram]
  rw [hram] at hy hyl hxy
  rw [hfr]
  clear hfr
  have HR : Hid ((Mc.fresh (l ++ [chk l])).ram.length = 64) := hram
  clear hram z1 z2 z3 hd2 hd3 ho3 hi3 hm3
  go_wp2_with (first
    | (refine al_mc rfl rfl ?_; intro w5 z5 hB5; have r5 := z4.below hB5; have x5 := hx.below hB5; have y5 := hy.below hB5; have hd5 := hd4.below hB5; have l5 := z5.lt)
    | (refine st_mc rfl rfl rfl rfl z5 (one_own hx) (one_own hy) ?_; rintro w6 z6 o6 -; have hS : Md w p a len cap w3.heap.size w4.heap.size w.heap.size x (.slice (some ⟨gy, 0, none⟩) 64 cy) w6 := ⟨drawn_other hd5 o6 (by omega) hOldC, ⟨_, z6, Int.le_refl 0, by show (0 : Int) ≤ 255; omega⟩, ⟨_, _, _, r5.onto o6 (by omega)⟩, ⟨_, by simp [Mc.fresh]; omega, by simp [Mc.fresh]; omega, x5.onto o6 (fun e => by have := hxl _ e; omega)⟩, ⟨_, by simp [Mc.fresh], y5.onto o6 (fun e => by have := hyl _ e; omega)⟩⟩; have hP : Pm w p a len w3.heap.size w4.heap.size w.heap.size x (.slice (some ⟨gy, 0, none⟩) 64 cy) := ⟨hOldC, hpw, Nat.le_refl _, by omega, by omega, fun k hk => by have := hxl k hk; omega, fun k hk => by have := hyl k hk; omega, hxy⟩; clear z5 r5 x5 y5 hd5 z6 o6)
      | (go_at_call 28; refine (Draw.below_any _ _ hS.drawn (by omega)).mono ?_; rintro e w9 ⟨r9, rfl, hr9, ho9, hd9⟩; replace hS := hS.onto hP ho9 hd9; clear ho9 hd9)
      | (go_at_call 27; refine (Draw.once_any _ _ hS.drawn (by omega)).mono ?_; rintro e w9 ⟨r9, rfl, ho9, hd9⟩; replace hS := hS.onto hP ho9 hd9; clear ho9 hd9)
      | (go_at_call 126; refine (l4Draw_any _ hS.drawn).mono ?_; rintro e w9 ⟨t9, rfl, ho9, hd9⟩; replace hS := hS.onto hP ho9 hd9; clear ho9 hd9)
      | (go_at_call 127; refine (l5Draw_any _ hS.drawn).mono ?_; rintro e w9 ⟨s9, rfl, ho9, hd9⟩; replace hS := hS.onto hP ho9 hd9; clear ho9 hd9)
      | (refine ld_numA (k := 14) rfl rfl rfl hS.row rfl ?_; intro z9)
      | (refine ld_numA (k := 22) rfl rfl rfl hS.row rfl ?_; intro z9; by_cases hz9 : 0 < z9)
      | (refine st_numA rfl rfl rfl rfl hS.row rfl (by omega) ?_; intro w8 hr8 o8; replace hS := hS.field hP o8 hr8; clear hr8 o8)
      | (refine st_yesA rfl rfl rfl rfl hS.row rfl ?_; intro w8 hr8 o8; replace hS := hS.field hP o8 hr8; clear hr8 o8)
      | (refine st_timeA rfl rfl rfl rfl hS.row ?_; intro w8 hr8 o8; replace hS := hS.field hP o8 hr8; clear hr8 o8)
      | (refine st_portA rfl rfl rfl rfl hS.row ?_; intro w8 hr8 o8; replace hS := hS.field hP o8 hr8; clear hr8 o8))
  · skip
    refine region_by (by kernel_rfl) (by kernel_rfl) (fun W => Md w p a len cap w3.heap.size w4.heap.size w.heap.size x (.slice (some ⟨gy, 0, none⟩) 64 cy) W)
      (kinds [KIs (.pointer (some ⟨w4.heap.size, 24, none⟩)), KInt, KInt, KIs (.pointer (some ⟨p, 0, none⟩)), KIdx 12, KInt, KIs (.pointer (some ⟨w4.heap.size, 18, none⟩)), KIs (.pointer (some ⟨w4.heap.size, 22, none⟩)), KAny])
      (Rel fun _ => True) (by kernel_rfl) (kinds_mono ?mono) hS.drew ?step ?done
    case mono =>
      intro K hK
      simp only [List.mem_cons, List.not_mem_nil, or_false] at hK
      rcases hK with rfl | rfl | rfl | rfl | rfl | rfl | rfl | rfl | rfl
      all_goals first | exact bears_is _ _ | exact bears_any _ | exact bears_idx _ _ | exact bears_int _
    case step =>
      intro L ix o A W hi hI hL hd
      have hin : ix < 9 := by
        by_cases hl : ix < 9
        · exact hl
        · simp [hl] at hi
      have hsz : A.tmps.size = 100 := hI.size
      have hS := hI.g
      rcases ix with _ | ix
      · obtain rfl := (Option.some.inj hi).symm
        have e : A.eval (.tmp 5) = .pointer (some ⟨w4.heap.size, 0, none⟩) := hI.old 5 (by kernel_rfl)
        refine at_op rfl rfl (val_op (v := .pointer (some ⟨w4.heap.size, 24, none⟩)) ?_ ⟨_, rfl, rfl, hS, Rel.refl _ _⟩)
        unfold execOp
        simp only [List.getElem_toArray, List.getElem_cons_zero, List.getElem_cons_succ, e]
        simp [go_sem]
      rcases ix with _ | ix
      · obtain rfl := (Option.some.inj hi).symm
        have e : A.eval (.tmp 68) = .pointer (some ⟨w4.heap.size, 24, none⟩) := hI.get hd 0 68 rfl (by kernel_rfl)
        obtain ⟨M, hM, hMp⟩ := hS.row
        exact at_op rfl rfl (load_op rfl Tryz.underlying2 e (cw hM).k ⟨_, rfl, ⟨_, rfl⟩, hS, Rel.refl _ _⟩)
      rcases ix with _ | ix
      · obtain rfl := (Option.some.inj hi).symm
        obtain ⟨z, ez⟩ : KInt (A.eval (.tmp 69)) W := hI.get hd 1 69 rfl (by kernel_rfl)
        exact at_op rfl rfl (bin_op (vy := .int .i64 1) rfl ez rfl (fun w => add_wrap _ _ _ _ w) ⟨_, rfl, ⟨_, rfl⟩, hS, Rel.refl _ _⟩)
      rcases ix with _ | ix
      · obtain rfl := (Option.some.inj hi).symm
        have e : A.eval (.tmp 0) = .pointer (some ⟨p, 0, none⟩) := hI.old 0 (by kernel_rfl)
        exact at_op rfl rfl (move_op rfl ⟨_, rfl, e, hS, Rel.refl _ _⟩)
      rcases ix with _ | ix
      · obtain rfl := (Option.some.inj hi).symm
        have e0 : A.eval (.tmp 71) = .pointer (some ⟨p, 0, none⟩) := hI.get hd 3 71 rfl (by kernel_rfl)
        refine at_op rfl rfl (call_op rfl Tryz.func28 (by kernel_rfl) (by kernel_rfl) ?_)
        simp only [List.map_cons, List.map_nil, e0]
        refine (Draw.below_any 12 W hS.drawn (by omega)).mono ?_
        rintro e w5 ⟨r, rfl, hr5, ho5, hdr5⟩
        exact ⟨_, rfl, _, rfl, ⟨r, rfl, hr5⟩, hS.onto hP ho5 hdr5, Rel.onto ho5 trivial⟩
      rcases ix with _ | ix
      · obtain rfl := (Option.some.inj hi).symm
        obtain ⟨z, ez⟩ : KInt (A.eval (.tmp 70)) W := hI.get hd 2 70 rfl (by kernel_rfl)
        obtain ⟨r, er, _⟩ : KIdx 12 (A.eval (.tmp 72)) W := hI.get hd 4 72 rfl (by kernel_rfl)
        exact at_op rfl rfl (bin_op rfl ez er (fun w => add_wrap _ _ _ _ w) ⟨_, rfl, ⟨_, rfl⟩, hS, Rel.refl _ _⟩)
      rcases ix with _ | ix
      · obtain rfl := (Option.some.inj hi).symm
        have e : A.eval (.tmp 5) = .pointer (some ⟨w4.heap.size, 0, none⟩) := hI.old 5 (by kernel_rfl)
        refine at_op rfl rfl (val_op (v := .pointer (some ⟨w4.heap.size, 18, none⟩)) ?_ ⟨_, rfl, rfl, hS, Rel.refl _ _⟩)
        unfold execOp
        simp only [List.getElem_toArray, List.getElem_cons_zero, List.getElem_cons_succ, e]
        simp [go_sem]
      rcases ix with _ | ix
      · obtain rfl := (Option.some.inj hi).symm
        have e : A.eval (.tmp 74) = .pointer (some ⟨w4.heap.size, 18, none⟩) := hI.get hd 6 74 rfl (by kernel_rfl)
        refine at_op rfl rfl (val_op (v := .pointer (some ⟨w4.heap.size, 22, none⟩)) ?_ ⟨_, rfl, rfl, hS, Rel.refl _ _⟩)
        unfold execOp
        simp only [List.getElem_toArray, List.getElem_cons_zero, List.getElem_cons_succ, e]
        simp [go_sem]
      rcases ix with _ | ix
      · obtain rfl := (Option.some.inj hi).symm
        have e : A.eval (.tmp 75) = .pointer (some ⟨w4.heap.size, 22, none⟩) := hI.get hd 7 75 rfl (by kernel_rfl)
        obtain ⟨z, ez⟩ : KInt (A.eval (.tmp 73)) W := hI.get hd 5 73 rfl (by kernel_rfl)
        obtain ⟨M, hM, hMp⟩ := hS.row
        refine at_op rfl rfl (sw_in rfl e ez hM rfl info_i (by rw [Mc.size]; omega) ?_)
        intro W' r0' ho'
        exact ⟨_, rfl, trivial, hS.field hP ho' ⟨{ M with p := { M.p with x := z } }, r0', hMp⟩, Rel.onto ho' trivial⟩
      omega
    case done =>
      intro A W hI
      have hS := hI.g
      have hA := hI.frame [68, 69, 70, 71, 72, 73, 74, 75] (by kernel_rfl)
      rw [hA]
      clear hA hI
      simp only [putAll, List.foldl_cons, List.foldl_nil]
      go_wp2_with (first
        | (go_at_call 28; refine (Draw.below_any _ _ hS.drawn (by omega)).mono ?_; rintro e w9 ⟨r9, rfl, hr9, ho9, hd9⟩; replace hS := hS.onto hP ho9 hd9; clear ho9 hd9))
      go_loopw [7] (fun n wr => ∃ k : Nat, n = .int .i64 k ∧ k ≤ 4 ∧ Md w p a len cap w3.heap.size w4.heap.size w.heap.size x (.slice (some ⟨gy, 0, none⟩) 64 cy) wr) (fun n _ => (intOf n).toNat)
      case atStart => exact ⟨_, rfl, by omega, hS⟩
      case round =>
        clear hS
        obtain ⟨k, rfl, hk4, hS⟩ := hrel
        by_cases hk : 0 < k
        · go_wp2_with fail
          refine region_by (by kernel_rfl) (by kernel_rfl) (fun W => Md w p a len cap w3.heap.size w4.heap.size w.heap.size x (.slice (some ⟨gy, 0, none⟩) 64 cy) W)
            (kinds [KIs (.pointer (some ⟨w4.heap.size, 1, none⟩)), KIs (.slice (some ⟨gy, 0, none⟩) 64 cy), KIs (.pointer (some ⟨p, 0, none⟩)), KIdx 64, KIs (.pointer (some ⟨p, 0, none⟩)), KIdx 256, KPt gy 64, KAny])
            (Rel fun _ => True) (by kernel_rfl) (kinds_mono ?mono) hS.drew ?step ?done
          case mono =>
            intro K hK
            simp only [List.mem_cons, List.not_mem_nil, or_false] at hK
            rcases hK with rfl | rfl | rfl | rfl | rfl | rfl | rfl | rfl
            all_goals first | exact bears_is _ _ | exact bears_any _ | exact bears_idx _ _ | exact bears_pt _ _ _
          case step =>
            intro L ix o A W hi hI hL hd
            have hin : ix < 8 := by
              by_cases hl : ix < 8
              · exact hl
              · simp [hl] at hi
            have hsz : A.tmps.size = 100 := hI.size
            have hS := hI.g
            rcases ix with _ | ix
            · obtain rfl := (Option.some.inj hi).symm
              have e : A.eval (.tmp 5) = .pointer (some ⟨w4.heap.size, 0, none⟩) := hI.old 5 (by kernel_rfl)
              refine at_op rfl rfl (val_op (v := .pointer (some ⟨w4.heap.size, 1, none⟩)) ?_ ⟨_, rfl, rfl, hS, Rel.refl _ _⟩)
              unfold execOp
              simp only [List.getElem_toArray, List.getElem_cons_zero, List.getElem_cons_succ, e]
              simp [go_sem]
            rcases ix with _ | ix
            · obtain rfl := (Option.some.inj hi).symm
              have e : A.eval (.tmp 82) = .pointer (some ⟨w4.heap.size, 1, none⟩) := hI.get hd 0 82 rfl (by kernel_rfl)
              obtain ⟨M, hM, hMp⟩ := hS.row
              exact at_op rfl rfl (loads_op rfl e (cw hM).va ⟨_, rfl, rfl, hS, Rel.refl _ _⟩)
            rcases ix with _ | ix
            · obtain rfl := (Option.some.inj hi).symm
              have e : A.eval (.tmp 0) = .pointer (some ⟨p, 0, none⟩) := hI.old 0 (by kernel_rfl)
              exact at_op rfl rfl (move_op rfl ⟨_, rfl, e, hS, Rel.refl _ _⟩)
            rcases ix with _ | ix
            · obtain rfl := (Option.some.inj hi).symm
              have e0 : A.eval (.tmp 84) = .pointer (some ⟨p, 0, none⟩) := hI.get hd 2 84 rfl (by kernel_rfl)
              refine at_op rfl rfl (call_op rfl Tryz.func28 (by kernel_rfl) (by kernel_rfl) ?_)
              simp only [List.map_cons, List.map_nil, e0]
              refine (Draw.below_any 64 W hS.drawn (by omega)).mono ?_
              rintro e w5 ⟨r, rfl, hr5, ho5, hdr5⟩
              exact ⟨_, rfl, _, rfl, ⟨r, rfl, hr5⟩, hS.onto hP ho5 hdr5, Rel.onto ho5 trivial⟩
            rcases ix with _ | ix
            · obtain rfl := (Option.some.inj hi).symm
              have e : A.eval (.tmp 0) = .pointer (some ⟨p, 0, none⟩) := hI.old 0 (by kernel_rfl)
              exact at_op rfl rfl (move_op rfl ⟨_, rfl, e, hS, Rel.refl _ _⟩)
            rcases ix with _ | ix
            · obtain rfl := (Option.some.inj hi).symm
              have e0 : A.eval (.tmp 86) = .pointer (some ⟨p, 0, none⟩) := hI.get hd 4 86 rfl (by kernel_rfl)
              refine at_op rfl rfl (call_op rfl Tryz.func28 (by kernel_rfl) (by kernel_rfl) ?_)
              simp only [List.map_cons, List.map_nil, e0]
              refine (Draw.below_any 256 W hS.drawn (by omega)).mono ?_
              rintro e w5 ⟨r, rfl, hr5, ho5, hdr5⟩
              exact ⟨_, rfl, _, rfl, ⟨r, rfl, hr5⟩, hS.onto hP ho5 hdr5, Rel.onto ho5 trivial⟩
            rcases ix with _ | ix
            · obtain rfl := (Option.some.inj hi).symm
              have e1 : A.eval (.tmp 83) = .slice (some ⟨gy, 0, none⟩) 64 cy := hI.get hd 1 83 rfl (by kernel_rfl)
              obtain ⟨r, er, hr⟩ : KIdx 64 (A.eval (.tmp 85)) W := hI.get hd 3 85 rfl (by kernel_rfl)
              exact at_op rfl rfl (index_op rfl und64 info_i e1 er (by omega) ⟨_, rfl, ⟨r, rfl, by omega⟩, hS, Rel.refl _ _⟩)
            rcases ix with _ | ix
            · obtain rfl := (Option.some.inj hi).symm
              obtain ⟨r, er, hr⟩ : KPt gy 64 (A.eval (.tmp 88)) W := hI.get hd 6 88 rfl (by kernel_rfl)
              obtain ⟨z, ez, _⟩ : KIdx 256 (A.eval (.tmp 87)) W := hI.get hd 5 87 rfl (by kernel_rfl)
              obtain ⟨l2', q3, hO2⟩ := hS.o2
              exact at_op rfl rfl (sto_op rfl er ez (hO2.cellAt (by omega)) (hO2.free r) ⟨_, rfl, trivial, hS.cellY hP r _, Rel.onto ((Onto.refl gy W).setCell rfl _) trivial⟩)
            omega
          case done =>
            intro A W hI
            have hS := hI.g
            have hA := hI.frame [82, 83, 84, 85, 86, 87, 88] (by kernel_rfl)
            rw [hA]
            clear hA hI
            simp only [putAll, List.foldl_cons, List.foldl_nil]
            go_wp2_with fail
            go_roundw
            case rel => exact ⟨k - 1, by go_num, by omega, hS⟩
            case measure => simp [intOf]; omega
        · go_wp2_with fail
          go_at_call 27
          refine (Draw.once_any _ _ hS.drawn (by omega)).mono ?_
          rintro e w9 ⟨r9, rfl, ho9, hd9⟩
          replace hS := hS.onto hP ho9 hd9
          cases r9
          · skip
            go_wp2_with (first
              | (obtain ⟨M, hM, hMp⟩ := hS.row; refine ld_mc rfl rfl rfl hM ?_)
              | (obtain ⟨x', y', M', hR⟩ := hS.res; obtain ⟨l1', q1, q2, hO1⟩ := hS.o1; obtain ⟨l2', q3, hO2⟩ := hS.o2; have hD := hS.drawn; refine st_mc rfl rfl rfl rfl hR (one_own hO1) (one_own hO2) ?_; rintro w7 r7 o7 -))
            refine ret_mc rfl rfl r7 rfl ?_
            have hn2 := hP.n2
            exact ⟨_, _, { M with rom := l1', ram := l2' }, rfl, ⟨q1, q2, q3, (hO1.onto o7 (fun e => by have := (hO1.lt _ e).1; omega)).mono (by omega), (hO2.onto o7 (fun e => by have := (hO2.lt _ e).1; omega)).mono (by omega), hP.ap, hMp⟩, hend _ (drawn_other hD o7 (Nat.le_refl _) hOldC)⟩
          · go_wp2_with fail
            go_at_call 28
            refine (Draw.below_any _ _ hS.drawn (by omega)).mono ?_
            rintro e w10 ⟨r10, rfl, hr10, ho10, hd10⟩
            replace hS := hS.onto hP ho10 hd10
            have hlit := own_lit 0 w10 #[.int .i64 128, .int .i64 129, .int .i64 192, .int .i64 250, .int .i64 (r10 : Int)] [128, 129, 192, 250, (r10 : Int)] rfl (by simp [maxLen]) (Nat.zero_le _)
            replace hS := hS.alloc (.cells #[.int .i64 128, .int .i64 129, .int .i64 192, .int .i64 250, .int .i64 (r10 : Int)] 2)
            have hpl : p < w10.heap.size := by have := hd10.onto.size; omega
            go_wp2_with fail
            go_at_call 28
            refine (Draw.below_any _ _ hS.drawn (by omega)).mono ?_
            rintro e w11 ⟨r11, rfl, hr11, ho11, hd11⟩
            replace hS := hS.onto hP ho11 hd11
            have hz := (hlit.onto ho11 (fun e => by simp [Value.ownBlock] at e; omega)).cellAt (j := r11) (by simp; omega)
            generalize ([128, 129, 192, 250, (r10 : Int)] : List Int).getD r11 0 = z at hz
            have hr11' : r11 < 5 := by omega
            go_wp2_with (first
              | (refine st_numA rfl rfl rfl rfl hS.row rfl (by omega) ?_; intro w8 hr8 o8; replace hS := hS.field hP o8 hr8; clear hr8 o8)
              | (obtain ⟨M, hM, hMp⟩ := hS.row; refine ld_mc rfl rfl rfl hM ?_)
              | (obtain ⟨x', y', M', hR⟩ := hS.res; obtain ⟨l1', q1, q2, hO1⟩ := hS.o1; obtain ⟨l2', q3, hO2⟩ := hS.o2; have hD := hS.drawn; refine st_mc rfl rfl rfl rfl hR (one_own hO1) (one_own hO2) ?_; rintro w7 r7 o7 -))
            refine ret_mc rfl rfl r7 rfl ?_
            have hn2 := hP.n2
            exact ⟨_, _, { M with rom := l1', ram := l2' }, rfl, ⟨q1, q2, q3, (hO1.onto o7 (fun e => by have := (hO1.lt _ e).1; omega)).mono (by omega), (hO2.onto o7 (fun e => by have := (hO2.lt _ e).1; omega)).mono (by omega), hP.ap, hMp⟩, hend _ (drawn_other hD o7 (Nat.le_refl _) hOldC)⟩
  · skip
    go_loopw [7] (fun n wr => ∃ k : Nat, n = .int .i64 k ∧ k ≤ 4 ∧ Md w p a len cap w3.heap.size w4.heap.size w.heap.size x (.slice (some ⟨gy, 0, none⟩) 64 cy) wr) (fun n _ => (intOf n).toNat)
    case atStart => exact ⟨_, rfl, by omega, hS⟩
    case round =>
      clear hS
      obtain ⟨k, rfl, hk4, hS⟩ := hrel
      by_cases hk : 0 < k
      · go_wp2_with fail
        refine region_by (by kernel_rfl) (by kernel_rfl) (fun W => Md w p a len cap w3.heap.size w4.heap.size w.heap.size x (.slice (some ⟨gy, 0, none⟩) 64 cy) W)
          (kinds [KIs (.pointer (some ⟨w4.heap.size, 1, none⟩)), KIs (.slice (some ⟨gy, 0, none⟩) 64 cy), KIs (.pointer (some ⟨p, 0, none⟩)), KIdx 64, KIs (.pointer (some ⟨p, 0, none⟩)), KIdx 256, KPt gy 64, KAny])
          (Rel fun _ => True) (by kernel_rfl) (kinds_mono ?mono) hS.drew ?step ?done
        case mono =>
          intro K hK
          simp only [List.mem_cons, List.not_mem_nil, or_false] at hK
          rcases hK with rfl | rfl | rfl | rfl | rfl | rfl | rfl | rfl
          all_goals first | exact bears_is _ _ | exact bears_any _ | exact bears_idx _ _ | exact bears_pt _ _ _
        case step =>
          intro L ix o A W hi hI hL hd
          have hin : ix < 8 := by
            by_cases hl : ix < 8
            · exact hl
            · simp [hl] at hi
          have hsz : A.tmps.size = 100 := hI.size
          have hS := hI.g
          rcases ix with _ | ix
          · obtain rfl := (Option.some.inj hi).symm
            have e : A.eval (.tmp 5) = .pointer (some ⟨w4.heap.size, 0, none⟩) := hI.old 5 (by kernel_rfl)
            refine at_op rfl rfl (val_op (v := .pointer (some ⟨w4.heap.size, 1, none⟩)) ?_ ⟨_, rfl, rfl, hS, Rel.refl _ _⟩)
            unfold execOp
            simp only [List.getElem_toArray, List.getElem_cons_zero, List.getElem_cons_succ, e]
            simp [go_sem]
          rcases ix with _ | ix
          · obtain rfl := (Option.some.inj hi).symm
            have e : A.eval (.tmp 82) = .pointer (some ⟨w4.heap.size, 1, none⟩) := hI.get hd 0 82 rfl (by kernel_rfl)
            obtain ⟨M, hM, hMp⟩ := hS.row
            exact at_op rfl rfl (loads_op rfl e (cw hM).va ⟨_, rfl, rfl, hS, Rel.refl _ _⟩)
          rcases ix with _ | ix
          · obtain rfl := (Option.some.inj hi).symm
            have e : A.eval (.tmp 0) = .pointer (some ⟨p, 0, none⟩) := hI.old 0 (by kernel_rfl)
            exact at_op rfl rfl (move_op rfl ⟨_, rfl, e, hS, Rel.refl _ _⟩)
          rcases ix with _ | ix
          · obtain rfl := (Option.some.inj hi).symm
            have e0 : A.eval (.tmp 84) = .pointer (some ⟨p, 0, none⟩) := hI.get hd 2 84 rfl (by kernel_rfl)
            refine at_op rfl rfl (call_op rfl Tryz.func28 (by kernel_rfl) (by kernel_rfl) ?_)
            simp only [List.map_cons, List.map_nil, e0]
            refine (Draw.below_any 64 W hS.drawn (by omega)).mono ?_
            rintro e w5 ⟨r, rfl, hr5, ho5, hdr5⟩
            exact ⟨_, rfl, _, rfl, ⟨r, rfl, hr5⟩, hS.onto hP ho5 hdr5, Rel.onto ho5 trivial⟩
          rcases ix with _ | ix
          · obtain rfl := (Option.some.inj hi).symm
            have e : A.eval (.tmp 0) = .pointer (some ⟨p, 0, none⟩) := hI.old 0 (by kernel_rfl)
            exact at_op rfl rfl (move_op rfl ⟨_, rfl, e, hS, Rel.refl _ _⟩)
          rcases ix with _ | ix
          · obtain rfl := (Option.some.inj hi).symm
            have e0 : A.eval (.tmp 86) = .pointer (some ⟨p, 0, none⟩) := hI.get hd 4 86 rfl (by kernel_rfl)
            refine at_op rfl rfl (call_op rfl Tryz.func28 (by kernel_rfl) (by kernel_rfl) ?_)
            simp only [List.map_cons, List.map_nil, e0]
            refine (Draw.below_any 256 W hS.drawn (by omega)).mono ?_
            rintro e w5 ⟨r, rfl, hr5, ho5, hdr5⟩
            exact ⟨_, rfl, _, rfl, ⟨r, rfl, hr5⟩, hS.onto hP ho5 hdr5, Rel.onto ho5 trivial⟩
          rcases ix with _ | ix
          · obtain rfl := (Option.some.inj hi).symm
            have e1 : A.eval (.tmp 83) = .slice (some ⟨gy, 0, none⟩) 64 cy := hI.get hd 1 83 rfl (by kernel_rfl)
            obtain ⟨r, er, hr⟩ : KIdx 64 (A.eval (.tmp 85)) W := hI.get hd 3 85 rfl (by kernel_rfl)
            exact at_op rfl rfl (index_op rfl und64 info_i e1 er (by omega) ⟨_, rfl, ⟨r, rfl, by omega⟩, hS, Rel.refl _ _⟩)
          rcases ix with _ | ix
          · obtain rfl := (Option.some.inj hi).symm
            obtain ⟨r, er, hr⟩ : KPt gy 64 (A.eval (.tmp 88)) W := hI.get hd 6 88 rfl (by kernel_rfl)
            obtain ⟨z, ez, _⟩ : KIdx 256 (A.eval (.tmp 87)) W := hI.get hd 5 87 rfl (by kernel_rfl)
            obtain ⟨l2', q3, hO2⟩ := hS.o2
            exact at_op rfl rfl (sto_op rfl er ez (hO2.cellAt (by omega)) (hO2.free r) ⟨_, rfl, trivial, hS.cellY hP r _, Rel.onto ((Onto.refl gy W).setCell rfl _) trivial⟩)
          omega
        case done =>
          intro A W hI
          have hS := hI.g
          have hA := hI.frame [82, 83, 84, 85, 86, 87, 88] (by kernel_rfl)
          rw [hA]
          clear hA hI
          simp only [putAll, List.foldl_cons, List.foldl_nil]
          go_wp2_with fail
          go_roundw
          case rel => exact ⟨k - 1, by go_num, by omega, hS⟩
          case measure => simp [intOf]; omega
      · go_wp2_with fail
        go_at_call 27
        refine (Draw.once_any _ _ hS.drawn (by omega)).mono ?_
        rintro e w9 ⟨r9, rfl, ho9, hd9⟩
        replace hS := hS.onto hP ho9 hd9
        cases r9
        · skip
          go_wp2_with (first
            | (obtain ⟨M, hM, hMp⟩ := hS.row; refine ld_mc rfl rfl rfl hM ?_)
            | (obtain ⟨x', y', M', hR⟩ := hS.res; obtain ⟨l1', q1, q2, hO1⟩ := hS.o1; obtain ⟨l2', q3, hO2⟩ := hS.o2; have hD := hS.drawn; refine st_mc rfl rfl rfl rfl hR (one_own hO1) (one_own hO2) ?_; rintro w7 r7 o7 -))
          refine ret_mc rfl rfl r7 rfl ?_
          have hn2 := hP.n2
          exact ⟨_, _, { M with rom := l1', ram := l2' }, rfl, ⟨q1, q2, q3, (hO1.onto o7 (fun e => by have := (hO1.lt _ e).1; omega)).mono (by omega), (hO2.onto o7 (fun e => by have := (hO2.lt _ e).1; omega)).mono (by omega), hP.ap, hMp⟩, hend _ (drawn_other hD o7 (Nat.le_refl _) hOldC)⟩
        · go_wp2_with fail
          go_at_call 28
          refine (Draw.below_any _ _ hS.drawn (by omega)).mono ?_
          rintro e w10 ⟨r10, rfl, hr10, ho10, hd10⟩
          replace hS := hS.onto hP ho10 hd10
          have hlit := own_lit 0 w10 #[.int .i64 128, .int .i64 129, .int .i64 192, .int .i64 250, .int .i64 (r10 : Int)] [128, 129, 192, 250, (r10 : Int)] rfl (by simp [maxLen]) (Nat.zero_le _)
          replace hS := hS.alloc (.cells #[.int .i64 128, .int .i64 129, .int .i64 192, .int .i64 250, .int .i64 (r10 : Int)] 2)
          have hpl : p < w10.heap.size := by have := hd10.onto.size; omega
          go_wp2_with fail
          go_at_call 28
          refine (Draw.below_any _ _ hS.drawn (by omega)).mono ?_
          rintro e w11 ⟨r11, rfl, hr11, ho11, hd11⟩
          replace hS := hS.onto hP ho11 hd11
          have hz := (hlit.onto ho11 (fun e => by simp [Value.ownBlock] at e; omega)).cellAt (j := r11) (by simp; omega)
          generalize ([128, 129, 192, 250, (r10 : Int)] : List Int).getD r11 0 = z at hz
          have hr11' : r11 < 5 := by omega
          go_wp2_with (first
            | (refine st_numA rfl rfl rfl rfl hS.row rfl (by omega) ?_; intro w8 hr8 o8; replace hS := hS.field hP o8 hr8; clear hr8 o8)
            | (obtain ⟨M, hM, hMp⟩ := hS.row; refine ld_mc rfl rfl rfl hM ?_)
            | (obtain ⟨x', y', M', hR⟩ := hS.res; obtain ⟨l1', q1, q2, hO1⟩ := hS.o1; obtain ⟨l2', q3, hO2⟩ := hS.o2; have hD := hS.drawn; refine st_mc rfl rfl rfl rfl hR (one_own hO1) (one_own hO2) ?_; rintro w7 r7 o7 -))
          refine ret_mc rfl rfl r7 rfl ?_
          have hn2 := hP.n2
          exact ⟨_, _, { M with rom := l1', ram := l2' }, rfl, ⟨q1, q2, q3, (hO1.onto o7 (fun e => by have := (hO1.lt _ e).1; omega)).mono (by omega), (hO2.onto o7 (fun e => by have := (hO2.lt _ e).1; omega)).mono (by omega), hP.ap, hMp⟩, hend _ (drawn_other hD o7 (Nat.le_refl _) hOldC)⟩
end Go.Proofs.YtocofjimkfffeaaGreatDoor.Mem
