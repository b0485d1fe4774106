/-
  What FnExactRunTo leans on: part 6.
-/
import Derived.Deep.LoopGhost
import Derived.Test.YtghmkacamabndaaGreatDoorRunP2
import Derived.Test.YtghmkacamabndaaGreatDoorRunP4
import Derived.Test.YtghmkacamabndaaGreatDoorRunP5
set_option linter.unusedVariables false
set_option linter.unusedSimpArgs false
set_option maxRecDepth 20000
namespace Go.Proofs.YtghmkacamabndaaGreatDoor.Mem
open Go.ChangeShapes Go.WideShapes Go.RowKit Base Num Slc Slf Rw Tmr Srl Rom Opl Reg

structure Lw (w : World) (base g gz : Nat) (x y vo ve : Value) (s : St) (W : World) : Prop where
 row : SRow W g x y vo ve s
 z : SRow W gz nil64 nil64 nil64 nil64 St.nul
 so : So base W x y vo ve s
 mild : Mild base w W
theorem Lw.below {w W W' : World} {base g gz : Nat} {x y vo ve : Value} {s : St} (h : Lw w base g gz x y vo ve s W) (hb : Below W.heap.size W W') : Lw w base g gz x y vo ve s W' := ⟨h.row.below hb, h.z.below hb, h.so.below hb, h.mild.trans (Mild.of hb)⟩
theorem Lw.drew {w W : World} {base g gz : Nat} {x y vo ve : Value} {s : St} (h : Lw w base g gz x y vo ve s W) : Lw w base g gz x y vo ve s W.drew := h.below (drew_below (n := 1) rfl)
def LE1 (w : World) (base g gz : Nat) (x y : Value) (s : St) (v : Value) (W : World) : Prop :=
 ∃ vo ve, v = s.val x y vo ve ∧ So base W x y vo ve s ∧ SRow W gz nil64 nil64 nil64 nil64 St.nul ∧ Mild base w W ∧ ∃ x0 y0 o0 e0 s0, SRow W g x0 y0 o0 e0 s0
def LE2 (w : World) (base g gz : Nat) (x y : Value) (s : St) (W : World) : Prop := ∃ vo ve, Lw w base g gz x y vo ve s W
theorem LE1.below {w : World} {base g gz : Nat} {x y : Value} {s : St} {v : Value} {W W' : World} (h : LE1 w base g gz x y s v W) (hb : Below W.heap.size W W') : LE1 w base g gz x y s v W' := by
 obtain ⟨vo, ve, e, h1, h2, h3, x0, y0, o0, e0, s0, h4⟩ := h
 exact ⟨vo, ve, e, h1.below hb, h2.below hb, h3.trans (Mild.of hb), x0, y0, o0, e0, s0, h4.below hb⟩
theorem LE2.below {w : World} {base g gz : Nat} {x y : Value} {s : St} {W W' : World} (h : LE2 w base g gz x y s W) (hb : Below W.heap.size W W') : LE2 w base g gz x y s W' := by
 obtain ⟨vo, ve, h⟩ := h
 exact ⟨vo, ve, h.below hb⟩
theorem through_more (s : St) (q : Int) : (s.through q).o = s.o ∧ (s.through q).e.length = s.e.length + 1 := ⟨rfl, by show (s.e ++ [_]).length = _; simp⟩
theorem arrive_more (s : St) (m : M3) : (s.arrive m).o.length ≤ s.o.length + 1 ∧ (s.arrive m).e.length ≤ s.e.length + 1 := by
 have sp : ∀ p : Sr, (s.port p).o = s.o ∧ (s.port p).e = s.e := fun p => ⟨rfl, rfl⟩
 have ss : ∀ (p : Sr) (n : M3), ((s.port p).sends n).o.length = s.o.length + 1 ∧ ((s.port p).sends n).e = s.e := fun p n => ⟨by show (s.o ++ [n]).length = _; simp, rfl⟩
 unfold St.arrive
 split
 ·split
  ·obtain ⟨h1, h2⟩ := through_more ((s.port (s.m.p.beat m.v).1).sends ⟨m.t + 8, 2, (s.m.p.beat m.v).2.1⟩) m.t
   obtain ⟨h3, h4⟩ := ss (s.m.p.beat m.v).1 ⟨m.t + 8, 2, (s.m.p.beat m.v).2.1⟩
   rw [h1, h2, h3, h4]; omega
  ·obtain ⟨h3, h4⟩ := ss (s.m.p.beat m.v).1 ⟨m.t + 8, 2, (s.m.p.beat m.v).2.1⟩
   rw [h3, h4]; omega
 split
 ·split
  ·obtain ⟨h1, h2⟩ := through_more (s.port (s.m.p.answer m.v m.t).1) m.t
   rw [h1, h2]
   show s.o.length ≤ _ ∧ s.e.length + 1 ≤ _
   omega
  ·show s.o.length ≤ _ ∧ s.e.length ≤ _
   omega
 split
 ·show s.o.length ≤ _ ∧ s.e.length ≤ _
  omega
 ·omega
theorem send_bounds (p : Sr) (fin : Int) : -1 ≤ (p.send fin).2.1 ∧ (p.send fin).2.1 ≤ 1000000000 := by
 unfold Sr.send
 split
 ·rename_i hok
  simp only [Sr.ok, Bool.and_eq_true, clk] at hok
  have := inn_true hok.1.1.1.2
  split
  ·show -1 ≤ p.x ∧ p.x ≤ 1000000000
   omega
  ·show (-1 : Int) ≤ -1 ∧ (-1 : Int) ≤ 1000000000
   omega
 ·show (-1 : Int) ≤ -1 ∧ (-1 : Int) ≤ 1000000000
  omega
set_option maxHeartbeats 4000000 in
theorem l9Events_spec (v vi x y vo ve : Value) (s : St) (l : List M3) (fin : Int) (w : World) (base : Nat) (hv : v = s.val x y vo ve) (h : So base w x y vo ve s) (hs : SlF fM w vi l) (hvi : 0 < l.length → ∀ k, vi.ownBlock = some k → k < base)
  (hlen : l.length ≤ 200) (hT : ∀ i, i < l.length → 0 ≤ (M3.at' l i).t ∧ (M3.at' l i).t ≤ 1000000100) (hu : s.u = 0) (ho : s.o.length ≤ 1000) (he : s.e.length ≤ 1000) :
  Calls Tryz.prog 128 #[v, vi, .int .i64 fin] w fun e w' => Arrd base w w' e x y (s.evs l fin) := by
 have hle := h.ow.le
 have hone := hs.one
 obtain ⟨F, hF⟩ : ∃ F, s.evs l fin = F := ⟨_, rfl⟩
 rw [hF]
 have hm0 : s.meas l ≤ 401 := by
  unfold St.meas
  split <;> omega
 have HV : Hid (SlF fM w vi l ∧ (0 < l.length → ∀ k, vi.ownBlock = some k → k < base) ∧ (∀ i, i < l.length → 0 ≤ (M3.at' l i).t ∧ (M3.at' l i).t ≤ 1000000100)) := ⟨hs, hvi, hT⟩
 obtain ⟨av, cv, rfl, -, hlc, hcm, -⟩ := id hs
 unfold maxLen at hcm
 have HI : Hid (s.events l fin (s.meas l) = F ∧ s.meas l ≤ 401) := ⟨hF, hm0⟩
 obtain ⟨N0, hN⟩ : ∃ N0, s.meas l = N0 := ⟨_, rfl⟩
 have HN : Hid (s.meas l = N0) := hN
 clear hF hm0 hN hs hvi hT
 go_enter Tryz.func128, Tryz.ntmps128
 go_wp2_with (first
  | (refine box_s rfl rfl hv ?_; intro w0 r0 hB0)
  | (refine al_st rfl rfl ?_; intro w1 z1 hB1; have lg := r0.lt; have hB2 := below_more hB0 hB1; have hG : Lw w base w.heap.size w0.heap.size x y vo ve s w1 := ⟨r0.below hB1, z1, h.below hB2, Mild.of hB2⟩))
 have hgz : w0.heap.size ≠ w.heap.size := by omega
 have hg0 : w.heap.size ≤ w.heap.size := Nat.le_refl _
 have hz0 : w.heap.size ≤ w0.heap.size := by omega
 obtain ⟨g, hg⟩ : ∃ g, w.heap.size = g := ⟨_, rfl⟩
 obtain ⟨gz, hgz'⟩ : ∃ gz, w0.heap.size = gz := ⟨_, rfl⟩
 have HG : Hid (w.heap.size ≤ g ∧ w.heap.size ≤ gz ∧ base ≤ g) := ⟨by omega, by omega, by omega⟩
 rw [hgz', hg] at hgz
 rw [hgz', hg] at hG
 rw [hgz', hg]
 clear hg hgz' hg0 hz0 r0 z1 hB0 hB1 hB2 lg
 simp only [Act.put, List.setIfInBounds_toArray, List.set_cons_zero, List.set_cons_succ]
 go_loopg [] N0 (fun n wr => ∃ S vo ve, Lw w base g gz x y vo ve S wr ∧ S.events l fin n = F ∧ S.meas l ≤ n ∧ S.o.length + n ≤ 2000 ∧ S.e.length + n ≤ 2000 ∧ 0 ≤ S.u)
 case atStart => exact ⟨s, vo, ve, hG, by rw [← HN.out]; exact HI.out.1, Nat.le_of_eq HN.out, by have := HI.out.2; have := HN.out; omega, by have := HI.out.2; have := HN.out; omega, by omega⟩
 case round =>
  clear hG h hv ho he hu HI HN
  obtain ⟨S, vo, ve, hG, hF, hm, hno, hne, hu0⟩ := hrel
  obtain ⟨j, hj⟩ : ∃ j : Nat, S.u = (j : Int) := ⟨S.u.toNat, by omega⟩
  obtain ⟨X, hX⟩ : ∃ X, S.m.p.x = X := ⟨_, rfl⟩
  have kx : wr.cell? ⟨g, 22, none⟩ = some (.int .i64 X) := by rw [← hX]; exact (sw hG.row).px
  have ku : wr.cell? ⟨g, 27, none⟩ = some (.int .i64 (j : Int)) := by rw [← hj]; exact (sw hG.row).u
  have hju : S.u.toNat = j := by omega
  have HK : Hid (S.events l fin gk = F ∧ S.meas l ≤ gk ∧ S.o.length + gk ≤ 2000 ∧ S.e.length + gk ≤ 2000 ∧ S.u = (j : Int) ∧ S.m.p.x = X) := ⟨hF, hm, hno, hne, hj, hX⟩
  have hto : S.o.length ≤ 2000 := by omega
  have hte : S.e.length ≤ 2000 := by omega
  have HJ : Hid (∀ b : Bool, (decide (S.u < l.length) && decide ((M3.at' l j).t ≤ fin) && (X == 0 || decide (fin < X) || decide ((M3.at' l j).t ≤ X))) = b → S.takes l fin = b) := fun b hb => by unfold St.takes; rw [hju, hX]; exact hb
  have HD : Hid (∀ b : Bool, (X == 0 || decide (fin < X)) = b → S.idle fin = b) := fun b hb => by unfold St.idle; rw [hX]; exact hb
  have HU : Hid (S.u = (j : Int)) := hj
  clear hF hm hno hne hX hj hju hu0
  by_cases hlt : j < l.length
  ·have hvs := hG.mild.old HV.out.1 HV.out.2.1
   obtain ⟨b, off, c', e, -, -, -⟩ := hvs.shape (by omega)
   simp only [Value.slice.injEq] at e
   obtain ⟨rfl, -, rfl⟩ := e
   obtain ⟨tt, htt⟩ : ∃ tt, (M3.at' l j).t = tt := ⟨_, rfl⟩
   have hc : wr.cell? ⟨b, off + j * 3, none⟩ = some (.int .i64 tt) := by rw [← htt]; exact hvs.cell okM (at_some hlt) (j := 0) (by decide)
   have HT : Hid ((M3.at' l j).t = tt) := htt
   clear htt hvs
   have hlt' : (j : Int) < (l.length : Int) := by omega
   by_cases h1 : tt ≤ fin
   ·by_cases hx : X = 0
    ·have HA : Hid (S.takes l fin = true) := HJ.out true (by rw [HT.out, HU.out]; simp [h1, hx, hlt'])
     subst hx
     have hp : 0 < gk := by
      have h1 := (events_take HA.out (by have := HU.out; omega) HK.out.2.1).2
      have h2 := meas_taken HA.out (by have := HU.out; omega)
      have h3 := HK.out.2.1
      omega
     obtain ⟨S', hS'⟩ : ∃ S', S.arrive (M3.at' l j) = S' := ⟨_, rfl⟩
     have hu' : S'.u = (j : Int) := by rw [← hS', arrive_u]; exact HU.out
     have HS : Hid (S.arrive (M3.at' l j) = S') := hS'
     have HU' : Hid (S'.u = (j : Int)) := hu'
     clear hS' hu'
     go_wp2_with (refine ixF okM (r := j) rfl rfl rfl rfl hlt ?_)
     refine region_two (by kernel_rfl) (by kernel_rfl) 6 7 55 (by decide) rfl rfl (by kernel_rfl) (by kernel_rfl) (by decide) (by kernel_rfl) (fun W => Lw w base g gz x y vo ve S W) (fun v W => LE1 w base g gz x y S' v W) (fun W => LE2 w base g gz x y S' W) (fun v W W' h hb => h.below hb) (fun W W' h hb => h.below hb) [S.val x y vo ve, .slice (some ⟨b, off, none⟩) l.length cv, .pointer (some ⟨g, 27, none⟩), .int .i64 (j : Int), .pointer (some ⟨b, off + j * 3, none⟩), (M3.at' l j).val, undef, undef] hG.drew ?step ?first ?second ?done (by decide)
     case step =>
      intro L ix o' A W hn1 hn2 hj hI hg hd
      have hin : ix < 8 := by
       by_cases hl : ix < 8
       ·exact hl
       ·simp [hl] at hj
      have hsz : A.tmps.size = 89 := hI.size
      rcases ix with _ | _ | _ | _ | _ | _ | _ | _ | ix
      ·cases hj
       have e0 : A.eval (.tmp 3) = .pointer (some ⟨g, 0, none⟩) := hI.old 3 (by kernel_rfl)
       exact at_op rfl rfl (wp_load_row _ _ rfl _ e0 _ _ _ _ hg.row.row Tryz.underlying36 rfl info_st ⟨_, rfl, rfl, hg, Below.refl _ _⟩)
      ·cases hj; exact at_op rfl rfl (move_op rfl ⟨_, rfl, hI.old 1 (by kernel_rfl), hg, Below.refl _ _⟩)
      ·cases hj; exact at_op rfl rfl (one_op (x := .tmp 3) (hI.old 3 (by kernel_rfl)) rfl (by kernel_rfl) ⟨_, rfl, rfl, hg, Below.refl _ _⟩)
      ·cases hj
       have e0 : A.eval (.tmp 51) = .pointer (some ⟨g, 27, none⟩) := hI.val2 hd 2 51 rfl rfl (by kernel_rfl) (by decide) (by decide)
       exact at_op rfl rfl (load_op rfl Tryz.underlying2 e0 (by have := (sw hg.row).u; rwa [HU.out] at this) ⟨_, rfl, rfl, hg, Below.refl _ _⟩)
      ·cases hj
       have e0 : A.eval (.tmp 50) = .slice (some ⟨b, off, none⟩) l.length cv := hI.val2 hd 1 50 rfl rfl (by kernel_rfl) (by decide) (by decide)
       have e1 : A.eval (.tmp 52) = .int .i64 (j : Int) := hI.val2 hd 3 52 rfl rfl (by kernel_rfl) (by decide) (by decide)
       exact at_op rfl rfl (ixF_op okM rfl e0 e1 hlt ⟨_, rfl, rfl, hg, Below.refl _ _⟩)
      ·cases hj
       have e0 : A.eval (.tmp 53) = .pointer (some ⟨b, off + j * 3, none⟩) := hI.val2 hd 4 53 rfl rfl (by kernel_rfl) (by decide) (by decide)
       exact at_op rfl rfl (elF_op okM rfl e0 ((hg.mild.old HV.out.1 HV.out.2.1).range okM (at_some hlt)) ⟨_, rfl, rfl, hg, Below.refl _ _⟩)
      ·exact absurd rfl hn1
      ·exact absurd rfl hn2
      omega
     case first =>
      intro L o' A W hj hI hg hd
      cases hj
      have e0 : A.eval (.tmp 49) = S.val x y vo ve := hI.val2 hd 0 49 rfl rfl (by kernel_rfl) (by decide) (by decide)
      have e1 : A.eval (.tmp 54) = (M3.at' l j).val := hI.val2 hd 5 54 rfl rfl (by kernel_rfl) (by decide) (by decide)
      refine at_op rfl rfl (call_op rfl Tryz.func177 (by kernel_rfl) (by kernel_rfl) ?_)
      simp only [List.map_cons, List.map_nil, e0, e1]
      refine (l9Arrive_spec _ x y vo ve S (M3.at' l j) W base rfl hg.so (HV.out.2.2 j hlt) (by omega) (by omega)).mono ?_
      rw [HS.out]
      rintro e W1 ⟨vo1, ve1, rfl, so1, t1⟩
      exact ⟨_, rfl, _, rfl, vo1, ve1, rfl, so1, t1.row hg.z plain_st, hg.mild.trans t1, _, _, _, _, _, t1.row hg.row plain_st⟩
     case second =>
      intro L o' A W hj hI hE hd
      cases hj
      have e0 : A.eval (.tmp 3) = .pointer (some ⟨g, 0, none⟩) := hI.old 3 (by kernel_rfl)
      obtain ⟨vo1, ve1, ev, so1, z1, M1, x0, y0, o0, q0, s0, r1⟩ := hE
      have e1 : A.eval (.tmp 55) = S'.val x y vo1 ve1 := ev
      refine at_op rfl rfl (stS_op rfl e0 e1 r1 (one_own so1.ow.hx) (one_own so1.ow.hy) (so1.o.one okM) (so1.e.one okE) (fun W2 r2 o2 => ?_))
      have so2 := so1.row o2 r1 plain_st (by decide)
      have z2 := z1.onto o2 hgz
      have M2 := M1.new o2 HG.out.1
      exact ⟨rfl, ⟨vo1, ve1, ev, so2, z2, M2, _, _, _, _, _, r2⟩, vo1, ve1, r2, z2, so2, M2⟩
     case done =>
      intro A W hI hE1 hE2
      have hA := hI.frame [49, 50, 51, 52, 53, 54, 55] (by kernel_rfl)
      rw [hA]
      simp only [putAll, List.foldl_cons, List.foldl_nil, Act.put, List.setIfInBounds_toArray, List.set_cons_zero, List.set_cons_succ]
      clear hA hI
      obtain ⟨vo2, ve2, hL⟩ := hE2
      clear hE1
      have r5 := hL.row
      have ku2 : W.cell? ⟨g, 27, none⟩ = some (.int .i64 (j : Int)) := by have := (sw hL.row).u; rwa [HU'.out] at this
      go_wp2_with (refine st_sn (s' := { S' with u := (j : Int) + 1 }) rfl rfl rfl rfl r5 rfl rfl ?_; rintro w6 r6 o6 -)
      have so6 := (hL.so.row o6 r5 plain_st (by decide)).as (s' := { S' with u := (j : Int) + 1 }) rfl rfl rfl rfl
      have z6 := hL.z.onto o6 hgz
      have M6 := hL.mild.new o6 HG.out.1
      go_roundg (gk - 1)
      case measure => omega
      case rel =>
       have ht := events_take HA.out (by have := HU.out; omega) HK.out.2.1
       have et : S.taken l = { S' with u := (j : Int) + 1 } := by
        unfold St.taken
        rw [show S.u.toNat = j by have := HU.out; omega, HS.out, HU.out]
       rw [et] at ht
       have hmo := arrive_more S (M3.at' l j)
       rw [HS.out] at hmo
       have h3 := HK.out
       refine ⟨_, vo2, ve2, ⟨r6, z6, so6, M6⟩, ht.1.symm.trans h3.1, ht.2, ?_, ?_, ?_⟩
       ·show S'.o.length + (gk - 1) ≤ 2000; omega
       ·show S'.e.length + (gk - 1) ≤ 2000; omega
       ·show 0 ≤ (j : Int) + 1; omega
    ·have hx0 : (X == 0) = false := by simpa using hx
     by_cases h2 : fin < X
     ·have HA : Hid (S.takes l fin = true) := HJ.out true (by rw [HT.out, HU.out]; simp [h1, h2, hlt'])
      have hp : 0 < gk := by
       have h1 := (events_take HA.out (by have := HU.out; omega) HK.out.2.1).2
       have h2 := meas_taken HA.out (by have := HU.out; omega)
       have h3 := HK.out.2.1
       omega
      obtain ⟨S', hS'⟩ : ∃ S', S.arrive (M3.at' l j) = S' := ⟨_, rfl⟩
      have hu' : S'.u = (j : Int) := by rw [← hS', arrive_u]; exact HU.out
      have HS : Hid (S.arrive (M3.at' l j) = S') := hS'
      have HU' : Hid (S'.u = (j : Int)) := hu'
      clear hS' hu'
      go_wp2_with (refine ixF okM (r := j) rfl rfl rfl rfl hlt ?_)
      refine region_two (by kernel_rfl) (by kernel_rfl) 6 7 55 (by decide) rfl rfl (by kernel_rfl) (by kernel_rfl) (by decide) (by kernel_rfl) (fun W => Lw w base g gz x y vo ve S W) (fun v W => LE1 w base g gz x y S' v W) (fun W => LE2 w base g gz x y S' W) (fun v W W' h hb => h.below hb) (fun W W' h hb => h.below hb) [S.val x y vo ve, .slice (some ⟨b, off, none⟩) l.length cv, .pointer (some ⟨g, 27, none⟩), .int .i64 (j : Int), .pointer (some ⟨b, off + j * 3, none⟩), (M3.at' l j).val, undef, undef] hG.drew ?step ?first ?second ?done (by decide)
      case step =>
       intro L ix o' A W hn1 hn2 hj hI hg hd
       have hin : ix < 8 := by
        by_cases hl : ix < 8
        ·exact hl
        ·simp [hl] at hj
       have hsz : A.tmps.size = 89 := hI.size
       rcases ix with _ | _ | _ | _ | _ | _ | _ | _ | ix
       ·cases hj
        have e0 : A.eval (.tmp 3) = .pointer (some ⟨g, 0, none⟩) := hI.old 3 (by kernel_rfl)
        exact at_op rfl rfl (wp_load_row _ _ rfl _ e0 _ _ _ _ hg.row.row Tryz.underlying36 rfl info_st ⟨_, rfl, rfl, hg, Below.refl _ _⟩)
       ·cases hj; exact at_op rfl rfl (move_op rfl ⟨_, rfl, hI.old 1 (by kernel_rfl), hg, Below.refl _ _⟩)
       ·cases hj; exact at_op rfl rfl (one_op (x := .tmp 3) (hI.old 3 (by kernel_rfl)) rfl (by kernel_rfl) ⟨_, rfl, rfl, hg, Below.refl _ _⟩)
       ·cases hj
        have e0 : A.eval (.tmp 51) = .pointer (some ⟨g, 27, none⟩) := hI.val2 hd 2 51 rfl rfl (by kernel_rfl) (by decide) (by decide)
        exact at_op rfl rfl (load_op rfl Tryz.underlying2 e0 (by have := (sw hg.row).u; rwa [HU.out] at this) ⟨_, rfl, rfl, hg, Below.refl _ _⟩)
       ·cases hj
        have e0 : A.eval (.tmp 50) = .slice (some ⟨b, off, none⟩) l.length cv := hI.val2 hd 1 50 rfl rfl (by kernel_rfl) (by decide) (by decide)
        have e1 : A.eval (.tmp 52) = .int .i64 (j : Int) := hI.val2 hd 3 52 rfl rfl (by kernel_rfl) (by decide) (by decide)
        exact at_op rfl rfl (ixF_op okM rfl e0 e1 hlt ⟨_, rfl, rfl, hg, Below.refl _ _⟩)
       ·cases hj
        have e0 : A.eval (.tmp 53) = .pointer (some ⟨b, off + j * 3, none⟩) := hI.val2 hd 4 53 rfl rfl (by kernel_rfl) (by decide) (by decide)
        exact at_op rfl rfl (elF_op okM rfl e0 ((hg.mild.old HV.out.1 HV.out.2.1).range okM (at_some hlt)) ⟨_, rfl, rfl, hg, Below.refl _ _⟩)
       ·exact absurd rfl hn1
       ·exact absurd rfl hn2
       omega
      case first =>
       intro L o' A W hj hI hg hd
       cases hj
       have e0 : A.eval (.tmp 49) = S.val x y vo ve := hI.val2 hd 0 49 rfl rfl (by kernel_rfl) (by decide) (by decide)
       have e1 : A.eval (.tmp 54) = (M3.at' l j).val := hI.val2 hd 5 54 rfl rfl (by kernel_rfl) (by decide) (by decide)
       refine at_op rfl rfl (call_op rfl Tryz.func177 (by kernel_rfl) (by kernel_rfl) ?_)
       simp only [List.map_cons, List.map_nil, e0, e1]
       refine (l9Arrive_spec _ x y vo ve S (M3.at' l j) W base rfl hg.so (HV.out.2.2 j hlt) (by omega) (by omega)).mono ?_
       rw [HS.out]
       rintro e W1 ⟨vo1, ve1, rfl, so1, t1⟩
       exact ⟨_, rfl, _, rfl, vo1, ve1, rfl, so1, t1.row hg.z plain_st, hg.mild.trans t1, _, _, _, _, _, t1.row hg.row plain_st⟩
      case second =>
       intro L o' A W hj hI hE hd
       cases hj
       have e0 : A.eval (.tmp 3) = .pointer (some ⟨g, 0, none⟩) := hI.old 3 (by kernel_rfl)
       obtain ⟨vo1, ve1, ev, so1, z1, M1, x0, y0, o0, q0, s0, r1⟩ := hE
       have e1 : A.eval (.tmp 55) = S'.val x y vo1 ve1 := ev
       refine at_op rfl rfl (stS_op rfl e0 e1 r1 (one_own so1.ow.hx) (one_own so1.ow.hy) (so1.o.one okM) (so1.e.one okE) (fun W2 r2 o2 => ?_))
       have so2 := so1.row o2 r1 plain_st (by decide)
       have z2 := z1.onto o2 hgz
       have M2 := M1.new o2 HG.out.1
       exact ⟨rfl, ⟨vo1, ve1, ev, so2, z2, M2, _, _, _, _, _, r2⟩, vo1, ve1, r2, z2, so2, M2⟩
      case done =>
       intro A W hI hE1 hE2
       have hA := hI.frame [49, 50, 51, 52, 53, 54, 55] (by kernel_rfl)
       rw [hA]
       simp only [putAll, List.foldl_cons, List.foldl_nil, Act.put, List.setIfInBounds_toArray, List.set_cons_zero, List.set_cons_succ]
       clear hA hI
       obtain ⟨vo2, ve2, hL⟩ := hE2
       clear hE1
       have r5 := hL.row
       have ku2 : W.cell? ⟨g, 27, none⟩ = some (.int .i64 (j : Int)) := by have := (sw hL.row).u; rwa [HU'.out] at this
       go_wp2_with (refine st_sn (s' := { S' with u := (j : Int) + 1 }) rfl rfl rfl rfl r5 rfl rfl ?_; rintro w6 r6 o6 -)
       have so6 := (hL.so.row o6 r5 plain_st (by decide)).as (s' := { S' with u := (j : Int) + 1 }) rfl rfl rfl rfl
       have z6 := hL.z.onto o6 hgz
       have M6 := hL.mild.new o6 HG.out.1
       go_roundg (gk - 1)
       case measure => omega
       case rel =>
        have ht := events_take HA.out (by have := HU.out; omega) HK.out.2.1
        have et : S.taken l = { S' with u := (j : Int) + 1 } := by
         unfold St.taken
         rw [show S.u.toNat = j by have := HU.out; omega, HS.out, HU.out]
        rw [et] at ht
        have hmo := arrive_more S (M3.at' l j)
        rw [HS.out] at hmo
        have h3 := HK.out
        refine ⟨_, vo2, ve2, ⟨r6, z6, so6, M6⟩, ht.1.symm.trans h3.1, ht.2, ?_, ?_, ?_⟩
        ·show S'.o.length + (gk - 1) ≤ 2000; omega
        ·show S'.e.length + (gk - 1) ≤ 2000; omega
        ·show 0 ≤ (j : Int) + 1; omega
     ·by_cases h3 : tt ≤ X
      ·have HA : Hid (S.takes l fin = true) := HJ.out true (by rw [HT.out, HU.out]; simp [h1, h3, hlt'])
       have hp : 0 < gk := by
        have h1 := (events_take HA.out (by have := HU.out; omega) HK.out.2.1).2
        have h2 := meas_taken HA.out (by have := HU.out; omega)
        have h3 := HK.out.2.1
        omega
       obtain ⟨S', hS'⟩ : ∃ S', S.arrive (M3.at' l j) = S' := ⟨_, rfl⟩
       have hu' : S'.u = (j : Int) := by rw [← hS', arrive_u]; exact HU.out
       have HS : Hid (S.arrive (M3.at' l j) = S') := hS'
       have HU' : Hid (S'.u = (j : Int)) := hu'
       clear hS' hu'
       go_wp2_with (refine ixF okM (r := j) rfl rfl rfl rfl hlt ?_)
       refine region_two (by kernel_rfl) (by kernel_rfl) 6 7 55 (by decide) rfl rfl (by kernel_rfl) (by kernel_rfl) (by decide) (by kernel_rfl) (fun W => Lw w base g gz x y vo ve S W) (fun v W => LE1 w base g gz x y S' v W) (fun W => LE2 w base g gz x y S' W) (fun v W W' h hb => h.below hb) (fun W W' h hb => h.below hb) [S.val x y vo ve, .slice (some ⟨b, off, none⟩) l.length cv, .pointer (some ⟨g, 27, none⟩), .int .i64 (j : Int), .pointer (some ⟨b, off + j * 3, none⟩), (M3.at' l j).val, undef, undef] hG.drew ?step ?first ?second ?done (by decide)
       case step =>
        intro L ix o' A W hn1 hn2 hj hI hg hd
        have hin : ix < 8 := by
         by_cases hl : ix < 8
         ·exact hl
         ·simp [hl] at hj
        have hsz : A.tmps.size = 89 := hI.size
        rcases ix with _ | _ | _ | _ | _ | _ | _ | _ | ix
        ·cases hj
         have e0 : A.eval (.tmp 3) = .pointer (some ⟨g, 0, none⟩) := hI.old 3 (by kernel_rfl)
         exact at_op rfl rfl (wp_load_row _ _ rfl _ e0 _ _ _ _ hg.row.row Tryz.underlying36 rfl info_st ⟨_, rfl, rfl, hg, Below.refl _ _⟩)
        ·cases hj; exact at_op rfl rfl (move_op rfl ⟨_, rfl, hI.old 1 (by kernel_rfl), hg, Below.refl _ _⟩)
        ·cases hj; exact at_op rfl rfl (one_op (x := .tmp 3) (hI.old 3 (by kernel_rfl)) rfl (by kernel_rfl) ⟨_, rfl, rfl, hg, Below.refl _ _⟩)
        ·cases hj
         have e0 : A.eval (.tmp 51) = .pointer (some ⟨g, 27, none⟩) := hI.val2 hd 2 51 rfl rfl (by kernel_rfl) (by decide) (by decide)
         exact at_op rfl rfl (load_op rfl Tryz.underlying2 e0 (by have := (sw hg.row).u; rwa [HU.out] at this) ⟨_, rfl, rfl, hg, Below.refl _ _⟩)
        ·cases hj
         have e0 : A.eval (.tmp 50) = .slice (some ⟨b, off, none⟩) l.length cv := hI.val2 hd 1 50 rfl rfl (by kernel_rfl) (by decide) (by decide)
         have e1 : A.eval (.tmp 52) = .int .i64 (j : Int) := hI.val2 hd 3 52 rfl rfl (by kernel_rfl) (by decide) (by decide)
         exact at_op rfl rfl (ixF_op okM rfl e0 e1 hlt ⟨_, rfl, rfl, hg, Below.refl _ _⟩)
        ·cases hj
         have e0 : A.eval (.tmp 53) = .pointer (some ⟨b, off + j * 3, none⟩) := hI.val2 hd 4 53 rfl rfl (by kernel_rfl) (by decide) (by decide)
         exact at_op rfl rfl (elF_op okM rfl e0 ((hg.mild.old HV.out.1 HV.out.2.1).range okM (at_some hlt)) ⟨_, rfl, rfl, hg, Below.refl _ _⟩)
        ·exact absurd rfl hn1
        ·exact absurd rfl hn2
        omega
       case first =>
        intro L o' A W hj hI hg hd
        cases hj
        have e0 : A.eval (.tmp 49) = S.val x y vo ve := hI.val2 hd 0 49 rfl rfl (by kernel_rfl) (by decide) (by decide)
        have e1 : A.eval (.tmp 54) = (M3.at' l j).val := hI.val2 hd 5 54 rfl rfl (by kernel_rfl) (by decide) (by decide)
        refine at_op rfl rfl (call_op rfl Tryz.func177 (by kernel_rfl) (by kernel_rfl) ?_)
        simp only [List.map_cons, List.map_nil, e0, e1]
        refine (l9Arrive_spec _ x y vo ve S (M3.at' l j) W base rfl hg.so (HV.out.2.2 j hlt) (by omega) (by omega)).mono ?_
        rw [HS.out]
        rintro e W1 ⟨vo1, ve1, rfl, so1, t1⟩
        exact ⟨_, rfl, _, rfl, vo1, ve1, rfl, so1, t1.row hg.z plain_st, hg.mild.trans t1, _, _, _, _, _, t1.row hg.row plain_st⟩
       case second =>
        intro L o' A W hj hI hE hd
        cases hj
        have e0 : A.eval (.tmp 3) = .pointer (some ⟨g, 0, none⟩) := hI.old 3 (by kernel_rfl)
        obtain ⟨vo1, ve1, ev, so1, z1, M1, x0, y0, o0, q0, s0, r1⟩ := hE
        have e1 : A.eval (.tmp 55) = S'.val x y vo1 ve1 := ev
        refine at_op rfl rfl (stS_op rfl e0 e1 r1 (one_own so1.ow.hx) (one_own so1.ow.hy) (so1.o.one okM) (so1.e.one okE) (fun W2 r2 o2 => ?_))
        have so2 := so1.row o2 r1 plain_st (by decide)
        have z2 := z1.onto o2 hgz
        have M2 := M1.new o2 HG.out.1
        exact ⟨rfl, ⟨vo1, ve1, ev, so2, z2, M2, _, _, _, _, _, r2⟩, vo1, ve1, r2, z2, so2, M2⟩
       case done =>
        intro A W hI hE1 hE2
        have hA := hI.frame [49, 50, 51, 52, 53, 54, 55] (by kernel_rfl)
        rw [hA]
        simp only [putAll, List.foldl_cons, List.foldl_nil, Act.put, List.setIfInBounds_toArray, List.set_cons_zero, List.set_cons_succ]
        clear hA hI
        obtain ⟨vo2, ve2, hL⟩ := hE2
        clear hE1
        have r5 := hL.row
        have ku2 : W.cell? ⟨g, 27, none⟩ = some (.int .i64 (j : Int)) := by have := (sw hL.row).u; rwa [HU'.out] at this
        go_wp2_with (refine st_sn (s' := { S' with u := (j : Int) + 1 }) rfl rfl rfl rfl r5 rfl rfl ?_; rintro w6 r6 o6 -)
        have so6 := (hL.so.row o6 r5 plain_st (by decide)).as (s' := { S' with u := (j : Int) + 1 }) rfl rfl rfl rfl
        have z6 := hL.z.onto o6 hgz
        have M6 := hL.mild.new o6 HG.out.1
        go_roundg (gk - 1)
        case measure => omega
        case rel =>
         have ht := events_take HA.out (by have := HU.out; omega) HK.out.2.1
         have et : S.taken l = { S' with u := (j : Int) + 1 } := by
          unfold St.taken
          rw [show S.u.toNat = j by have := HU.out; omega, HS.out, HU.out]
         rw [et] at ht
         have hmo := arrive_more S (M3.at' l j)
         rw [HS.out] at hmo
         have h3 := HK.out
         refine ⟨_, vo2, ve2, ⟨r6, z6, so6, M6⟩, ht.1.symm.trans h3.1, ht.2, ?_, ?_, ?_⟩
         ·show S'.o.length + (gk - 1) ≤ 2000; omega
         ·show S'.e.length + (gk - 1) ≤ 2000; omega
         ·show 0 ≤ (j : Int) + 1; omega
      ·have HA : Hid (S.takes l fin = false) := HJ.out false (by rw [HT.out]; simp [h2, h3, hx])
       have HE : Hid (S.idle fin = false) := HD.out false (by simp [h2, hx])
       obtain ⟨P, A, B, hP⟩ : ∃ P A B, S.m.p.send fin = (P, A, B) := ⟨_, _, _, rfl⟩
       have hAb : -1 ≤ A ∧ A ≤ 1000000000 := by have := send_bounds S.m.p fin; rwa [hP] at this
       have HP : Hid (S.m.p.send fin = (P, A, B)) := hP
       clear hP
       have lrow := hG.row.lt
       have lz := hG.z.lt
       have hle0 := hG.so.ow.le
       go_wp2_with (first
        | (refine ixF okM (r := j) rfl rfl rfl rfl hlt ?_)
        | (refine ld_sp rfl rfl rfl hG.row ?_)
        | (go_at_call 178; refine (serialSends_spec S.m.p fin _).mono ?_; rw [HP.out]; rintro e w3 ⟨rfl, hb3⟩; have G3 := hG.below hb3; have l3 := G3.row.lt; have lz3 := G3.z.lt; have hM3 := G3.mild.size; clear kx ku)
        | (refine al_p rfl rfl ?_; intro w4 p4 hb4; have G4 := G3.below hb4; have lp := p4.lt)
        | (refine st_pp rfl rfl rfl rfl p4 ?_; rintro w5 p5 o5; have r5 := G4.row.onto o5 (by omega); have z5 := G4.z.onto o5 (by omega); have so5 := G4.so.row o5 p4 plain_p (by decide); have M5 := G4.mild.new o5 (by omega))
        | (refine ld_pp rfl rfl rfl p5 ?_)
        | (refine st_sp rfl rfl rfl rfl r5 ?_; rintro w6 r6 o6 -; have z6 := z5.onto o6 hgz; have so6 := (so5.row o6 r5 plain_st (by decide)).as (s' := S.port P) rfl rfl rfl rfl; have M6 := M5.new o6 HG.out.1; have ko6 := (sw r6).o; have hal : Below w6.heap.size w6 (w6.alloc (.cells #[.int .i64 (A + 8), .int .i64 1, .int .i64 B] 40)) := (Below.refl _ _).alloc (Nat.le_refl _) _; have hlit := own_litF fM okM w6.heap.size w6 #[.int .i64 (A + 8), .int .i64 1, .int .i64 B] [⟨A + 8, 1, B⟩] rfl (by unfold maxLen; simp) (Nat.le_refl _); have so7 := so6.below hal)
        | (at_builtin; refine appF okM rfl (.tmp 81) (.tmp 86) rfl base S.o [⟨A + 8, 1, B⟩] so7.o (hlit.sl okM) (by simp; omega) (by have := so7.ow.le; omega) ?_; intro v8 w8 ho8 hg8; have t8 := Mild.grown not_plainM so7.o hg8; have r8 := t8.row (r6.below hal) plain_st; have z8 := t8.row (z6.below hal) plain_st; have so8 : So base w8 x y v8 ve ((S.port P).sends ⟨A + 8, 1, B⟩) := ⟨(t8.ow so7.ow).as rfl rfl, ho8, so7.e.grown hg8 (fun k hk e => (OwnF.apart so7.o so7.e (by decide)) k hk e)⟩; have M8 := (M6.trans (Mild.of hal)).trans t8)
        | (refine st_so (l := S.o ++ [⟨A + 8, 1, B⟩]) rfl rfl rfl rfl r8 (ho8.one okM) ?_; rintro w9 r9 o9 -; have z9 := z8.onto o9 hgz; have so9 := so8.row o9 r8 plain_st (by decide); have M9 := M8.new o9 HG.out.1))
       go_roundg (gk - 1)
       case measure =>
        have h2 := meas_beats (l := l) HE.out
        have h3 := HK.out.2.1
        omega
       case rel =>
        have ht := events_beat HA.out HE.out HK.out.2.1
        have h2 := meas_beats (l := l) HE.out
        have et : S.beats fin = (S.port P).sends ⟨A + 8, 1, B⟩ := by
         unfold St.beats
         rw [HP.out]
        rw [et] at ht h2
        have h3 := HK.out
        refine ⟨_, v8, ve, ⟨r9, z9, so9, M9⟩, ht.1.symm.trans h3.1, ht.2, ?_, ?_, ?_⟩
        ·show (S.o ++ [_]).length + (gk - 1) ≤ 2000
         simp
         omega
        ·show S.e.length + (gk - 1) ≤ 2000; omega
        ·show 0 ≤ S.u
         have := HU.out
         omega
   ·have HA : Hid (S.takes l fin = false) := HJ.out false (by rw [HT.out]; simp [h1])
    by_cases hx : X = 0
    ·have HE : Hid (S.idle fin = true) := HD.out true (by simp [hx])
     subst hx
     go_wp2_with (first
      | (refine ixF okM (r := j) rfl rfl rfl rfl hlt ?_)
      | (refine ld_s' rfl rfl rfl hG.row ?_)
      | (refine st_s rfl rfl rfl rfl hG.z (one_own hG.so.ow.hx) (one_own hG.so.ow.hy) (hG.so.o.one okM) (hG.so.e.one okE) ?_; rintro w6 r6 o6 -))
     refine ret_s rfl rfl r6 rfl ?_
     have e1 := HK.out.1
     rw [events_done HA.out HE.out] at e1
     rw [← e1]
     exact ⟨vo, ve, rfl, hG.so.row o6 hG.z plain_st (by decide), hG.mild.new o6 HG.out.2.1⟩
    ·have hx0 : (X == 0) = false := by simpa using hx
     by_cases h2 : fin < X
     ·have HE : Hid (S.idle fin = true) := HD.out true (by simp [h2])
      go_wp2_with (first
       | (refine ixF okM (r := j) rfl rfl rfl rfl hlt ?_)
       | (refine ld_s' rfl rfl rfl hG.row ?_)
       | (refine st_s rfl rfl rfl rfl hG.z (one_own hG.so.ow.hx) (one_own hG.so.ow.hy) (hG.so.o.one okM) (hG.so.e.one okE) ?_; rintro w6 r6 o6 -))
      refine ret_s rfl rfl r6 rfl ?_
      have e1 := HK.out.1
      rw [events_done HA.out HE.out] at e1
      rw [← e1]
      exact ⟨vo, ve, rfl, hG.so.row o6 hG.z plain_st (by decide), hG.mild.new o6 HG.out.2.1⟩
     ·have HE : Hid (S.idle fin = false) := HD.out false (by simp [h2, hx])
      obtain ⟨P, A, B, hP⟩ : ∃ P A B, S.m.p.send fin = (P, A, B) := ⟨_, _, _, rfl⟩
      have hAb : -1 ≤ A ∧ A ≤ 1000000000 := by have := send_bounds S.m.p fin; rwa [hP] at this
      have HP : Hid (S.m.p.send fin = (P, A, B)) := hP
      clear hP
      have lrow := hG.row.lt
      have lz := hG.z.lt
      have hle0 := hG.so.ow.le
      go_wp2_with (first
       | (refine ixF okM (r := j) rfl rfl rfl rfl hlt ?_)
       | (refine ld_sp rfl rfl rfl hG.row ?_)
       | (go_at_call 178; refine (serialSends_spec S.m.p fin _).mono ?_; rw [HP.out]; rintro e w3 ⟨rfl, hb3⟩; have G3 := hG.below hb3; have l3 := G3.row.lt; have lz3 := G3.z.lt; have hM3 := G3.mild.size; clear kx ku)
       | (refine al_p rfl rfl ?_; intro w4 p4 hb4; have G4 := G3.below hb4; have lp := p4.lt)
       | (refine st_pp rfl rfl rfl rfl p4 ?_; rintro w5 p5 o5; have r5 := G4.row.onto o5 (by omega); have z5 := G4.z.onto o5 (by omega); have so5 := G4.so.row o5 p4 plain_p (by decide); have M5 := G4.mild.new o5 (by omega))
       | (refine ld_pp rfl rfl rfl p5 ?_)
       | (refine st_sp rfl rfl rfl rfl r5 ?_; rintro w6 r6 o6 -; have z6 := z5.onto o6 hgz; have so6 := (so5.row o6 r5 plain_st (by decide)).as (s' := S.port P) rfl rfl rfl rfl; have M6 := M5.new o6 HG.out.1; have ko6 := (sw r6).o; have hal : Below w6.heap.size w6 (w6.alloc (.cells #[.int .i64 (A + 8), .int .i64 1, .int .i64 B] 40)) := (Below.refl _ _).alloc (Nat.le_refl _) _; have hlit := own_litF fM okM w6.heap.size w6 #[.int .i64 (A + 8), .int .i64 1, .int .i64 B] [⟨A + 8, 1, B⟩] rfl (by unfold maxLen; simp) (Nat.le_refl _); have so7 := so6.below hal)
       | (at_builtin; refine appF okM rfl (.tmp 81) (.tmp 86) rfl base S.o [⟨A + 8, 1, B⟩] so7.o (hlit.sl okM) (by simp; omega) (by have := so7.ow.le; omega) ?_; intro v8 w8 ho8 hg8; have t8 := Mild.grown not_plainM so7.o hg8; have r8 := t8.row (r6.below hal) plain_st; have z8 := t8.row (z6.below hal) plain_st; have so8 : So base w8 x y v8 ve ((S.port P).sends ⟨A + 8, 1, B⟩) := ⟨(t8.ow so7.ow).as rfl rfl, ho8, so7.e.grown hg8 (fun k hk e => (OwnF.apart so7.o so7.e (by decide)) k hk e)⟩; have M8 := (M6.trans (Mild.of hal)).trans t8)
       | (refine st_so (l := S.o ++ [⟨A + 8, 1, B⟩]) rfl rfl rfl rfl r8 (ho8.one okM) ?_; rintro w9 r9 o9 -; have z9 := z8.onto o9 hgz; have so9 := so8.row o9 r8 plain_st (by decide); have M9 := M8.new o9 HG.out.1))
      go_roundg (gk - 1)
      case measure =>
       have h2 := meas_beats (l := l) HE.out
       have h3 := HK.out.2.1
       omega
      case rel =>
       have ht := events_beat HA.out HE.out HK.out.2.1
       have h2 := meas_beats (l := l) HE.out
       have et : S.beats fin = (S.port P).sends ⟨A + 8, 1, B⟩ := by
        unfold St.beats
        rw [HP.out]
       rw [et] at ht h2
       have h3 := HK.out
       refine ⟨_, v8, ve, ⟨r9, z9, so9, M9⟩, ht.1.symm.trans h3.1, ht.2, ?_, ?_, ?_⟩
       ·show (S.o ++ [_]).length + (gk - 1) ≤ 2000
        simp
        omega
       ·show S.e.length + (gk - 1) ≤ 2000; omega
       ·show 0 ≤ S.u
        have := HU.out
        omega
  ·have hlt' : ¬ (j : Int) < (l.length : Int) := by omega
   have HA : Hid (S.takes l fin = false) := HJ.out false (by rw [HU.out]; simp [hlt'])
   by_cases hx : X = 0
   ·have HE : Hid (S.idle fin = true) := HD.out true (by simp [hx])
    subst hx
    go_wp2_with (first
     | (refine ixF okM (r := j) rfl rfl rfl rfl hlt ?_)
     | (refine ld_s' rfl rfl rfl hG.row ?_)
     | (refine st_s rfl rfl rfl rfl hG.z (one_own hG.so.ow.hx) (one_own hG.so.ow.hy) (hG.so.o.one okM) (hG.so.e.one okE) ?_; rintro w6 r6 o6 -))
    refine ret_s rfl rfl r6 rfl ?_
    have e1 := HK.out.1
    rw [events_done HA.out HE.out] at e1
    rw [← e1]
    exact ⟨vo, ve, rfl, hG.so.row o6 hG.z plain_st (by decide), hG.mild.new o6 HG.out.2.1⟩
   ·have hx0 : (X == 0) = false := by simpa using hx
    by_cases h2 : fin < X
    ·have HE : Hid (S.idle fin = true) := HD.out true (by simp [h2])
     go_wp2_with (first
      | (refine ixF okM (r := j) rfl rfl rfl rfl hlt ?_)
      | (refine ld_s' rfl rfl rfl hG.row ?_)
      | (refine st_s rfl rfl rfl rfl hG.z (one_own hG.so.ow.hx) (one_own hG.so.ow.hy) (hG.so.o.one okM) (hG.so.e.one okE) ?_; rintro w6 r6 o6 -))
     refine ret_s rfl rfl r6 rfl ?_
     have e1 := HK.out.1
     rw [events_done HA.out HE.out] at e1
     rw [← e1]
     exact ⟨vo, ve, rfl, hG.so.row o6 hG.z plain_st (by decide), hG.mild.new o6 HG.out.2.1⟩
    ·have HE : Hid (S.idle fin = false) := HD.out false (by simp [h2, hx])
     obtain ⟨P, A, B, hP⟩ : ∃ P A B, S.m.p.send fin = (P, A, B) := ⟨_, _, _, rfl⟩
     have hAb : -1 ≤ A ∧ A ≤ 1000000000 := by have := send_bounds S.m.p fin; rwa [hP] at this
     have HP : Hid (S.m.p.send fin = (P, A, B)) := hP
     clear hP
     have lrow := hG.row.lt
     have lz := hG.z.lt
     have hle0 := hG.so.ow.le
     go_wp2_with (first
      | (refine ixF okM (r := j) rfl rfl rfl rfl hlt ?_)
      | (refine ld_sp rfl rfl rfl hG.row ?_)
      | (go_at_call 178; refine (serialSends_spec S.m.p fin _).mono ?_; rw [HP.out]; rintro e w3 ⟨rfl, hb3⟩; have G3 := hG.below hb3; have l3 := G3.row.lt; have lz3 := G3.z.lt; have hM3 := G3.mild.size; clear kx ku)
      | (refine al_p rfl rfl ?_; intro w4 p4 hb4; have G4 := G3.below hb4; have lp := p4.lt)
      | (refine st_pp rfl rfl rfl rfl p4 ?_; rintro w5 p5 o5; have r5 := G4.row.onto o5 (by omega); have z5 := G4.z.onto o5 (by omega); have so5 := G4.so.row o5 p4 plain_p (by decide); have M5 := G4.mild.new o5 (by omega))
      | (refine ld_pp rfl rfl rfl p5 ?_)
      | (refine st_sp rfl rfl rfl rfl r5 ?_; rintro w6 r6 o6 -; have z6 := z5.onto o6 hgz; have so6 := (so5.row o6 r5 plain_st (by decide)).as (s' := S.port P) rfl rfl rfl rfl; have M6 := M5.new o6 HG.out.1; have ko6 := (sw r6).o; have hal : Below w6.heap.size w6 (w6.alloc (.cells #[.int .i64 (A + 8), .int .i64 1, .int .i64 B] 40)) := (Below.refl _ _).alloc (Nat.le_refl _) _; have hlit := own_litF fM okM w6.heap.size w6 #[.int .i64 (A + 8), .int .i64 1, .int .i64 B] [⟨A + 8, 1, B⟩] rfl (by unfold maxLen; simp) (Nat.le_refl _); have so7 := so6.below hal)
      | (at_builtin; refine appF okM rfl (.tmp 81) (.tmp 86) rfl base S.o [⟨A + 8, 1, B⟩] so7.o (hlit.sl okM) (by simp; omega) (by have := so7.ow.le; omega) ?_; intro v8 w8 ho8 hg8; have t8 := Mild.grown not_plainM so7.o hg8; have r8 := t8.row (r6.below hal) plain_st; have z8 := t8.row (z6.below hal) plain_st; have so8 : So base w8 x y v8 ve ((S.port P).sends ⟨A + 8, 1, B⟩) := ⟨(t8.ow so7.ow).as rfl rfl, ho8, so7.e.grown hg8 (fun k hk e => (OwnF.apart so7.o so7.e (by decide)) k hk e)⟩; have M8 := (M6.trans (Mild.of hal)).trans t8)
      | (refine st_so (l := S.o ++ [⟨A + 8, 1, B⟩]) rfl rfl rfl rfl r8 (ho8.one okM) ?_; rintro w9 r9 o9 -; have z9 := z8.onto o9 hgz; have so9 := so8.row o9 r8 plain_st (by decide); have M9 := M8.new o9 HG.out.1))
     go_roundg (gk - 1)
     case measure =>
      have h2 := meas_beats (l := l) HE.out
      have h3 := HK.out.2.1
      omega
     case rel =>
      have ht := events_beat HA.out HE.out HK.out.2.1
      have h2 := meas_beats (l := l) HE.out
      have et : S.beats fin = (S.port P).sends ⟨A + 8, 1, B⟩ := by
       unfold St.beats
       rw [HP.out]
      rw [et] at ht h2
      have h3 := HK.out
      refine ⟨_, v8, ve, ⟨r9, z9, so9, M9⟩, ht.1.symm.trans h3.1, ht.2, ?_, ?_, ?_⟩
      ·show (S.o ++ [_]).length + (gk - 1) ≤ 2000
       simp
       omega
      ·show S.e.length + (gk - 1) ≤ 2000; omega
      ·show 0 ≤ S.u
       have := HU.out
       omega
end Go.Proofs.YtghmkacamabndaaGreatDoor.Mem
namespace Go.Proofs.YtghmkacamabndaaGreatDoor.Mem
open Go.ChangeShapes Go.WideShapes Go.RowKit Base Num Slc Slf Rw Tmr Reg

theorem inboxOk_few {l : List M3} (h : inboxOk l = true) : l.length ≤ 200 := by
 simp only [inboxOk, Bool.and_eq_true, decide_eq_true_eq] at h
 exact h.2
end Go.Proofs.YtghmkacamabndaaGreatDoor.Mem
namespace Go.Proofs.YtghmkacamabndaaGreatDoor.Mem
open Go.ChangeShapes Go.WideShapes Go.RowKit Base Num Slc Rw Tmr Srl Rom RomOf Opl Reg
section
variable {base : Nat} {w : World} {x y v : Value} {m : Mc}

def Did (base : Nat) (w w' : World) (e : Ending) (x y : Value) (r : Mc × Int) : Prop := e = .returned (.tuple #[r.1.val x y, .int .i64 r.2]) ∧ Ow base w' x y r.1 ∧ But y w w'
set_option maxRecDepth 100000 in
set_option maxHeartbeats 1000000 in
theorem l7Do_0 (hv : v = m.val x y) (h : Ow base w x y m) (hok : m.ok = true) (n : Int) (hn : bok n = true) :
  Calls Tryz.prog 175 #[v, .int .i64 0, .int .i64 n] w fun e w' => Did base w w' e x y (m.does n 0) := by
 go_enter Tryz.func175, Tryz.ntmps175
 go_wp2_with (first
  | (refine box_m rfl rfl hv ?_; intro w0 r0 hB0)
  | (refine al_mc rfl rfl ?_; intro w1 z1 hB1; have r1 := r0.below hB1; have hB2 := hB0.trans (hB1.mono hB0.size); have l0 := r0.lt; have lz := z1.lt; have h1 := h.below hB2)
  | (refine ld_mc rfl rfl rfl r1 ?_)
  | (refine st_mc rfl rfl rfl rfl z1 (one_own h.hx) (one_own h.hy) ?_; intro w6 r6 o6 s6))
 refine ret_mc2 rfl rfl r6 rfl rfl ?_
 have hB6 := below_onto hB2 o6 (by omega)
 exact ⟨rfl, (h.below hB6).as rfl rfl, .of hB6⟩
set_option maxRecDepth 100000 in
set_option maxHeartbeats 1000000 in
theorem l7Do_1 (hv : v = m.val x y) (h : Ow base w x y m) (hok : m.ok = true) (n : Int) (hn : bok n = true) :
  Calls Tryz.prog 175 #[v, .int .i64 1, .int .i64 n] w fun e w' => Did base w w' e x y (m.does n 1) := by
 go_enter Tryz.func175, Tryz.ntmps175
 go_wp2_with (first
  | (refine box_m rfl rfl hv ?_; intro w0 r0 hB0)
  | (refine al_mc rfl rfl ?_; intro w1 z1 hB1; have r1 := r0.below hB1; have hB2 := hB0.trans (hB1.mono hB0.size); have l0 := r0.lt; have lz := z1.lt; have h1 := h.below hB2)
  | (refine st_num (m' := (m.does n 1).1) rfl rfl rfl rfl r1 rfl rfl ?_; intro w2 r2 o2 s2; have z2 := z1.onto o2 (by omega); have hB3 := below_onto hB2 o2 (by omega))
  | (refine ld_mc rfl rfl rfl r2 ?_)
  | (refine st_mc rfl rfl rfl rfl z2 (one_own h.hx) (one_own h.hy) ?_; intro w6 r6 o6 s6))
 refine ret_mc2 rfl rfl r6 rfl rfl ?_
 have hB6 := below_onto hB3 o6 (by omega)
 exact ⟨rfl, (h.below hB6).as rfl rfl, .of hB6⟩
set_option maxRecDepth 100000 in
set_option maxHeartbeats 1000000 in
theorem l7Do_2 (hv : v = m.val x y) (h : Ow base w x y m) (hok : m.ok = true) (n : Int) (hn : bok n = true) :
  Calls Tryz.prog 175 #[v, .int .i64 2, .int .i64 n] w fun e w' => Did base w w' e x y (m.does n 2) := by
 go_enter Tryz.func175, Tryz.ntmps175
 go_wp2_with (first
  | (refine box_m rfl rfl hv ?_; intro w0 r0 hB0)
  | (refine al_mc rfl rfl ?_; intro w1 z1 hB1; have r1 := r0.below hB1; have hB2 := hB0.trans (hB1.mono hB0.size); have l0 := r0.lt; have lz := z1.lt; have h1 := h.below hB2)
  | (refine st_num (m' := (m.does n 2).1) rfl rfl rfl rfl r1 rfl rfl ?_; intro w2 r2 o2 s2; have z2 := z1.onto o2 (by omega); have hB3 := below_onto hB2 o2 (by omega))
  | (refine ld_mc rfl rfl rfl r2 ?_)
  | (refine st_mc rfl rfl rfl rfl z2 (one_own h.hx) (one_own h.hy) ?_; intro w6 r6 o6 s6))
 refine ret_mc2 rfl rfl r6 rfl rfl ?_
 have hB6 := below_onto hB3 o6 (by omega)
 exact ⟨rfl, (h.below hB6).as rfl rfl, .of hB6⟩
set_option maxRecDepth 100000 in
set_option maxHeartbeats 1000000 in
theorem l7Do_3 (hv : v = m.val x y) (h : Ow base w x y m) (hok : m.ok = true) (n : Int) (hn : bok n = true) :
  Calls Tryz.prog 175 #[v, .int .i64 3, .int .i64 n] w fun e w' => Did base w w' e x y (m.does n 3) := by
 go_enter Tryz.func175, Tryz.ntmps175
 go_wp2_with (first
  | (refine box_m rfl rfl hv ?_; intro w0 r0 hB0)
  | (refine al_mc rfl rfl ?_; intro w1 z1 hB1; have r1 := r0.below hB1; have hB2 := hB0.trans (hB1.mono hB0.size); have l0 := r0.lt; have lz := z1.lt; have h1 := h.below hB2; have kc := (cw r1).b)
  | (refine st_num (m' := (m.does n 3).1) rfl rfl rfl rfl r1 rfl rfl ?_; intro w2 r2 o2 s2; have z2 := z1.onto o2 (by omega); have hB3 := below_onto hB2 o2 (by omega))
  | (refine ld_mc rfl rfl rfl r2 ?_)
  | (refine st_mc rfl rfl rfl rfl z2 (one_own h.hx) (one_own h.hy) ?_; intro w6 r6 o6 s6))
 refine ret_mc2 rfl rfl r6 rfl rfl ?_
 have hB6 := below_onto hB3 o6 (by omega)
 exact ⟨rfl, (h.below hB6).as rfl rfl, .of hB6⟩
set_option maxRecDepth 100000 in
set_option maxHeartbeats 1000000 in
theorem l7Do_4 (hv : v = m.val x y) (h : Ow base w x y m) (hok : m.ok = true) (n : Int) (hn : bok n = true) :
  Calls Tryz.prog 175 #[v, .int .i64 4, .int .i64 n] w fun e w' => Did base w w' e x y (m.does n 4) := by
 go_enter Tryz.func175, Tryz.ntmps175
 go_wp2_with (first
  | (refine box_m rfl rfl hv ?_; intro w0 r0 hB0)
  | (refine al_mc rfl rfl ?_; intro w1 z1 hB1; have r1 := r0.below hB1; have hB2 := hB0.trans (hB1.mono hB0.size); have l0 := r0.lt; have lz := z1.lt; have h1 := h.below hB2; have kc := (cw r1).a)
  | (refine st_num (m' := (m.does n 4).1) rfl rfl rfl rfl r1 rfl rfl ?_; intro w2 r2 o2 s2; have z2 := z1.onto o2 (by omega); have hB3 := below_onto hB2 o2 (by omega))
  | (refine ld_mc rfl rfl rfl r2 ?_)
  | (refine st_mc rfl rfl rfl rfl z2 (one_own h.hx) (one_own h.hy) ?_; intro w6 r6 o6 s6))
 refine ret_mc2 rfl rfl r6 rfl rfl ?_
 have hB6 := below_onto hB3 o6 (by omega)
 exact ⟨rfl, (h.below hB6).as rfl rfl, .of hB6⟩
set_option maxRecDepth 100000 in
set_option maxHeartbeats 1000000 in
theorem l7Do_27 (hv : v = m.val x y) (h : Ow base w x y m) (hok : m.ok = true) (n : Int) (hn : bok n = true) :
  Calls Tryz.prog 175 #[v, .int .i64 27, .int .i64 n] w fun e w' => Did base w w' e x y (m.does n 27) := by
 go_enter Tryz.func175, Tryz.ntmps175
 go_wp2_with (first
  | (refine box_m rfl rfl hv ?_; intro w0 r0 hB0)
  | (refine al_mc rfl rfl ?_; intro w1 z1 hB1; have r1 := r0.below hB1; have hB2 := hB0.trans (hB1.mono hB0.size); have l0 := r0.lt; have lz := z1.lt; have h1 := h.below hB2)
  | (refine st_yes (m' := (m.does n 27).1) rfl rfl rfl rfl r1 rfl rfl ?_; intro w2 r2 o2 s2; have z2 := z1.onto o2 (by omega); have hB3 := below_onto hB2 o2 (by omega))
  | (refine ld_mc rfl rfl rfl r2 ?_)
  | (refine st_mc rfl rfl rfl rfl z2 (one_own h.hx) (one_own h.hy) ?_; intro w6 r6 o6 s6))
 refine ret_mc2 rfl rfl r6 rfl rfl ?_
 have hB6 := below_onto hB3 o6 (by omega)
 exact ⟨rfl, (h.below hB6).as rfl rfl, .of hB6⟩
set_option maxRecDepth 100000 in
set_option maxHeartbeats 1000000 in
theorem l7Do_28 (hv : v = m.val x y) (h : Ow base w x y m) (hok : m.ok = true) (n : Int) (hn : bok n = true) :
  Calls Tryz.prog 175 #[v, .int .i64 28, .int .i64 n] w fun e w' => Did base w w' e x y (m.does n 28) := by
 go_enter Tryz.func175, Tryz.ntmps175
 go_wp2_with (first
  | (refine box_m rfl rfl hv ?_; intro w0 r0 hB0)
  | (refine al_mc rfl rfl ?_; intro w1 z1 hB1; have r1 := r0.below hB1; have hB2 := hB0.trans (hB1.mono hB0.size); have l0 := r0.lt; have lz := z1.lt; have h1 := h.below hB2)
  | (refine st_yes (m' := (m.does n 28).1) rfl rfl rfl rfl r1 rfl rfl ?_; intro w2 r2 o2 s2; have z2 := z1.onto o2 (by omega); have hB3 := below_onto hB2 o2 (by omega))
  | (refine ld_mc rfl rfl rfl r2 ?_)
  | (refine st_mc rfl rfl rfl rfl z2 (one_own h.hx) (one_own h.hy) ?_; intro w6 r6 o6 s6))
 refine ret_mc2 rfl rfl r6 rfl rfl ?_
 have hB6 := below_onto hB3 o6 (by omega)
 exact ⟨rfl, (h.below hB6).as rfl rfl, .of hB6⟩
set_option maxRecDepth 100000 in
set_option maxHeartbeats 1000000 in
theorem l7Do_30 (hv : v = m.val x y) (h : Ow base w x y m) (hok : m.ok = true) (n : Int) (hn : bok n = true) :
  Calls Tryz.prog 175 #[v, .int .i64 30, .int .i64 n] w fun e w' => Did base w w' e x y (m.does n 30) := by
 go_enter Tryz.func175, Tryz.ntmps175
 go_wp2_with (first
  | (refine box_m rfl rfl hv ?_; intro w0 r0 hB0)
  | (refine al_mc rfl rfl ?_; intro w1 z1 hB1; have r1 := r0.below hB1; have hB2 := hB0.trans (hB1.mono hB0.size); have l0 := r0.lt; have lz := z1.lt; have h1 := h.below hB2)
  | (refine st_yes (m' := (m.does n 30).1) rfl rfl rfl rfl r1 rfl rfl ?_; intro w2 r2 o2 s2; have z2 := z1.onto o2 (by omega); have hB3 := below_onto hB2 o2 (by omega))
  | (refine ld_mc rfl rfl rfl r2 ?_)
  | (refine st_mc rfl rfl rfl rfl z2 (one_own h.hx) (one_own h.hy) ?_; intro w6 r6 o6 s6))
 refine ret_mc2 rfl rfl r6 rfl rfl ?_
 have hB6 := below_onto hB3 o6 (by omega)
 exact ⟨rfl, (h.below hB6).as rfl rfl, .of hB6⟩
set_option maxRecDepth 100000 in
set_option maxHeartbeats 1000000 in
theorem l7Do_5 (hv : v = m.val x y) (h : Ow base w x y m) (hok : m.ok = true) (n : Int) (hn : bok n = true) :
  Calls Tryz.prog 175 #[v, .int .i64 5, .int .i64 n] w fun e w' => Did base w w' e x y (m.does n 5) := by
 go_enter Tryz.func175, Tryz.ntmps175
 go_wp2_with (first
  | (refine box_m rfl rfl hv ?_; intro w0 r0 hB0)
  | (refine al_mc rfl rfl ?_; intro w1 z1 hB1; have r1 := r0.below hB1; have hB2 := hB0.trans (hB1.mono hB0.size); have l0 := r0.lt; have lz := z1.lt; have h1 := h.below hB2)
  | (refine ld_mc rfl rfl rfl r1 ?_)
  | (go_at_call 173; refine (l6Read_spec _ m _ _ h1.sl (Mc.right hok) (bok_iff.1 hn)).mono ?_; rintro e w2 ⟨rfl, hb2⟩; have hB3 := hB2.trans (hb2.mono hB2.size); have z2 := z1.below hb2; have r2 := r1.below hb2)
  | (refine st_num (m' := (m.does n 5).1) rfl rfl rfl rfl r2 rfl rfl ?_; intro w3 r3 o3 s3; have z3 := z2.onto o3 (by omega); have hB4 := below_onto hB3 o3 (by omega))
  | (refine ld_mc rfl rfl rfl r3 ?_)
  | (refine st_mc rfl rfl rfl rfl z3 (one_own h.hx) (one_own h.hy) ?_; intro w6 r6 o6 s6))
 refine ret_mc2 rfl rfl r6 rfl rfl ?_
 have hB6 := below_onto hB4 o6 (by omega)
 exact ⟨rfl, (h.below hB6).as rfl rfl, .of hB6⟩
set_option maxRecDepth 100000 in
set_option maxHeartbeats 1000000 in
theorem l7Do_7 (hv : v = m.val x y) (h : Ow base w x y m) (hok : m.ok = true) (n : Int) (hn : bok n = true) :
  Calls Tryz.prog 175 #[v, .int .i64 7, .int .i64 n] w fun e w' => Did base w w' e x y (m.does n 7) := by
 go_enter Tryz.func175, Tryz.ntmps175
 go_wp2_with (first
  | (refine box_m rfl rfl hv ?_; intro w0 r0 hB0)
  | (refine al_mc rfl rfl ?_; intro w1 z1 hB1; have r1 := r0.below hB1; have hB2 := hB0.trans (hB1.mono hB0.size); have l0 := r0.lt; have lz := z1.lt; have h1 := h.below hB2; have kc := (cw r1).b)
  | (refine ld_mc rfl rfl rfl r1 ?_)
  | (go_at_call 173; refine (l6Read_spec _ m _ _ h1.sl (Mc.right hok) (bok_iff.1 (okm.1 hok).b)).mono ?_; rintro e w2 ⟨rfl, hb2⟩; have hB3 := hB2.trans (hb2.mono hB2.size); have z2 := z1.below hb2; have r2 := r1.below hb2)
  | (refine st_num (m' := (m.does n 7).1) rfl rfl rfl rfl r2 rfl rfl ?_; intro w3 r3 o3 s3; have z3 := z2.onto o3 (by omega); have hB4 := below_onto hB3 o3 (by omega))
  | (refine ld_mc rfl rfl rfl r3 ?_)
  | (refine st_mc rfl rfl rfl rfl z3 (one_own h.hx) (one_own h.hy) ?_; intro w6 r6 o6 s6))
 refine ret_mc2 rfl rfl r6 rfl rfl ?_
 have hB6 := below_onto hB4 o6 (by omega)
 exact ⟨rfl, (h.below hB6).as rfl rfl, .of hB6⟩
set_option maxRecDepth 100000 in
set_option maxHeartbeats 1000000 in
theorem l7Do_6 (hv : v = m.val x y) (h : Ow base w x y m) (hok : m.ok = true) (n : Int) (hn : bok n = true) :
  Calls Tryz.prog 175 #[v, .int .i64 6, .int .i64 n] w fun e w' => Did base w w' e x y (m.does n 6) := by
 obtain ⟨g, hg, hgl⟩ := ram_block h.hy hok
 go_enter Tryz.func175, Tryz.ntmps175
 go_wp2_with (first
  | (refine box_m rfl rfl hv ?_; intro w0 r0 hB0)
  | (refine al_mc rfl rfl ?_; intro w1 z1 hB1; have r1 := r0.below hB1; have hB2 := hB0.trans (hB1.mono hB0.size); have l0 := r0.lt; have lz := z1.lt; have h1 := h.below hB2; have ka := (cw r1).a)
  | (refine ld_mc rfl rfl rfl r1 ?_)
  | (go_at_call 233; refine (l7Put_spec rfl h1 hok _ _ hn (okm.1 hok).a).mono ?_; rintro e w3 ⟨rfl, h3, hb3⟩; have z3 := hb3.row hg z1 (by omega))
  | (refine st_mc rfl rfl rfl rfl z3 (one_own h.hx) (one_own h.hy) ?_; intro w6 r6 o6 s6))
 refine ret_mc2 rfl rfl r6 rfl rfl ?_
 exact ⟨rfl, h3.at o6 (fun e => by have := (h.hx.lt _ e).2; omega) (fun e => by have := (h.hy.lt _ e).2; omega), ((But.of hB2).trans hb3).new o6 (by omega)⟩
set_option maxRecDepth 100000 in
set_option maxHeartbeats 1000000 in
theorem l7Do_8 (hv : v = m.val x y) (h : Ow base w x y m) (hok : m.ok = true) (n : Int) (hn : bok n = true) :
  Calls Tryz.prog 175 #[v, .int .i64 8, .int .i64 n] w fun e w' => Did base w w' e x y (m.does n 8) := by
 obtain ⟨g, hg, hgl⟩ := ram_block h.hy hok
 go_enter Tryz.func175, Tryz.ntmps175
 go_wp2_with (first
  | (refine box_m rfl rfl hv ?_; intro w0 r0 hB0)
  | (refine al_mc rfl rfl ?_; intro w1 z1 hB1; have r1 := r0.below hB1; have hB2 := hB0.trans (hB1.mono hB0.size); have l0 := r0.lt; have lz := z1.lt; have h1 := h.below hB2; have ka := (cw r1).a; have kb := (cw r1).b)
  | (refine ld_mc rfl rfl rfl r1 ?_)
  | (go_at_call 233; refine (l7Put_spec rfl h1 hok _ _ (okm.1 hok).b (okm.1 hok).a).mono ?_; rintro e w3 ⟨rfl, h3, hb3⟩; have z3 := hb3.row hg z1 (by omega))
  | (refine st_mc rfl rfl rfl rfl z3 (one_own h.hx) (one_own h.hy) ?_; intro w6 r6 o6 s6))
 refine ret_mc2 rfl rfl r6 rfl rfl ?_
 exact ⟨rfl, h3.at o6 (fun e => by have := (h.hx.lt _ e).2; omega) (fun e => by have := (h.hy.lt _ e).2; omega), ((But.of hB2).trans hb3).new o6 (by omega)⟩
set_option maxRecDepth 100000 in
set_option maxHeartbeats 1000000 in
theorem l7Do_25 (hv : v = m.val x y) (h : Ow base w x y m) (hok : m.ok = true) (n : Int) (hn : bok n = true) :
  Calls Tryz.prog 175 #[v, .int .i64 25, .int .i64 n] w fun e w' => Did base w w' e x y (m.does n 25) := by
 obtain ⟨g, hg, hgl⟩ := ram_block h.hy hok
 go_enter Tryz.func175, Tryz.ntmps175
 go_wp2_with (first
  | (refine box_m rfl rfl hv ?_; intro w0 r0 hB0)
  | (refine al_mc rfl rfl ?_; intro w1 z1 hB1; have r1 := r0.below hB1; have hB2 := hB0.trans (hB1.mono hB0.size); have l0 := r0.lt; have lz := z1.lt; have h1 := h.below hB2; have ka := (cw r1).a)
  | (refine ld_mc rfl rfl rfl r1 ?_)
  | (go_at_call 172; refine (l7Push_spec rfl h1 hok _ (okm.1 hok).a).mono ?_; rintro e w3 ⟨rfl, h3, hb3⟩; have z3 := hb3.row hg z1 (by omega))
  | (refine st_mc rfl rfl rfl rfl z3 (one_own h.hx) (one_own h.hy) ?_; intro w6 r6 o6 s6))
 refine ret_mc2 rfl rfl r6 rfl rfl ?_
 exact ⟨rfl, h3.at o6 (fun e => by have := (h.hx.lt _ e).2; omega) (fun e => by have := (h.hy.lt _ e).2; omega), ((But.of hB2).trans hb3).new o6 (by omega)⟩
set_option maxRecDepth 100000 in
set_option maxHeartbeats 1000000 in
theorem l7Do_9 (hv : v = m.val x y) (h : Ow base w x y m) (hok : m.ok = true) (n : Int) (hn : bok n = true) :
  Calls Tryz.prog 175 #[v, .int .i64 9, .int .i64 n] w fun e w' => Did base w w' e x y (m.does n 9) := by
 go_enter Tryz.func175, Tryz.ntmps175
 go_wp2_with (first
  | (refine box_m rfl rfl hv ?_; intro w0 r0 hB0)
  | (refine al_mc rfl rfl ?_; intro w1 z1 hB1; have r1 := r0.below hB1; have hB2 := hB0.trans (hB1.mono hB0.size); have l0 := r0.lt; have lz := z1.lt; have h1 := h.below hB2)
  | (refine ld_mc rfl rfl rfl r1 ?_)
  | (go_at_call 236; refine (l7Alu_9 rfl h1 n).mono ?_; rintro e w2 ⟨rfl, hb2⟩; have hB3 := hB2.trans (hb2.mono hB2.size); have z2 := z1.below hb2; have r2 := r1.below hb2)
  | (refine st_mc rfl rfl rfl rfl r2 (one_own h.hx) (one_own h.hy) ?_; intro w3 r3 o3 s3; have z3 := z2.onto o3 (by omega); have hB4 := below_onto hB3 o3 (by omega))
  | (refine ld_mc rfl rfl rfl r3 ?_)
  | (refine st_mc rfl rfl rfl rfl z3 (one_own h.hx) (one_own h.hy) ?_; intro w6 r6 o6 s6))
 refine ret_mc2 rfl rfl r6 rfl rfl ?_
 have hB6 := below_onto hB4 o6 (by omega)
 exact ⟨rfl, (h.below hB6).as rfl rfl, .of hB6⟩
set_option maxRecDepth 100000 in
set_option maxHeartbeats 1000000 in
theorem l7Do_10 (hv : v = m.val x y) (h : Ow base w x y m) (hok : m.ok = true) (n : Int) (hn : bok n = true) :
  Calls Tryz.prog 175 #[v, .int .i64 10, .int .i64 n] w fun e w' => Did base w w' e x y (m.does n 10) := by
 go_enter Tryz.func175, Tryz.ntmps175
 go_wp2_with (first
  | (refine box_m rfl rfl hv ?_; intro w0 r0 hB0)
  | (refine al_mc rfl rfl ?_; intro w1 z1 hB1; have r1 := r0.below hB1; have hB2 := hB0.trans (hB1.mono hB0.size); have l0 := r0.lt; have lz := z1.lt; have h1 := h.below hB2)
  | (refine ld_mc rfl rfl rfl r1 ?_)
  | (go_at_call 236; refine (l7Alu_10 rfl h1 n).mono ?_; rintro e w2 ⟨rfl, hb2⟩; have hB3 := hB2.trans (hb2.mono hB2.size); have z2 := z1.below hb2; have r2 := r1.below hb2)
  | (refine st_mc rfl rfl rfl rfl r2 (one_own h.hx) (one_own h.hy) ?_; intro w3 r3 o3 s3; have z3 := z2.onto o3 (by omega); have hB4 := below_onto hB3 o3 (by omega))
  | (refine ld_mc rfl rfl rfl r3 ?_)
  | (refine st_mc rfl rfl rfl rfl z3 (one_own h.hx) (one_own h.hy) ?_; intro w6 r6 o6 s6))
 refine ret_mc2 rfl rfl r6 rfl rfl ?_
 have hB6 := below_onto hB4 o6 (by omega)
 exact ⟨rfl, (h.below hB6).as rfl rfl, .of hB6⟩
set_option maxRecDepth 100000 in
set_option maxHeartbeats 1000000 in
theorem l7Do_11 (hv : v = m.val x y) (h : Ow base w x y m) (hok : m.ok = true) (n : Int) (hn : bok n = true) :
  Calls Tryz.prog 175 #[v, .int .i64 11, .int .i64 n] w fun e w' => Did base w w' e x y (m.does n 11) := by
 go_enter Tryz.func175, Tryz.ntmps175
 go_wp2_with (first
  | (refine box_m rfl rfl hv ?_; intro w0 r0 hB0)
  | (refine al_mc rfl rfl ?_; intro w1 z1 hB1; have r1 := r0.below hB1; have hB2 := hB0.trans (hB1.mono hB0.size); have l0 := r0.lt; have lz := z1.lt; have h1 := h.below hB2)
  | (refine ld_mc rfl rfl rfl r1 ?_)
  | (go_at_call 236; refine (l7Alu_11 rfl h1 n).mono ?_; rintro e w2 ⟨rfl, hb2⟩; have hB3 := hB2.trans (hb2.mono hB2.size); have z2 := z1.below hb2; have r2 := r1.below hb2)
  | (refine st_mc rfl rfl rfl rfl r2 (one_own h.hx) (one_own h.hy) ?_; intro w3 r3 o3 s3; have z3 := z2.onto o3 (by omega); have hB4 := below_onto hB3 o3 (by omega))
  | (refine ld_mc rfl rfl rfl r3 ?_)
  | (refine st_mc rfl rfl rfl rfl z3 (one_own h.hx) (one_own h.hy) ?_; intro w6 r6 o6 s6))
 refine ret_mc2 rfl rfl r6 rfl rfl ?_
 have hB6 := below_onto hB4 o6 (by omega)
 exact ⟨rfl, (h.below hB6).as rfl rfl, .of hB6⟩
set_option maxRecDepth 100000 in
set_option maxHeartbeats 1000000 in
theorem l7Do_12 (hv : v = m.val x y) (h : Ow base w x y m) (hok : m.ok = true) (n : Int) (hn : bok n = true) :
  Calls Tryz.prog 175 #[v, .int .i64 12, .int .i64 n] w fun e w' => Did base w w' e x y (m.does n 12) := by
 go_enter Tryz.func175, Tryz.ntmps175
 go_wp2_with (first
  | (refine box_m rfl rfl hv ?_; intro w0 r0 hB0)
  | (refine al_mc rfl rfl ?_; intro w1 z1 hB1; have r1 := r0.below hB1; have hB2 := hB0.trans (hB1.mono hB0.size); have l0 := r0.lt; have lz := z1.lt; have h1 := h.below hB2)
  | (refine ld_mc rfl rfl rfl r1 ?_)
  | (go_at_call 236; refine (l7Alu_12 rfl h1 n).mono ?_; rintro e w2 ⟨rfl, hb2⟩; have hB3 := hB2.trans (hb2.mono hB2.size); have z2 := z1.below hb2; have r2 := r1.below hb2)
  | (refine st_mc rfl rfl rfl rfl r2 (one_own h.hx) (one_own h.hy) ?_; intro w3 r3 o3 s3; have z3 := z2.onto o3 (by omega); have hB4 := below_onto hB3 o3 (by omega))
  | (refine ld_mc rfl rfl rfl r3 ?_)
  | (refine st_mc rfl rfl rfl rfl z3 (one_own h.hx) (one_own h.hy) ?_; intro w6 r6 o6 s6))
 refine ret_mc2 rfl rfl r6 rfl rfl ?_
 have hB6 := below_onto hB4 o6 (by omega)
 exact ⟨rfl, (h.below hB6).as rfl rfl, .of hB6⟩
set_option maxRecDepth 100000 in
set_option maxHeartbeats 1000000 in
theorem l7Do_13 (hv : v = m.val x y) (h : Ow base w x y m) (hok : m.ok = true) (n : Int) (hn : bok n = true) :
  Calls Tryz.prog 175 #[v, .int .i64 13, .int .i64 n] w fun e w' => Did base w w' e x y (m.does n 13) := by
 go_enter Tryz.func175, Tryz.ntmps175
 go_wp2_with (first
  | (refine box_m rfl rfl hv ?_; intro w0 r0 hB0)
  | (refine al_mc rfl rfl ?_; intro w1 z1 hB1; have r1 := r0.below hB1; have hB2 := hB0.trans (hB1.mono hB0.size); have l0 := r0.lt; have lz := z1.lt; have h1 := h.below hB2)
  | (refine ld_mc rfl rfl rfl r1 ?_)
  | (go_at_call 236; refine (l7Alu_13 rfl h1 n).mono ?_; rintro e w2 ⟨rfl, hb2⟩; have hB3 := hB2.trans (hb2.mono hB2.size); have z2 := z1.below hb2; have r2 := r1.below hb2)
  | (refine st_mc rfl rfl rfl rfl r2 (one_own h.hx) (one_own h.hy) ?_; intro w3 r3 o3 s3; have z3 := z2.onto o3 (by omega); have hB4 := below_onto hB3 o3 (by omega))
  | (refine ld_mc rfl rfl rfl r3 ?_)
  | (refine st_mc rfl rfl rfl rfl z3 (one_own h.hx) (one_own h.hy) ?_; intro w6 r6 o6 s6))
 refine ret_mc2 rfl rfl r6 rfl rfl ?_
 have hB6 := below_onto hB4 o6 (by omega)
 exact ⟨rfl, (h.below hB6).as rfl rfl, .of hB6⟩
set_option maxRecDepth 100000 in
set_option maxHeartbeats 1000000 in
theorem l7Do_14 (hv : v = m.val x y) (h : Ow base w x y m) (hok : m.ok = true) (n : Int) (hn : bok n = true) :
  Calls Tryz.prog 175 #[v, .int .i64 14, .int .i64 n] w fun e w' => Did base w w' e x y (m.does n 14) := by
 go_enter Tryz.func175, Tryz.ntmps175
 go_wp2_with (first
  | (refine box_m rfl rfl hv ?_; intro w0 r0 hB0)
  | (refine al_mc rfl rfl ?_; intro w1 z1 hB1; have r1 := r0.below hB1; have hB2 := hB0.trans (hB1.mono hB0.size); have l0 := r0.lt; have lz := z1.lt; have h1 := h.below hB2)
  | (refine ld_mc rfl rfl rfl r1 ?_)
  | (go_at_call 236; refine (l7Alu_14 rfl h1 n).mono ?_; rintro e w2 ⟨rfl, hb2⟩; have hB3 := hB2.trans (hb2.mono hB2.size); have z2 := z1.below hb2; have r2 := r1.below hb2)
  | (refine st_mc rfl rfl rfl rfl r2 (one_own h.hx) (one_own h.hy) ?_; intro w3 r3 o3 s3; have z3 := z2.onto o3 (by omega); have hB4 := below_onto hB3 o3 (by omega))
  | (refine ld_mc rfl rfl rfl r3 ?_)
  | (refine st_mc rfl rfl rfl rfl z3 (one_own h.hx) (one_own h.hy) ?_; intro w6 r6 o6 s6))
 refine ret_mc2 rfl rfl r6 rfl rfl ?_
 have hB6 := below_onto hB4 o6 (by omega)
 exact ⟨rfl, (h.below hB6).as rfl rfl, .of hB6⟩
set_option maxRecDepth 100000 in
set_option maxHeartbeats 1000000 in
theorem l7Do_15 (hv : v = m.val x y) (h : Ow base w x y m) (hok : m.ok = true) (n : Int) (hn : bok n = true) :
  Calls Tryz.prog 175 #[v, .int .i64 15, .int .i64 n] w fun e w' => Did base w w' e x y (m.does n 15) := by
 go_enter Tryz.func175, Tryz.ntmps175
 go_wp2_with (first
  | (refine box_m rfl rfl hv ?_; intro w0 r0 hB0)
  | (refine al_mc rfl rfl ?_; intro w1 z1 hB1; have r1 := r0.below hB1; have hB2 := hB0.trans (hB1.mono hB0.size); have l0 := r0.lt; have lz := z1.lt; have h1 := h.below hB2)
  | (refine ld_mc rfl rfl rfl r1 ?_)
  | (go_at_call 236; refine (l7Alu_15 rfl h1 n).mono ?_; rintro e w2 ⟨rfl, hb2⟩; have hB3 := hB2.trans (hb2.mono hB2.size); have z2 := z1.below hb2; have r2 := r1.below hb2)
  | (refine st_mc rfl rfl rfl rfl r2 (one_own h.hx) (one_own h.hy) ?_; intro w3 r3 o3 s3; have z3 := z2.onto o3 (by omega); have hB4 := below_onto hB3 o3 (by omega))
  | (refine ld_mc rfl rfl rfl r3 ?_)
  | (refine st_mc rfl rfl rfl rfl z3 (one_own h.hx) (one_own h.hy) ?_; intro w6 r6 o6 s6))
 refine ret_mc2 rfl rfl r6 rfl rfl ?_
 have hB6 := below_onto hB4 o6 (by omega)
 exact ⟨rfl, (h.below hB6).as rfl rfl, .of hB6⟩
set_option maxRecDepth 100000 in
set_option maxHeartbeats 1000000 in
theorem l7Do_16 (hv : v = m.val x y) (h : Ow base w x y m) (hok : m.ok = true) (n : Int) (hn : bok n = true) :
  Calls Tryz.prog 175 #[v, .int .i64 16, .int .i64 n] w fun e w' => Did base w w' e x y (m.does n 16) := by
 go_enter Tryz.func175, Tryz.ntmps175
 go_wp2_with (first
  | (refine box_m rfl rfl hv ?_; intro w0 r0 hB0)
  | (refine al_mc rfl rfl ?_; intro w1 z1 hB1; have r1 := r0.below hB1; have hB2 := hB0.trans (hB1.mono hB0.size); have l0 := r0.lt; have lz := z1.lt; have h1 := h.below hB2)
  | (refine ld_mc rfl rfl rfl r1 ?_)
  | (go_at_call 236; refine (l7Alu_16 rfl h1 n).mono ?_; rintro e w2 ⟨rfl, hb2⟩; have hB3 := hB2.trans (hb2.mono hB2.size); have z2 := z1.below hb2; have r2 := r1.below hb2)
  | (refine st_mc rfl rfl rfl rfl r2 (one_own h.hx) (one_own h.hy) ?_; intro w3 r3 o3 s3; have z3 := z2.onto o3 (by omega); have hB4 := below_onto hB3 o3 (by omega))
  | (refine ld_mc rfl rfl rfl r3 ?_)
  | (refine st_mc rfl rfl rfl rfl z3 (one_own h.hx) (one_own h.hy) ?_; intro w6 r6 o6 s6))
 refine ret_mc2 rfl rfl r6 rfl rfl ?_
 have hB6 := below_onto hB4 o6 (by omega)
 exact ⟨rfl, (h.below hB6).as rfl rfl, .of hB6⟩
set_option maxRecDepth 100000 in
set_option maxHeartbeats 1000000 in
theorem l7Do_17 (hv : v = m.val x y) (h : Ow base w x y m) (hok : m.ok = true) (n : Int) (hn : bok n = true) :
  Calls Tryz.prog 175 #[v, .int .i64 17, .int .i64 n] w fun e w' => Did base w w' e x y (m.does n 17) := by
 go_enter Tryz.func175, Tryz.ntmps175
 go_wp2_with (first
  | (refine box_m rfl rfl hv ?_; intro w0 r0 hB0)
  | (refine al_mc rfl rfl ?_; intro w1 z1 hB1; have r1 := r0.below hB1; have hB2 := hB0.trans (hB1.mono hB0.size); have l0 := r0.lt; have lz := z1.lt; have h1 := h.below hB2)
  | (refine ld_mc rfl rfl rfl r1 ?_)
  | (go_at_call 237; refine (l7CountB_17 rfl h1).mono ?_; rintro e w2 ⟨rfl, hb2⟩; have hB3 := hB2.trans (hb2.mono hB2.size); have z2 := z1.below hb2; have r2 := r1.below hb2)
  | (refine st_mc rfl rfl rfl rfl r2 (one_own h.hx) (one_own h.hy) ?_; intro w3 r3 o3 s3; have z3 := z2.onto o3 (by omega); have hB4 := below_onto hB3 o3 (by omega))
  | (refine ld_mc rfl rfl rfl r3 ?_)
  | (refine st_mc rfl rfl rfl rfl z3 (one_own h.hx) (one_own h.hy) ?_; intro w6 r6 o6 s6))
 refine ret_mc2 rfl rfl r6 rfl rfl ?_
 have hB6 := below_onto hB4 o6 (by omega)
 exact ⟨rfl, (h.below hB6).as rfl rfl, .of hB6⟩
set_option maxRecDepth 100000 in
set_option maxHeartbeats 1000000 in
theorem l7Do_18 (hv : v = m.val x y) (h : Ow base w x y m) (hok : m.ok = true) (n : Int) (hn : bok n = true) :
  Calls Tryz.prog 175 #[v, .int .i64 18, .int .i64 n] w fun e w' => Did base w w' e x y (m.does n 18) := by
 go_enter Tryz.func175, Tryz.ntmps175
 go_wp2_with (first
  | (refine box_m rfl rfl hv ?_; intro w0 r0 hB0)
  | (refine al_mc rfl rfl ?_; intro w1 z1 hB1; have r1 := r0.below hB1; have hB2 := hB0.trans (hB1.mono hB0.size); have l0 := r0.lt; have lz := z1.lt; have h1 := h.below hB2)
  | (refine ld_mc rfl rfl rfl r1 ?_)
  | (go_at_call 237; refine (l7CountB_18 rfl h1).mono ?_; rintro e w2 ⟨rfl, hb2⟩; have hB3 := hB2.trans (hb2.mono hB2.size); have z2 := z1.below hb2; have r2 := r1.below hb2)
  | (refine st_mc rfl rfl rfl rfl r2 (one_own h.hx) (one_own h.hy) ?_; intro w3 r3 o3 s3; have z3 := z2.onto o3 (by omega); have hB4 := below_onto hB3 o3 (by omega))
  | (refine ld_mc rfl rfl rfl r3 ?_)
  | (refine st_mc rfl rfl rfl rfl z3 (one_own h.hx) (one_own h.hy) ?_; intro w6 r6 o6 s6))
 refine ret_mc2 rfl rfl r6 rfl rfl ?_
 have hB6 := below_onto hB4 o6 (by omega)
 exact ⟨rfl, (h.below hB6).as rfl rfl, .of hB6⟩
set_option maxRecDepth 100000 in
set_option maxHeartbeats 1000000 in
theorem l7Do_19 (hv : v = m.val x y) (h : Ow base w x y m) (hok : m.ok = true) (n : Int) (hn : bok n = true) :
  Calls Tryz.prog 175 #[v, .int .i64 19, .int .i64 n] w fun e w' => Did base w w' e x y (m.does n 19) := by
 obtain ⟨g, hg, hgl⟩ := ram_block h.hy hok
 go_enter Tryz.func175, Tryz.ntmps175
 go_wp2_with (first
  | (refine box_m rfl rfl hv ?_; intro w0 r0 hB0)
  | (refine al_mc rfl rfl ?_; intro w1 z1 hB1; have r1 := r0.below hB1; have hB2 := hB0.trans (hB1.mono hB0.size); have l0 := r0.lt; have lz := z1.lt; have h1 := h.below hB2)
  | (refine ld_mc rfl rfl rfl r1 ?_)
  | (go_at_call 238; refine (l7Jump_19 rfl h1 hok _).mono ?_; rintro e w3 ⟨rfl, h3, hb3⟩; have z3 := hb3.row hg z1 (by omega))
  | (refine st_mc rfl rfl rfl rfl z3 (one_own h.hx) (one_own h.hy) ?_; intro w6 r6 o6 s6))
 refine ret_mc2 rfl rfl r6 rfl rfl ?_
 exact ⟨rfl, h3.at o6 (fun e => by have := (h.hx.lt _ e).2; omega) (fun e => by have := (h.hy.lt _ e).2; omega), ((But.of hB2).trans hb3).new o6 (by omega)⟩
set_option maxRecDepth 100000 in
set_option maxHeartbeats 1000000 in
theorem l7Do_20_t (hv : v = m.val x y) (h : Ow base w x y m) (hok : m.ok = true) (n : Int) (hn : bok n = true) (hc : m.z = true) :
  Calls Tryz.prog 175 #[v, .int .i64 20, .int .i64 n] w fun e w' => Did base w w' e x y (m.does n 20) := by
 obtain ⟨g, hg, hgl⟩ := ram_block h.hy hok
 have HC : Hid (m.z = true) := hc
 clear hc
 go_enter Tryz.func175, Tryz.ntmps175
 go_wp2_with (first
  | (refine box_m rfl rfl hv ?_; intro w0 r0 hB0)
  | (refine al_mc rfl rfl ?_; intro w1 z1 hB1; have r1 := r0.below hB1; have hB2 := hB0.trans (hB1.mono hB0.size); have l0 := r0.lt; have lz := z1.lt; have h1 := h.below hB2)
  | (refine ld_mc rfl rfl rfl r1 ?_)
  | (go_at_call 238; refine (l7Jump_20_t rfl h1 hok _ HC.out).mono ?_; rintro e w3 ⟨rfl, h3, hb3⟩; have z3 := hb3.row hg z1 (by omega))
  | (refine st_mc rfl rfl rfl rfl z3 (one_own h.hx) (one_own h.hy) ?_; intro w6 r6 o6 s6))
 refine ret_mc2 rfl rfl r6 rfl rfl ?_
 exact ⟨rfl, h3.at o6 (fun e => by have := (h.hx.lt _ e).2; omega) (fun e => by have := (h.hy.lt _ e).2; omega), ((But.of hB2).trans hb3).new o6 (by omega)⟩
set_option maxRecDepth 100000 in
set_option maxHeartbeats 1000000 in
theorem l7Do_20_f (hv : v = m.val x y) (h : Ow base w x y m) (hok : m.ok = true) (n : Int) (hn : bok n = true) (hc : m.z = false) :
  Calls Tryz.prog 175 #[v, .int .i64 20, .int .i64 n] w fun e w' => Did base w w' e x y (m.does n 20) := by
 obtain ⟨g, hg, hgl⟩ := ram_block h.hy hok
 have HC : Hid (m.z = false) := hc
 clear hc
 go_enter Tryz.func175, Tryz.ntmps175
 go_wp2_with (first
  | (refine box_m rfl rfl hv ?_; intro w0 r0 hB0)
  | (refine al_mc rfl rfl ?_; intro w1 z1 hB1; have r1 := r0.below hB1; have hB2 := hB0.trans (hB1.mono hB0.size); have l0 := r0.lt; have lz := z1.lt; have h1 := h.below hB2)
  | (refine ld_mc rfl rfl rfl r1 ?_)
  | (go_at_call 238; refine (l7Jump_20_f rfl h1 hok _ HC.out).mono ?_; rintro e w3 ⟨rfl, h3, hb3⟩; have z3 := hb3.row hg z1 (by omega))
  | (refine st_mc rfl rfl rfl rfl z3 (one_own h.hx) (one_own h.hy) ?_; intro w6 r6 o6 s6))
 refine ret_mc2 rfl rfl r6 rfl rfl ?_
 exact ⟨rfl, h3.at o6 (fun e => by have := (h.hx.lt _ e).2; omega) (fun e => by have := (h.hy.lt _ e).2; omega), ((But.of hB2).trans hb3).new o6 (by omega)⟩
set_option maxRecDepth 100000 in
set_option maxHeartbeats 1000000 in
theorem l7Do_21_t (hv : v = m.val x y) (h : Ow base w x y m) (hok : m.ok = true) (n : Int) (hn : bok n = true) (hc : m.z = true) :
  Calls Tryz.prog 175 #[v, .int .i64 21, .int .i64 n] w fun e w' => Did base w w' e x y (m.does n 21) := by
 obtain ⟨g, hg, hgl⟩ := ram_block h.hy hok
 have HC : Hid (m.z = true) := hc
 clear hc
 go_enter Tryz.func175, Tryz.ntmps175
 go_wp2_with (first
  | (refine box_m rfl rfl hv ?_; intro w0 r0 hB0)
  | (refine al_mc rfl rfl ?_; intro w1 z1 hB1; have r1 := r0.below hB1; have hB2 := hB0.trans (hB1.mono hB0.size); have l0 := r0.lt; have lz := z1.lt; have h1 := h.below hB2)
  | (refine ld_mc rfl rfl rfl r1 ?_)
  | (go_at_call 238; refine (l7Jump_21_t rfl h1 hok _ HC.out).mono ?_; rintro e w3 ⟨rfl, h3, hb3⟩; have z3 := hb3.row hg z1 (by omega))
  | (refine st_mc rfl rfl rfl rfl z3 (one_own h.hx) (one_own h.hy) ?_; intro w6 r6 o6 s6))
 refine ret_mc2 rfl rfl r6 rfl rfl ?_
 exact ⟨rfl, h3.at o6 (fun e => by have := (h.hx.lt _ e).2; omega) (fun e => by have := (h.hy.lt _ e).2; omega), ((But.of hB2).trans hb3).new o6 (by omega)⟩
set_option maxRecDepth 100000 in
set_option maxHeartbeats 1000000 in
theorem l7Do_21_f (hv : v = m.val x y) (h : Ow base w x y m) (hok : m.ok = true) (n : Int) (hn : bok n = true) (hc : m.z = false) :
  Calls Tryz.prog 175 #[v, .int .i64 21, .int .i64 n] w fun e w' => Did base w w' e x y (m.does n 21) := by
 obtain ⟨g, hg, hgl⟩ := ram_block h.hy hok
 have HC : Hid (m.z = false) := hc
 clear hc
 go_enter Tryz.func175, Tryz.ntmps175
 go_wp2_with (first
  | (refine box_m rfl rfl hv ?_; intro w0 r0 hB0)
  | (refine al_mc rfl rfl ?_; intro w1 z1 hB1; have r1 := r0.below hB1; have hB2 := hB0.trans (hB1.mono hB0.size); have l0 := r0.lt; have lz := z1.lt; have h1 := h.below hB2)
  | (refine ld_mc rfl rfl rfl r1 ?_)
  | (go_at_call 238; refine (l7Jump_21_f rfl h1 hok _ HC.out).mono ?_; rintro e w3 ⟨rfl, h3, hb3⟩; have z3 := hb3.row hg z1 (by omega))
  | (refine st_mc rfl rfl rfl rfl z3 (one_own h.hx) (one_own h.hy) ?_; intro w6 r6 o6 s6))
 refine ret_mc2 rfl rfl r6 rfl rfl ?_
 exact ⟨rfl, h3.at o6 (fun e => by have := (h.hx.lt _ e).2; omega) (fun e => by have := (h.hy.lt _ e).2; omega), ((But.of hB2).trans hb3).new o6 (by omega)⟩
set_option maxRecDepth 100000 in
set_option maxHeartbeats 1000000 in
theorem l7Do_22_t (hv : v = m.val x y) (h : Ow base w x y m) (hok : m.ok = true) (n : Int) (hn : bok n = true) (hc : m.c = true) :
  Calls Tryz.prog 175 #[v, .int .i64 22, .int .i64 n] w fun e w' => Did base w w' e x y (m.does n 22) := by
 obtain ⟨g, hg, hgl⟩ := ram_block h.hy hok
 have HC : Hid (m.c = true) := hc
 clear hc
 go_enter Tryz.func175, Tryz.ntmps175
 go_wp2_with (first
  | (refine box_m rfl rfl hv ?_; intro w0 r0 hB0)
  | (refine al_mc rfl rfl ?_; intro w1 z1 hB1; have r1 := r0.below hB1; have hB2 := hB0.trans (hB1.mono hB0.size); have l0 := r0.lt; have lz := z1.lt; have h1 := h.below hB2)
  | (refine ld_mc rfl rfl rfl r1 ?_)
  | (go_at_call 238; refine (l7Jump_22_t rfl h1 hok _ HC.out).mono ?_; rintro e w3 ⟨rfl, h3, hb3⟩; have z3 := hb3.row hg z1 (by omega))
  | (refine st_mc rfl rfl rfl rfl z3 (one_own h.hx) (one_own h.hy) ?_; intro w6 r6 o6 s6))
 refine ret_mc2 rfl rfl r6 rfl rfl ?_
 exact ⟨rfl, h3.at o6 (fun e => by have := (h.hx.lt _ e).2; omega) (fun e => by have := (h.hy.lt _ e).2; omega), ((But.of hB2).trans hb3).new o6 (by omega)⟩
set_option maxRecDepth 100000 in
set_option maxHeartbeats 1000000 in
theorem l7Do_22_f (hv : v = m.val x y) (h : Ow base w x y m) (hok : m.ok = true) (n : Int) (hn : bok n = true) (hc : m.c = false) :
  Calls Tryz.prog 175 #[v, .int .i64 22, .int .i64 n] w fun e w' => Did base w w' e x y (m.does n 22) := by
 obtain ⟨g, hg, hgl⟩ := ram_block h.hy hok
 have HC : Hid (m.c = false) := hc
 clear hc
 go_enter Tryz.func175, Tryz.ntmps175
 go_wp2_with (first
  | (refine box_m rfl rfl hv ?_; intro w0 r0 hB0)
  | (refine al_mc rfl rfl ?_; intro w1 z1 hB1; have r1 := r0.below hB1; have hB2 := hB0.trans (hB1.mono hB0.size); have l0 := r0.lt; have lz := z1.lt; have h1 := h.below hB2)
  | (refine ld_mc rfl rfl rfl r1 ?_)
  | (go_at_call 238; refine (l7Jump_22_f rfl h1 hok _ HC.out).mono ?_; rintro e w3 ⟨rfl, h3, hb3⟩; have z3 := hb3.row hg z1 (by omega))
  | (refine st_mc rfl rfl rfl rfl z3 (one_own h.hx) (one_own h.hy) ?_; intro w6 r6 o6 s6))
 refine ret_mc2 rfl rfl r6 rfl rfl ?_
 exact ⟨rfl, h3.at o6 (fun e => by have := (h.hx.lt _ e).2; omega) (fun e => by have := (h.hy.lt _ e).2; omega), ((But.of hB2).trans hb3).new o6 (by omega)⟩
set_option maxRecDepth 100000 in
set_option maxHeartbeats 1000000 in
theorem l7Do_23 (hv : v = m.val x y) (h : Ow base w x y m) (hok : m.ok = true) (n : Int) (hn : bok n = true) :
  Calls Tryz.prog 175 #[v, .int .i64 23, .int .i64 n] w fun e w' => Did base w w' e x y (m.does n 23) := by
 obtain ⟨g, hg, hgl⟩ := ram_block h.hy hok
 go_enter Tryz.func175, Tryz.ntmps175
 go_wp2_with (first
  | (refine box_m rfl rfl hv ?_; intro w0 r0 hB0)
  | (refine al_mc rfl rfl ?_; intro w1 z1 hB1; have r1 := r0.below hB1; have hB2 := hB0.trans (hB1.mono hB0.size); have l0 := r0.lt; have lz := z1.lt; have h1 := h.below hB2)
  | (refine ld_mc rfl rfl rfl r1 ?_)
  | (go_at_call 238; refine (l7Jump_23 rfl h1 hok _).mono ?_; rintro e w3 ⟨rfl, h3, hb3⟩; have z3 := hb3.row hg z1 (by omega))
  | (refine st_mc rfl rfl rfl rfl z3 (one_own h.hx) (one_own h.hy) ?_; intro w6 r6 o6 s6))
 refine ret_mc2 rfl rfl r6 rfl rfl ?_
 exact ⟨rfl, h3.at o6 (fun e => by have := (h.hx.lt _ e).2; omega) (fun e => by have := (h.hy.lt _ e).2; omega), ((But.of hB2).trans hb3).new o6 (by omega)⟩
set_option maxRecDepth 100000 in
set_option maxHeartbeats 1000000 in
theorem l7Do_24_t (hv : v = m.val x y) (h : Ow base w x y m) (hok : m.ok = true) (n : Int) (hn : bok n = true) (hc : m.e = true) :
  Calls Tryz.prog 175 #[v, .int .i64 24, .int .i64 n] w fun e w' => Did base w w' e x y (m.does n 24) := by
 obtain ⟨g, hg, hgl⟩ := ram_block h.hy hok
 have HC : Hid (m.e = true) := hc
 clear hc
 go_enter Tryz.func175, Tryz.ntmps175
 go_wp2_with (first
  | (refine box_m rfl rfl hv ?_; intro w0 r0 hB0)
  | (refine al_mc rfl rfl ?_; intro w1 z1 hB1; have r1 := r0.below hB1; have hB2 := hB0.trans (hB1.mono hB0.size); have l0 := r0.lt; have lz := z1.lt; have h1 := h.below hB2)
  | (refine ld_mc rfl rfl rfl r1 ?_)
  | (go_at_call 238; refine (l7Jump_24_t rfl h1 hok _ HC.out).mono ?_; rintro e w3 ⟨rfl, h3, hb3⟩; have z3 := hb3.row hg z1 (by omega))
  | (refine st_mc rfl rfl rfl rfl z3 (one_own h.hx) (one_own h.hy) ?_; intro w6 r6 o6 s6))
 refine ret_mc2 rfl rfl r6 rfl rfl ?_
 exact ⟨rfl, h3.at o6 (fun e => by have := (h.hx.lt _ e).2; omega) (fun e => by have := (h.hy.lt _ e).2; omega), ((But.of hB2).trans hb3).new o6 (by omega)⟩
set_option maxRecDepth 100000 in
set_option maxHeartbeats 1000000 in
theorem l7Do_24_f (hv : v = m.val x y) (h : Ow base w x y m) (hok : m.ok = true) (n : Int) (hn : bok n = true) (hc : m.e = false) :
  Calls Tryz.prog 175 #[v, .int .i64 24, .int .i64 n] w fun e w' => Did base w w' e x y (m.does n 24) := by
 obtain ⟨g, hg, hgl⟩ := ram_block h.hy hok
 have HC : Hid (m.e = false) := hc
 clear hc
 go_enter Tryz.func175, Tryz.ntmps175
 go_wp2_with (first
  | (refine box_m rfl rfl hv ?_; intro w0 r0 hB0)
  | (refine al_mc rfl rfl ?_; intro w1 z1 hB1; have r1 := r0.below hB1; have hB2 := hB0.trans (hB1.mono hB0.size); have l0 := r0.lt; have lz := z1.lt; have h1 := h.below hB2)
  | (refine ld_mc rfl rfl rfl r1 ?_)
  | (go_at_call 238; refine (l7Jump_24_f rfl h1 hok _ HC.out).mono ?_; rintro e w3 ⟨rfl, h3, hb3⟩; have z3 := hb3.row hg z1 (by omega))
  | (refine st_mc rfl rfl rfl rfl z3 (one_own h.hx) (one_own h.hy) ?_; intro w6 r6 o6 s6))
 refine ret_mc2 rfl rfl r6 rfl rfl ?_
 exact ⟨rfl, h3.at o6 (fun e => by have := (h.hx.lt _ e).2; omega) (fun e => by have := (h.hy.lt _ e).2; omega), ((But.of hB2).trans hb3).new o6 (by omega)⟩
set_option maxRecDepth 100000 in
set_option maxHeartbeats 1000000 in
theorem l7Do_29_t (hv : v = m.val x y) (h : Ow base w x y m) (hok : m.ok = true) (n : Int) (hn : bok n = true) (hc : m.e = true) :
  Calls Tryz.prog 175 #[v, .int .i64 29, .int .i64 n] w fun e w' => Did base w w' e x y (m.does n 29) := by
 obtain ⟨g, hg, hgl⟩ := ram_block h.hy hok
 have HC : Hid (m.e = true) := hc
 clear hc
 go_enter Tryz.func175, Tryz.ntmps175
 go_wp2_with (first
  | (refine box_m rfl rfl hv ?_; intro w0 r0 hB0)
  | (refine al_mc rfl rfl ?_; intro w1 z1 hB1; have r1 := r0.below hB1; have hB2 := hB0.trans (hB1.mono hB0.size); have l0 := r0.lt; have lz := z1.lt; have h1 := h.below hB2)
  | (refine ld_mc rfl rfl rfl r1 ?_)
  | (go_at_call 238; refine (l7Jump_29_t rfl h1 hok _ HC.out).mono ?_; rintro e w3 ⟨rfl, h3, hb3⟩; have z3 := hb3.row hg z1 (by omega))
  | (refine st_mc rfl rfl rfl rfl z3 (one_own h.hx) (one_own h.hy) ?_; intro w6 r6 o6 s6))
 refine ret_mc2 rfl rfl r6 rfl rfl ?_
 exact ⟨rfl, h3.at o6 (fun e => by have := (h.hx.lt _ e).2; omega) (fun e => by have := (h.hy.lt _ e).2; omega), ((But.of hB2).trans hb3).new o6 (by omega)⟩
set_option maxRecDepth 100000 in
set_option maxHeartbeats 1000000 in
theorem l7Do_29_f (hv : v = m.val x y) (h : Ow base w x y m) (hok : m.ok = true) (n : Int) (hn : bok n = true) (hc : m.e = false) :
  Calls Tryz.prog 175 #[v, .int .i64 29, .int .i64 n] w fun e w' => Did base w w' e x y (m.does n 29) := by
 obtain ⟨g, hg, hgl⟩ := ram_block h.hy hok
 have HC : Hid (m.e = false) := hc
 clear hc
 go_enter Tryz.func175, Tryz.ntmps175
 go_wp2_with (first
  | (refine box_m rfl rfl hv ?_; intro w0 r0 hB0)
  | (refine al_mc rfl rfl ?_; intro w1 z1 hB1; have r1 := r0.below hB1; have hB2 := hB0.trans (hB1.mono hB0.size); have l0 := r0.lt; have lz := z1.lt; have h1 := h.below hB2)
  | (refine ld_mc rfl rfl rfl r1 ?_)
  | (go_at_call 238; refine (l7Jump_29_f rfl h1 hok _ HC.out).mono ?_; rintro e w3 ⟨rfl, h3, hb3⟩; have z3 := hb3.row hg z1 (by omega))
  | (refine st_mc rfl rfl rfl rfl z3 (one_own h.hx) (one_own h.hy) ?_; intro w6 r6 o6 s6))
 refine ret_mc2 rfl rfl r6 rfl rfl ?_
 exact ⟨rfl, h3.at o6 (fun e => by have := (h.hx.lt _ e).2; omega) (fun e => by have := (h.hy.lt _ e).2; omega), ((But.of hB2).trans hb3).new o6 (by omega)⟩
set_option maxRecDepth 100000 in
set_option maxHeartbeats 1000000 in
theorem l7Do_26 (hv : v = m.val x y) (h : Ow base w x y m) (hok : m.ok = true) (n : Int) (hn : bok n = true) :
  Calls Tryz.prog 175 #[v, .int .i64 26, .int .i64 n] w fun e w' => Did base w w' e x y (m.does n 26) := by
 go_enter Tryz.func175, Tryz.ntmps175
 go_wp2_with (first
  | (refine box_m rfl rfl hv ?_; intro w0 r0 hB0)
  | (refine al_mc rfl rfl ?_; intro w1 z1 hB1; have r1 := r0.below hB1; have hB2 := hB0.trans (hB1.mono hB0.size); have l0 := r0.lt; have lz := z1.lt; have h1 := h.below hB2)
  | (refine ld_mc rfl rfl rfl r1 ?_)
  | (go_at_call 239; refine (l7Pop_spec rfl h1 hok).mono ?_; rintro e w2 ⟨rfl, h2, hb2⟩; have hB3 := hB2.trans (hb2.mono hB2.size); have z2 := z1.below hb2; have r2 := r1.below hb2)
  | (refine st_mc rfl rfl rfl rfl r2 (one_own h.hx) (one_own h.hy) ?_; intro w3 r3 o3 s3; have z3 := z2.onto o3 (by omega); have hB4 := below_onto hB3 o3 (by omega))
  | (refine st_num (m' := (m.does n 26).1) rfl rfl rfl rfl r3 rfl rfl ?_; intro w4 r4 o4 s4; have z4 := z3.onto o4 (by omega); have hB5 := below_onto hB4 o4 (by omega))
  | (refine ld_mc rfl rfl rfl r4 ?_)
  | (refine st_mc rfl rfl rfl rfl z4 (one_own h.hx) (one_own h.hy) ?_; intro w6 r6 o6 s6))
 refine ret_mc2 rfl rfl r6 rfl rfl ?_
 have hB6 := below_onto hB5 o6 (by omega)
 exact ⟨rfl, (h.below hB6).as rfl rfl, .of hB6⟩
theorem l7Do_spec (hv : v = m.val x y) (h : Ow base w x y m) (hok : m.ok = true) (n : Int) (hn : bok n = true) (k : Nat) (hk : k < 31) :
  Calls Tryz.prog 175 #[v, .int .i64 (k : Int), .int .i64 n] w fun e w' => Did base w w' e x y (m.does n k) := by
 match k with
 | 0 => exact l7Do_0 hv h hok n hn
 | 1 => exact l7Do_1 hv h hok n hn
 | 2 => exact l7Do_2 hv h hok n hn
 | 3 => exact l7Do_3 hv h hok n hn
 | 4 => exact l7Do_4 hv h hok n hn
 | 5 => exact l7Do_5 hv h hok n hn
 | 6 => exact l7Do_6 hv h hok n hn
 | 7 => exact l7Do_7 hv h hok n hn
 | 8 => exact l7Do_8 hv h hok n hn
 | 9 => exact l7Do_9 hv h hok n hn
 | 10 => exact l7Do_10 hv h hok n hn
 | 11 => exact l7Do_11 hv h hok n hn
 | 12 => exact l7Do_12 hv h hok n hn
 | 13 => exact l7Do_13 hv h hok n hn
 | 14 => exact l7Do_14 hv h hok n hn
 | 15 => exact l7Do_15 hv h hok n hn
 | 16 => exact l7Do_16 hv h hok n hn
 | 17 => exact l7Do_17 hv h hok n hn
 | 18 => exact l7Do_18 hv h hok n hn
 | 19 => exact l7Do_19 hv h hok n hn
 | 20 =>
  cases hc : m.z
  ·exact l7Do_20_f hv h hok n hn hc
  ·exact l7Do_20_t hv h hok n hn hc
 | 21 =>
  cases hc : m.z
  ·exact l7Do_21_f hv h hok n hn hc
  ·exact l7Do_21_t hv h hok n hn hc
 | 22 =>
  cases hc : m.c
  ·exact l7Do_22_f hv h hok n hn hc
  ·exact l7Do_22_t hv h hok n hn hc
 | 23 => exact l7Do_23 hv h hok n hn
 | 24 =>
  cases hc : m.e
  ·exact l7Do_24_f hv h hok n hn hc
  ·exact l7Do_24_t hv h hok n hn hc
 | 25 => exact l7Do_25 hv h hok n hn
 | 26 => exact l7Do_26 hv h hok n hn
 | 27 => exact l7Do_27 hv h hok n hn
 | 28 => exact l7Do_28 hv h hok n hn
 | 29 =>
  cases hc : m.e
  ·exact l7Do_29_f hv h hok n hn hc
  ·exact l7Do_29_t hv h hok n hn hc
 | 30 => exact l7Do_30 hv h hok n hn
 | k + 31 => omega
end
end Go.Proofs.YtghmkacamabndaaGreatDoor.Mem
namespace Go.Proofs.YtghmkacamabndaaGreatDoor.Mem
open Go.ChangeShapes Go.WideShapes Go.RowKit Base Num Slc Rw Tmr Srl Rom RomOf Opl Reg
section
variable {ops : Array Oper} {rest : List Oper} {o : Oper} {a : Act} {w : World} {Q : Exit → Act → World → Prop} {g : Nat} {x y : Value} {m : Mc}
theorem ret_mc3' {fn : Func} {R : Ending → World → Prop} {q u u2 : Tmp} {v v2 : Value} (h : fn.results = #[.cell q 30, .tmp u, .tmp u2]) (hp : a.tmps.getD q undef = .pointer (some ⟨g, 0, none⟩)) (hr : MRow w g x y m) (hde : a.defers = []) (hv : a.tmps.getD u undef = v) (hv2 : a.tmps.getD u2 undef = v2)
  (hR : R (.returned (.tuple #[m.val x y, v, v2])) w) : bodyPost Tryz.prog fn R .ret a w := ret_row_tmp2 h hp hr Tryz.underlying30 rfl info_mc hde hv hv2 hR
variable {op : Oper} {K : Act → World → Prop} {p q : Operand} {x0 y0 : Value} {m0 : Mc}
theorem sm_op' (ho : op.op = .store 30 p q) (hx : a.eval p = .pointer (some ⟨g, 0, none⟩)) (hy : a.eval q = m.val x y) (hr : MRow w g x0 y0 m0) (h1 : x.oneCell' = true) (h2 : y.oneCell' = true)
  (h : ∀ w', MRow w' g x y m → Onto g w w' → K (a.put op.dst undef) w') : op.wp Tryz.prog a w K Q :=
 wp_store_row _ p q ho g _ hx hy _ _ hr.row info_mc rfl (all_one h1 h2 m)
  (h _ (Row.of (setRow_heap w g _ _ _ _ hr.row)) ⟨rfl, rfl, rfl, by simp, fun k hk _ => setRow_other w g k _ hk⟩)
end
section
variable {base : Nat} {w : World} {x y v : Value} {m : Mc}
def Ran (base : Nat) (w w' : World) (e : Ending) (x y : Value) (r : Mc × Int × Int) : Prop := e = .returned (.tuple #[r.1.val x y, .int .i64 r.2.1, .int .i64 r.2.2]) ∧ Ow base w' x y r.1 ∧ But y w w'
theorem l7Run_idle (hv : v = m.val x y) (h : Ow base w x y m) (hi : (m.h || m.s) = true) : Calls Tryz.prog 127 #[v] w fun e w' => Ran base w w' e x y (m, 1, -1) := by
 cases hh : m.h
 ·have hs : m.s = true := by simpa [hh] using hi
  go_enter Tryz.func127, Tryz.ntmps127
  go_wp2_with (first
   | (refine box_m rfl rfl hv ?_; intro w0 r0 hB0)
   | (refine al_mc rfl rfl ?_; intro w1 z1 hB1; have r1 := r0.below hB1; have hB2 := hB0.trans (hB1.mono hB0.size); have l0 := r0.lt; have lz := z1.lt; have kh := (cw r1).h; have ks := (cw r1).s; rw [hh] at kh; rw [hs] at ks)
   | (refine ld_mc rfl rfl rfl r1 ?_)
   | (refine st_mc rfl rfl rfl rfl z1 (one_own h.hx) (one_own h.hy) ?_; intro w6 r6 o6 s6))
  refine ret_mc3' rfl rfl r6 rfl rfl rfl ?_
  have hB6 := below_onto hB2 o6 (by omega)
  exact ⟨rfl, h.below hB6, .of hB6⟩
 ·go_enter Tryz.func127, Tryz.ntmps127
  go_wp2_with (first
   | (refine box_m rfl rfl hv ?_; intro w0 r0 hB0)
   | (refine al_mc rfl rfl ?_; intro w1 z1 hB1; have r1 := r0.below hB1; have hB2 := hB0.trans (hB1.mono hB0.size); have l0 := r0.lt; have lz := z1.lt; have kh := (cw r1).h; rw [hh] at kh)
   | (refine ld_mc rfl rfl rfl r1 ?_)
   | (refine st_mc rfl rfl rfl rfl z1 (one_own h.hx) (one_own h.hy) ?_; intro w6 r6 o6 s6))
  refine ret_mc3' rfl rfl r6 rfl rfl rfl ?_
  have hB6 := below_onto hB2 o6 (by omega)
  exact ⟨rfl, h.below hB6, .of hB6⟩
theorem l7Run_stuck (hv : v = m.val x y) (h : Ow base w x y m) (hok : m.ok = true) (hi : (m.h || m.s) = false) (hz : m.size' = 0) : Calls Tryz.prog 127 #[v] w fun e w' => Ran base w w' e x y ({ m with s := true }, 1, -1) := by
 have hh : m.h = false := by simp at hi; exact hi.1
 have hs : m.s = false := by simp at hi; exact hi.2
 have hpc := bok_iff.1 (okm.1 hok).pc
 have HC : Hid ((line (m.read m.pc)).2.1 = 0) := hz
 clear hz
 go_enter Tryz.func127, Tryz.ntmps127
 go_wp2_with (first
  | (refine box_m rfl rfl hv ?_; intro w0 r0 hB0)
  | (refine al_mc rfl rfl ?_; intro w1 z1 hB1; have r1 := r0.below hB1; have hB2 := hB0.trans (hB1.mono hB0.size); have l0 := r0.lt; have lz := z1.lt; have h1 := h.below hB2; have kh := (cw r1).h; have ks := (cw r1).s; have kp := (cw r1).pc; rw [hh] at kh; rw [hs] at ks)
  | (refine ld_mc rfl rfl rfl r1 ?_)
  | (go_at_call 173; refine (l6Read_spec _ m _ _ h1.sl (Mc.right hok) hpc).mono ?_; rintro e w2 ⟨rfl, hb2⟩; have hB3 := hB2.trans (hb2.mono hB2.size); have z2 := z1.below hb2; have r2 := r1.below hb2; clear kh ks kp)
  | (go_at_call 174; refine (sizeOf_spec _ _).mono ?_; rintro e w3 ⟨rfl, hb3⟩; rw [HC.out]; have hB4 := hB3.trans (hb3.mono hB3.size); have z3 := z2.below hb3; have r3 := r2.below hb3)
  | (refine st_yes (m' := { m with s := true }) rfl rfl rfl rfl r3 rfl rfl ?_; intro w4 r4 o4 s4; have z4 := z3.onto o4 (by omega); have hB5 := below_onto hB4 o4 (by omega))
  | (refine ld_mc rfl rfl rfl r4 ?_)
  | (refine st_mc rfl rfl rfl rfl z4 (one_own h.hx) (one_own h.hy) ?_; intro w6 r6 o6 s6))
 refine ret_mc3' rfl rfl r6 rfl rfl rfl ?_
 have hB6 := below_onto hB5 o6 (by omega)
 exact ⟨rfl, (h.below hB6).as rfl rfl, .of hB6⟩
structure Gy (w : World) (base g g2 : Nat) (x y : Value) (m : Mc) (b : Bool) (W : World) : Prop where
 row : MRow W g x y m
 ow : Ow base W x y m
 but : But y w W
 res : if b = true then MRow W g2 x y m else MRow W g2 nil64 nil64 Mc.nul
theorem Gy.below {w W W' : World} {base g g2 : Nat} {x y : Value} {m : Mc} {b : Bool} (h : Gy w base g g2 x y m b W) (hb : Below W.heap.size W W') : Gy w base g g2 x y m b W' :=
 ⟨h.row.below hb, h.ow.below hb, h.but.trans (.of hb), by have := h.res; cases b <;> exact Row.below this hb⟩
theorem Gy.lay {w W W' : World} {base g g2 : Nat} {x y : Value} {m : Mc} {b : Bool} (h : Gy w base g g2 x y m b W) (hr : MRow W' g2 x y m) (ho : Onto g2 W W') (h1 : g ≠ g2) (h2 : w.heap.size ≤ g2) (n1 : x.ownBlock ≠ some g2) (n2 : y.ownBlock ≠ some g2) : Gy w base g g2 x y m true W' :=
 ⟨h.row.onto ho h1, h.ow.at ho n1 n2, h.but.new ho h2, by simpa using hr⟩
set_option maxRecDepth 100000 in
set_option maxHeartbeats 2000000 in
theorem l7Run_does (hv : v = m.val x y) (h : Ow base w x y m) (hok : m.ok = true) (hi : (m.h || m.s) = false) (k : Nat) (hk : k < 31) (hcode : m.code = (k : Int)) :
  Calls Tryz.prog 127 #[v] w fun e w' => Ran base w w' e x y ((m.onw.does m.opnd k).1, (line (k : Int)).2.2, (m.onw.does m.opnd k).2) := by
 have hh : m.h = false := by simp at hi; exact hi.1
 have hs : m.s = false := by simp at hi; exact hi.2
 have hpc := bok_iff.1 (okm.1 hok).pc
 obtain ⟨g, hg, hgl⟩ := ram_block h.hy hok
 have HC : Hid (m.read m.pc = (k : Int)) := hcode
 obtain ⟨sz, HS⟩ : ∃ sz, Hid (sz = (line (k : Int)).2.1) := ⟨_, show _ = _ from rfl⟩
 have hsz : 1 ≤ sz ∧ sz ≤ 2 := by have := size_in k hk; have := HS.out; omega
 have hz0 : (sz == 0) = false := by simp; omega
 have HO : Hid (m.onw = { m with pc := (m.pc + sz) % 256 }) := show _ = _ by unfold Mc.onw Mc.size'; rw [hcode, ← HS.out]
 have hrem1 := rem_pos' (a := m.pc + 1) (r := 256) (by omega)
 have hrem2 := rem_pos' (a := m.pc + sz) (r := 256) (by omega)
 have hq : 0 ≤ (m.pc + 1) % 256 ∧ (m.pc + 1) % 256 ≤ 255 := by omega
 have HP : Hid (m.read ((m.pc + 1) % 256) = m.opnd) := show _ = _ from rfl
 clear hcode
 go_enter Tryz.func127, Tryz.ntmps127
 go_wp2_with (first
  | (refine box_m rfl rfl hv ?_; intro w0 r0 hB0)
  | (refine al_mc rfl rfl ?_; intro w1 z1 hB1; have r1 := r0.below hB1; have hB2 := hB0.trans (hB1.mono hB0.size); have l0 := r0.lt; have lz := z1.lt; have h1 := h.below hB2; have kh := (cw r1).h; have ks := (cw r1).s; have kp := (cw r1).pc; rw [hh] at kh; rw [hs] at ks)
  | (refine ld_mc rfl rfl rfl r1 ?_))
 go_at_call 173
 refine (l6Read_spec _ m _ _ h1.sl (Mc.right hok) hpc).mono ?_
 rintro e w2 ⟨rfl, hb2⟩
 rw [HC.out]
 have hB3 := hB2.trans (hb2.mono hB2.size)
 have z2 := z1.below hb2
 have r2 := r1.below hb2
 clear kh ks kp
 go_wp2_with (first
  | (go_at_call 174; refine (sizeOf_spec _ _).mono ?_; rintro e w3 ⟨rfl, hb3⟩; rw [← HS.out]; have hB4 := hB3.trans (hb3.mono hB3.size); have z3 := z2.below hb3; have r3 := r2.below hb3; have kp := (cw r3).pc; have h3 := h.below hB4)
  | (refine ld_mc rfl rfl rfl r3 ?_))
 go_at_call 173
 refine (l6Read_spec _ m _ _ h3.sl (Mc.right hok) hq).mono ?_
 rintro e w4 ⟨rfl, hb4⟩
 rw [HP.out]
 have hB5 := hB4.trans (hb4.mono hB4.size)
 have z4 := z3.below hb4
 have r4 := r3.below hb4
 have kp4 := (cw r4).pc
 have lz4 := z4.lt
 have lr4 := r4.lt
 clear kp
 obtain ⟨N, HN⟩ : ∃ N, Hid (N = m.opnd) := ⟨_, show _ = _ from rfl⟩
 rw [← HN.out]
 have hnb : bok N = true := by rw [HN.out]; exact opnd_ok hok
 obtain ⟨M, HM⟩ : ∃ M, Hid (M = (m.onw.does m.opnd k).1) := ⟨_, show _ = _ from rfl⟩
 obtain ⟨O, HQ⟩ : ∃ O, Hid (O = (m.onw.does m.opnd k).2) := ⟨_, show _ = _ from rfl⟩
 obtain ⟨m5, H5⟩ : ∃ m5 : Mc, Hid (m5 = { m with pc := (m.pc + sz) % 256 }) := ⟨_, show _ = _ from rfl⟩
 have hDo : ∀ (W : World), Ow base W x y m5 → Calls Tryz.prog 175 #[m5.val x y, .int .i64 (k : Int), .int .i64 N] W fun e w' => e = .returned (.tuple #[M.val x y, .int .i64 O]) ∧ Ow base w' x y M ∧ But y W w' := fun W hW => by
  rw [HM.out, HQ.out, HO.out, ← HN.out, ← H5.out]
  exact l7Do_spec rfl hW (by rw [H5.out]; exact ok_pc hok (bok_mod _)) _ hnb k hk
 clear hnb
 have hc5 : (m.cells x y).setIfInBounds 4 (.int .i64 ((m.pc + sz) % 256)) = m5.cells x y := by rw [H5.out]; rfl
 have hr5 : m5.rom = m.rom ∧ m5.ram = m.ram := by rw [H5.out]; exact ⟨rfl, rfl⟩
 go_wp2_with (first
  | (refine st_num (m' := m5) rfl rfl rfl rfl r4 rfl hc5 ?_; intro w5 r5 o5 s5; have z5 := z4.onto o5 (by omega); have hB6 := below_onto hB5 o5 (by omega); have h5 := (h.below hB6).as (m' := m5) hr5.1 hr5.2; clear hc5 hr5 kp4 hrem1 hrem2 hz0)
  | (refine ld_mc rfl rfl rfl r5 ?_)
  | (go_at_call 175; refine (hDo _ h5).mono ?_; rintro e w6 ⟨rfl, h6, hb6⟩; have z6 := hb6.row hg z5 (by omega); have hsz6 := (hb6 g hg).size; have hsB6 := hB6.size)
  | (refine al_mc rfl rfl ?_; intro w7 z7 hb7; have z7' := z6.below hb7; have h7 := h6.below hb7; have l7 := z7.lt; have l6 := z6.lt; have hsz7 := hb7.size)
  | (refine st_mc rfl rfl rfl rfl z7 (one_own h.hx) (one_own h.hy) ?_; intro w8 r8 o8 s8))
 have hGy : Gy w base w6.heap.size w0.heap.size x y M false w8 :=
  ⟨r8, h7.at o8 (fun e => by have := (h.hx.lt _ e).2; omega) (fun e => by have := (h.hy.lt _ e).2; omega), (((But.of hB6).trans hb6).trans (.of hb7)).new o8 (by omega), z7'.onto o8 (by omega)⟩
 have hs0 := hB0.size
 refine region_known (by kernel_rfl) (by kernel_rfl) 4 (by decide) (by kernel_rfl) (Gy w base w6.heap.size w0.heap.size x y M)
  [M.val x y, .int .i64 (k : Int), .int .i64 (line (k : Int)).2.2, .int .i64 O, undef, .int .i64 (line (k : Int)).2.2, .int .i64 O] (hGy.below (below_drewN (Below.refl _ _) 1)) ?step ?done
 case step =>
  intro L ix o' A W hi hI hL hd
  have hin : ix < 7 := by
   by_cases hl : ix < 7
   ·exact hl
   ·simp [hl] at hi
  have hg' := hI.g
  rcases ix with _ | _ | _ | _ | _ | _ | _ | ix
  ·cases hi
   have e0 : A.eval (.tmp 8) = .pointer (some ⟨w6.heap.size, 0, none⟩) := hI.old 8 (by kernel_rfl)
   exact at_op rfl rfl (wp_load_row _ _ rfl _ e0 _ _ _ _ hg'.row.row Tryz.underlying30 rfl info_mc ⟨_, rfl, rfl, by simpa using hg'⟩)
  ·cases hi; exact at_op rfl rfl (move_op rfl ⟨_, rfl, hI.old 5 (by kernel_rfl), by simpa using hg'⟩)
  ·cases hi
   have e0 : A.eval (.tmp 47) = .int .i64 (k : Int) := hI.val hd 1 47 rfl rfl (by kernel_rfl)
   refine at_op rfl rfl (call_op rfl Tryz.func176 (by kernel_rfl) (by kernel_rfl) ?_)
   simp only [List.map_cons, List.map_nil, e0]
   refine (costOf_spec _ _).mono ?_
   rintro e W1 ⟨rfl, hb⟩
   exact ⟨_, rfl, _, rfl, rfl, by simpa using hg'.below hb⟩
  ·cases hi; exact at_op rfl rfl (move_op rfl ⟨_, rfl, hI.old 9 (by kernel_rfl), by simpa using hg'⟩)
  ·cases hi
   have e0 : A.eval (.tmp 2) = .pointer (some ⟨w0.heap.size, 0, none⟩) := hI.old 2 (by kernel_rfl)
   have e1 : A.eval (.tmp 46) = M.val x y := hI.val hd 0 46 rfl rfl (by kernel_rfl)
   have hres : MRow W w0.heap.size nil64 nil64 Mc.nul := by have := hg'.res; simpa [hL] using this
   refine at_op rfl rfl (sm_op' rfl e0 e1 hres (one_own hg'.ow.hx) (one_own hg'.ow.hy) (fun W1 hr hon => ⟨_, rfl, rfl, ?_⟩))
   have := hg'.lay hr hon (by omega) (by omega) (fun e => by have := (h.hx.lt _ e).2; omega) (fun e => by have := (h.hy.lt _ e).2; omega)
   simpa using this
  ·cases hi; exact at_op rfl rfl (assign_op rfl ⟨_, rfl, hI.val hd 2 48 rfl rfl (by kernel_rfl), by simpa using hg'⟩)
  ·cases hi; exact at_op rfl rfl (assign_op rfl ⟨_, rfl, hI.val hd 3 49 rfl rfl (by kernel_rfl), by simpa using hg'⟩)
  omega
 case done =>
  intro A W hI
  have hg' := hI.g
  have hres : MRow W w0.heap.size x y M := by have := hg'.res; simpa using this
  have a2 : A.tmps.getD 2 undef = .pointer (some ⟨w0.heap.size, 0, none⟩) := hI.old 2 (by kernel_rfl)
  have a3 : A.tmps.getD 3 undef = .int .i64 (line (k : Int)).2.2 := hI.last 5 3 rfl
  have a4 : A.tmps.getD 4 undef = .int .i64 O := hI.last 6 4 rfl
  go_wp2_with fail
  refine ret_mc3' rfl a2 hres hI.defers a3 a4 ?_
  rw [← HM.out, ← HQ.out]
  exact ⟨rfl, hg'.ow, hg'.but⟩
theorem l7Run_spec (hv : v = m.val x y) (h : Ow base w x y m) (hok : m.ok = true) : Calls Tryz.prog 127 #[v] w fun e w' => Ran base w w' e x y m.exec := by
 unfold Mc.exec
 cases hi : (m.h || m.s)
 ·rw [if_neg (by decide)]
  by_cases hz : m.size' = 0
  ·rw [if_pos hz]; exact l7Run_stuck hv h hok hi hz
  ·rw [if_neg hz]
   have hc : 0 ≤ m.code ∧ m.code < 31 := by
    by_cases h : 0 ≤ m.code ∧ m.code < 31
    ·exact h
    ·exact absurd (by unfold Mc.size'; rw [size_no _ h]) hz
   obtain ⟨k, hk⟩ : ∃ k : Nat, m.code = (k : Int) := ⟨m.code.toNat, by omega⟩
   have hk31 : k < 31 := by omega
   rw [hk, Int.toNat_natCast]
   exact l7Run_does hv h hok hi k hk31 hk
 ·rw [if_pos rfl]; exact l7Run_idle hv h hi
end
end Go.Proofs.YtghmkacamabndaaGreatDoor.Mem
