/-
  What FnSteps leans on: part 6.
-/
import Derived.Laws.AppendOwn
import Derived.Deep.RegionHeld3
import Derived.Test.YtamldhflkfbdnaaGreatDoorStsP2
import Derived.Test.YtamldhflkfbdnaaGreatDoorStsP3
import Derived.Test.YtamldhflkfbdnaaGreatDoorStsP4
import Derived.Test.YtamldhflkfbdnaaGreatDoorStsP5
set_option linter.unusedVariables false
set_option linter.unusedSimpArgs false
set_option maxRecDepth 20000
namespace Go.Proofs.YtamldhflkfbdnaaGreatDoor.Srl
open Go.ChangeShapes Go.WideShapes Go.RowKit Base Num Slc Rw Reg Tmr Draw

def KSr (v : Value) (w : World) : Prop := ∃ s : Sr, v = s.val
theorem zM1 (X : Nat → Prop) : Bears X KSr := fun _ _ _ h _ => h
structure D2 (p : Nat) (a : Option Addr) (len cap : Nat) (w0 : World) (b2 b3 : Nat) (w : World) : Prop where
 drawn : qI p a len cap w0 w
 r2 : ∃ s : Sr, Row w b2 #[.int .i64 s.d, .bool s.b, .bool s.l, .int .i64 s.n, .int .i64 s.x, .bool s.t] 28
 r3 : ∃ s : Sr, Row w b3 #[.int .i64 s.d, .bool s.b, .bool s.l, .int .i64 s.n, .int .i64 s.x, .bool s.t] 28
structure P2 (p : Nat) (a : Option Addr) (len : Nat) (w0 : World) (b2 b3 : Nat) : Prop where
 old : OldC p a len w0
 n2 : w0.heap.size ≤ b2
 n3 : w0.heap.size ≤ b3
 ne : b2 ≠ b3
section
variable {w0 w w' : World} {p b2 b3 : Nat} {a : Option Addr} {len cap : Nat}
theorem D2.drew (h : D2 p a len cap w0 b2 b3 w) : D2 p a len cap w0 b2 b3 w.drew := ⟨h.drawn.drewN 1, h.r2.imp fun _ r => r.drewN 1, h.r3.imp fun _ r => r.drewN 1⟩
theorem D2.below (h : D2 p a len cap w0 b2 b3 w) (hb : Below w.heap.size w w') : D2 p a len cap w0 b2 b3 w' := ⟨h.drawn.below hb, h.r2.imp fun _ r => r.below hb, h.r3.imp fun _ r => r.below hb⟩
theorem D2.onto (h : D2 p a len cap w0 b2 b3 w) (hP : P2 p a len w0 b2 b3) (ho : Onto p w w') (hd : qI p a len cap w0 w') : D2 p a len cap w0 b2 b3 w' := by
 have := hP.old.1
 have := hP.n2
 have := hP.n3
 exact ⟨hd, h.r2.imp fun _ r => r.onto ho (by omega), h.r3.imp fun _ r => r.onto ho (by omega)⟩
theorem zLm {W : World} {b : Nat} (cs : Array Value) : Onto b W (W.setRow b cs) := ⟨rfl, rfl, rfl, by simp, fun k hk _ => setRow_other W _ k _ hk⟩
theorem D2.store3 (h : D2 p a len cap w0 b2 b3 w) (hP : P2 p a len w0 b2 b3) (s : Sr) : D2 p a len cap w0 b2 b3 (w.setRow b3 #[.int .i64 s.d, .bool s.b, .bool s.l, .int .i64 s.n, .int .i64 s.x, .bool s.t]) := by
 obtain ⟨u, r⟩ := h.r3
 exact ⟨zQ h.drawn (zLm _) hP.n3 hP.old, h.r2.imp fun _ r => r.onto (zLm _) hP.ne, ⟨s, Row.of (setRow_heap w _ _ _ _ _ r.row)⟩⟩
theorem D2.put3 (h : D2 p a len cap w0 b2 b3 w) (hP : P2 p a len w0 b2 b3) (ho : Onto b3 w w') (hr : ∃ s : Sr, Row w' b3 #[.int .i64 s.d, .bool s.b, .bool s.l, .int .i64 s.n, .int .i64 s.x, .bool s.t] 28) : D2 p a len cap w0 b2 b3 w' :=
 ⟨zQ h.drawn ho hP.n3 hP.old, h.r2.imp fun _ r => r.onto ho hP.ne, hr⟩
theorem D2.fin (h : D2 p a len cap w0 b2 b3 w) (hP : P2 p a len w0 b2 b3) (ho : Onto b2 w w') : qI p a len cap w0 w' := zQ h.drawn ho hP.n2 hP.old
end
theorem one_cell {w : World} {b i : Nat} (v : Value) : Onto b w (w.setCell ⟨b, i, none⟩ v) := (Onto.refl b w).setCell rfl v
set_option maxHeartbeats 4000000 in
set_option maxRecDepth 100000 in
theorem zIa {w0 : World} {p : Nat} {a : Option Addr} {len cap : Nat} (w : World) (h : qI p a len cap w0 w) :
  Calls Tryz.prog 200 #[.pointer (some ⟨p, 0, none⟩)] w fun e w' => ∃ s : Sr, e = .returned s.val ∧ Onto p w w' ∧ qI p a len cap w0 w' := by
 have hp := h.cur.lt
 have hold : OldC p a len w := ⟨hp, h.cur.code.lt⟩
 have HH : Hid (Onto p w0 w) := h.onto
 have hd0 := h.cur.drawn.alloc (.cells #[.int .i64 0, .bool false, .bool false, .int .i64 0, .int .i64 0, .bool false] 28)
 have r0 := Row.new w #[.int .i64 0, .bool false, .bool false, .int .i64 0, .int .i64 0, .bool false] 28
 clear h
 go_enter Tryz.func200, Tryz.ntmps200
 go_wp2_with fail
 go_at_call 71
 refine (below_any _ _ hd0 (by omega)).mono ?_
 rintro e w1 ⟨d, rfl, hd, ho1, hd1⟩
 replace r0 := r0.onto ho1 (by omega)
 have hlt1 := r0.lt
 have hP : P2 p a len w w.heap.size w1.heap.size := ⟨hold, Nat.le_refl _, by omega, by omega⟩
 have hS : D2 p a len cap w w.heap.size w1.heap.size (w1.alloc (.cells #[.int .i64 (d : Int), .bool false, .bool false, .int .i64 0, .int .i64 0, .bool false] 28)) := ⟨hd1.alloc _, ⟨Sr.nul, r0.alloc _⟩, ⟨⟨d, false, false, 0, 0, false⟩, Row.new _ _ _⟩⟩
 clear hd0 ho1 hd1 r0
 have fin : ∀ W : World, qI p a len cap w W → Onto p w W ∧ qI p a len cap w0 W := fun W h => ⟨h.onto, HH.out.trans h.onto, h.cur⟩
 go_wp2_with fail
 go_at_call 71
 refine (below_any _ _ hS.drawn (by omega)).mono ?_
 rintro e w2 ⟨q, rfl, hq, ho2, hd2⟩
 replace hS := hS.onto hP ho2 hd2
 clear ho2 hd2
 obtain rfl | rfl | rfl | rfl : q = 0 ∨ q = 1 ∨ q = 2 ∨ q = 3 := by omega
 ·obtain ⟨s, r3⟩ := hS.r3
  obtain ⟨u, r2⟩ := hS.r2
  have c3 := r3.cell
  go_wp2_with (refine qY rfl rfl rfl rfl r2 rfl ?_; intro w3 r4 ho4 hs4)
  refine qQ rfl rfl r4 qF rfl zU rfl ?_
  exact ⟨s, rfl, fin _ (hS.fin hP ho4)⟩
 ·obtain ⟨s, r3⟩ := hS.r3
  have c3 := r3.cell
  go_wp2_with fail
  go_at_call 240
  refine (zAf s false 0 _).mono ?_
  rintro e w3 ⟨rfl, hb3⟩
  replace hS := hS.below hb3
  obtain ⟨s', r3'⟩ := hS.r3
  clear c3 r3 hb3
  rw [Sr.eta]
  generalize s.start false 0 = s2
  go_wp2_with (refine qY rfl rfl rfl rfl r3' rfl ?_; intro w4 r4 ho4 hs4)
  replace hS := hS.put3 hP ho4 ⟨_, r4⟩
  clear r3' r4 ho4 hs4
  go_at_call 71
  refine (below_any _ _ hS.drawn (by omega)).mono ?_
  rintro e w5 ⟨q, rfl, hq, ho5, hd5⟩
  replace hS := hS.onto hP ho5 hd5
  obtain ⟨s5, r5⟩ := hS.r3
  obtain ⟨u5, r6⟩ := hS.r2
  have c5 := r5.cell
  have f5 := r5.free
  go_wp2_with (refine qY rfl rfl rfl rfl (r6.setOther ⟨w1.heap.size, 3, none⟩ (.int .i64 (1 + (q : Int))) (by simp; omega)) rfl ?_; intro w6 r7 ho7 hs7)
  refine qQ rfl rfl r7 qF rfl zU rfl ?_
  exact ⟨⟨s5.d, s5.b, s5.l, 1 + q, s5.x, s5.t⟩, rfl, fin _ (zQ (zQ hS.drawn (one_cell _) hP.n3 hP.old) ho7 hP.n2 hP.old)⟩
 ·go_wp2
  refine vK (by kernel_rfl) (by kernel_rfl) (fun W => D2 p a len cap w w.heap.size w1.heap.size W)
   (kinds [KSr, KIs (.pointer (some ⟨p, 0, none⟩)), KIdx 200, KSr, KAny]) (Rel fun _ => True) (by kernel_rfl) (jS ?mono) hS.drew ?step ?done
  case mono =>
   intro K hK
   simp only [List.mem_cons, List.not_mem_nil, or_false] at hK
   rcases hK with rfl | rfl | rfl | rfl | rfl
   all_goals first | exact zO _ _ | exact zCa _ _ | exact zM1 _ | exact bears_any _
  case step =>
   intro L ix o A W hi hI hL hd
   have hin : ix < 5 := qB hi
   rcases ix with _ | _ | _ | _ | _ | ix
   ·cases hi; obtain ⟨s, r⟩ := hI.g.r3; exact zC rfl rfl (wp_load_row _ _ rfl _ (hI.ol 3 rfl) _ _ _ _ r.row qF rfl zU ⟨_, rfl, ⟨s, rfl⟩, hI.g, Rel.refl _ _⟩)
   ·cases hi; exact am rfl rfl rfl ⟨_, rfl, hI.ol 0 rfl, hI.g, Rel.refl _ _⟩
   ·cases hi; have e : A.eval (.tmp 19) = .pointer (some ⟨p, 0, none⟩) := hI.get hd 1 19 rfl (by kernel_rfl)
    refine zC rfl rfl (zS rfl Tryz.func71 (by kernel_rfl) (by kernel_rfl) ?_)
    simp only [List.map_cons, List.map_nil, e]
    refine (below_any 200 W hI.g.drawn (by omega)).mono ?_
    rintro e w4 ⟨r, rfl, hr, ho4, hd4⟩
    exact ⟨_, rfl, _, rfl, ⟨r, rfl, hr⟩, hI.g.onto hP ho4 hd4, Rel.onto ho4 trivial⟩
   ·cases hi; obtain ⟨s, e1⟩ : KSr (A.eval (.tmp 18)) W := hI.get hd 0 18 rfl (by kernel_rfl)
    obtain ⟨r, e2, hr⟩ : KIdx 200 (A.eval (.tmp 20)) W := hI.get hd 2 20 rfl (by kernel_rfl)
    refine zC rfl rfl (zS rfl Tryz.func240 (by kernel_rfl) (by kernel_rfl) ?_)
    simp only [List.map_cons, List.map_nil, e1, e2]
    refine (zAf s true r W).mono ?_
    rintro e w4 ⟨rfl, hb4⟩
    exact ⟨_, rfl, _, rfl, ⟨_, rfl⟩, hI.g.below hb4, Rel.below hb4⟩
   ·cases hi; obtain ⟨s, e1⟩ : KSr (A.eval (.tmp 21)) W := hI.get hd 3 21 rfl (by kernel_rfl)
    obtain ⟨u, hr⟩ := hI.g.r3
    exact zC rfl rfl (wp_store_row _ _ _ rfl _ _ (hI.ol 3 rfl) e1 _ _ hr.row zU rfl (by simp [Value.oneCell']) ⟨_, rfl, trivial, hI.g.store3 hP s, by simp, fun k hk => absurd trivial hk⟩)
   omega
  case done =>
   intro A W hI
   have e0 : A.tmps.getD 0 undef = .pointer (some ⟨p, 0, none⟩) := hI.old 0 (by kernel_rfl)
   have e2 : A.tmps.getD 2 undef = .pointer (some ⟨w.heap.size, 0, none⟩) := hI.old 2 (by kernel_rfl)
   have e3 : A.tmps.getD 3 undef = .pointer (some ⟨w1.heap.size, 0, none⟩) := hI.old 3 (by kernel_rfl)
   have hA := jC A 35 hI.size
   have hg := hI.g
   have hde : A.defers = [] := hI.defers
   rw [hde, show List.range 35 = [0, 1, 2, 3, 4, 5, 6, 7, 8, 9, 10, 11, 12, 13, 14, 15, 16, 17, 18, 19, 20, 21, 22, 23, 24, 25, 26, 27, 28, 29, 30, 31, 32, 33, 34] from rfl] at hA
   simp only [List.map_cons, List.map_nil, e0, e2, e3] at hA
   rw [hA]
   clear hA e0 e2 e3 hI hde hS
   have hS := hg
   clear hg
   go_wp2_with fail
   go_at_call 71
   refine (below_any _ _ hS.drawn (by omega)).mono ?_
   rintro e w5 ⟨q, rfl, hq, ho5, hd5⟩
   replace hS := hS.onto hP ho5 hd5
   obtain ⟨s5, r5⟩ := hS.r3
   obtain ⟨u5, r6⟩ := hS.r2
   have c5 := r5.cell
   have f5 := r5.free
   go_wp2_with (refine qY rfl rfl rfl rfl (r6.setOther ⟨w1.heap.size, 3, none⟩ (.int .i64 (1 + (q : Int))) (by simp; omega)) rfl ?_; intro w6 r7 ho7 hs7)
   refine qQ rfl rfl r7 qF rfl zU rfl ?_
   exact ⟨⟨s5.d, s5.b, s5.l, 1 + q, s5.x, s5.t⟩, rfl, fin _ (zQ (zQ hS.drawn (one_cell _) hP.n3 hP.old) ho7 hP.n2 hP.old)⟩
 ·go_wp2
  refine vK (by kernel_rfl) (by kernel_rfl) (fun W => D2 p a len cap w w.heap.size w1.heap.size W)
   (kinds [KSr, KIs (.pointer (some ⟨p, 0, none⟩)), KIdx 200, KSr, KAny]) (Rel fun _ => True) (by kernel_rfl) (jS ?mono) hS.drew ?step ?done
  case mono =>
   intro K hK
   simp only [List.mem_cons, List.not_mem_nil, or_false] at hK
   rcases hK with rfl | rfl | rfl | rfl | rfl
   all_goals first | exact zO _ _ | exact zCa _ _ | exact zM1 _ | exact bears_any _
  case step =>
   intro L ix o A W hi hI hL hd
   have hin : ix < 5 := qB hi
   rcases ix with _ | _ | _ | _ | _ | ix
   ·cases hi; obtain ⟨s, r⟩ := hI.g.r3; exact zC rfl rfl (wp_load_row _ _ rfl _ (hI.ol 3 rfl) _ _ _ _ r.row qF rfl zU ⟨_, rfl, ⟨s, rfl⟩, hI.g, Rel.refl _ _⟩)
   ·cases hi; exact am rfl rfl rfl ⟨_, rfl, hI.ol 0 rfl, hI.g, Rel.refl _ _⟩
   ·cases hi; have e : A.eval (.tmp 25) = .pointer (some ⟨p, 0, none⟩) := hI.get hd 1 25 rfl (by kernel_rfl)
    refine zC rfl rfl (zS rfl Tryz.func71 (by kernel_rfl) (by kernel_rfl) ?_)
    simp only [List.map_cons, List.map_nil, e]
    refine (below_any 200 W hI.g.drawn (by omega)).mono ?_
    rintro e w4 ⟨r, rfl, hr, ho4, hd4⟩
    exact ⟨_, rfl, _, rfl, ⟨r, rfl, hr⟩, hI.g.onto hP ho4 hd4, Rel.onto ho4 trivial⟩
   ·cases hi; obtain ⟨s, e1⟩ : KSr (A.eval (.tmp 24)) W := hI.get hd 0 24 rfl (by kernel_rfl)
    obtain ⟨r, e2, hr⟩ : KIdx 200 (A.eval (.tmp 26)) W := hI.get hd 2 26 rfl (by kernel_rfl)
    refine zC rfl rfl (zS rfl Tryz.func240 (by kernel_rfl) (by kernel_rfl) ?_)
    simp only [List.map_cons, List.map_nil, e1, e2]
    refine (zAf s true r W).mono ?_
    rintro e w4 ⟨rfl, hb4⟩
    exact ⟨_, rfl, _, rfl, ⟨_, rfl⟩, hI.g.below hb4, Rel.below hb4⟩
   ·cases hi; obtain ⟨s, e1⟩ : KSr (A.eval (.tmp 27)) W := hI.get hd 3 27 rfl (by kernel_rfl)
    obtain ⟨u, hr⟩ := hI.g.r3
    exact zC rfl rfl (wp_store_row _ _ _ rfl _ _ (hI.ol 3 rfl) e1 _ _ hr.row zU rfl (by simp [Value.oneCell']) ⟨_, rfl, trivial, hI.g.store3 hP s, by simp, fun k hk => absurd trivial hk⟩)
   omega
  case done =>
   intro A W hI
   have e0 : A.tmps.getD 0 undef = .pointer (some ⟨p, 0, none⟩) := hI.old 0 (by kernel_rfl)
   have e2 : A.tmps.getD 2 undef = .pointer (some ⟨w.heap.size, 0, none⟩) := hI.old 2 (by kernel_rfl)
   have e3 : A.tmps.getD 3 undef = .pointer (some ⟨w1.heap.size, 0, none⟩) := hI.old 3 (by kernel_rfl)
   have hA := jC A 35 hI.size
   have hg := hI.g
   have hde : A.defers = [] := hI.defers
   rw [hde, show List.range 35 = [0, 1, 2, 3, 4, 5, 6, 7, 8, 9, 10, 11, 12, 13, 14, 15, 16, 17, 18, 19, 20, 21, 22, 23, 24, 25, 26, 27, 28, 29, 30, 31, 32, 33, 34] from rfl] at hA
   simp only [List.map_cons, List.map_nil, e0, e2, e3] at hA
   rw [hA]
   clear hA e0 e2 e3 hI hde hS
   have hS := hg
   clear hg
   obtain ⟨s3, r3⟩ := hS.r3
   have c3 := r3.cell
   have f3 := r3.free
   replace hS := hS.put3 hP (one_cell (i := 5) (.bool true)) ⟨⟨s3.d, s3.b, s3.l, s3.n, s3.x, true⟩, by simpa using r3.set 5 (.bool true)⟩
   replace hS := hS.put3 hP (one_cell (i := 4) (.int .i64 0)) ⟨⟨s3.d, s3.b, s3.l, s3.n, 0, true⟩, by simpa using (r3.set 5 (.bool true)).set 4 (.int .i64 0)⟩
   go_wp2_with fail
   go_at_call 71
   refine (below_any _ _ hS.drawn (by omega)).mono ?_
   rintro e w5 ⟨q, rfl, hq, ho5, hd5⟩
   replace hS := hS.onto hP ho5 hd5
   obtain ⟨s5, r5⟩ := hS.r3
   obtain ⟨u5, r6⟩ := hS.r2
   have c5 := r5.cell
   have f5 := r5.free
   go_wp2_with (refine qY rfl rfl rfl rfl (r6.setOther ⟨w1.heap.size, 3, none⟩ (.int .i64 (1 + (q : Int))) (by simp; omega)) rfl ?_; intro w6 r7 ho7 hs7)
   refine qQ rfl rfl r7 qF rfl zU rfl ?_
   exact ⟨⟨s5.d, s5.b, s5.l, 1 + q, s5.x, s5.t⟩, rfl, fin _ (zQ (zQ hS.drawn (one_cell _) hP.n3 hP.old) ho7 hP.n2 hP.old)⟩
set_option maxHeartbeats 4000000 in
theorem zJd {w0 : World} {p : Nat} {a : Option Addr} {len cap : Nat} (w : World) (h : qI p a len cap w0 w) :
  Calls Tryz.prog 132 #[.pointer (some ⟨p, 0, none⟩)] w fun e w' => ∃ s : Sr, e = .returned s.val ∧ Onto p w w' ∧ qI p a len cap w0 w' := by
 have hp := h.cur.lt
 have hold : OldC p a len w := ⟨hp, h.cur.code.lt⟩
 have HH : Hid (Onto p w0 w) := h.onto
 have hd0 := h.cur.drawn.alloc (.cells #[.int .i64 0, .bool false, .bool false, .int .i64 0, .int .i64 0, .bool false] 28)
 have r0 := Row.new w #[.int .i64 0, .bool false, .bool false, .int .i64 0, .int .i64 0, .bool false] 28
 clear h
 go_enter Tryz.func132, Tryz.ntmps132
 go_wp2_with fail
 go_at_call 200
 refine (zIa _ hd0).mono ?_
 rintro e w1 ⟨t, rfl, ho1, hd1⟩
 replace r0 := r0.onto ho1 (by omega)
 have hlt1 := r0.lt
 have hP : P2 p a len w w.heap.size w1.heap.size := ⟨hold, Nat.le_refl _, by omega, by omega⟩
 have hS : D2 p a len cap w w.heap.size w1.heap.size (w1.alloc (.cells #[.int .i64 t.d, .bool t.b, .bool t.l, .int .i64 t.n, .int .i64 t.x, .bool t.t] 28)) := ⟨hd1.alloc _, ⟨Sr.nul, r0.alloc _⟩, ⟨t, Row.new _ _ _⟩⟩
 have r3 := Row.new w1 #[.int .i64 t.d, .bool t.b, .bool t.l, .int .i64 t.n, .int .i64 t.x, .bool t.t] 28
 have hp1 : w1.heap.size ≠ p := by omega
 clear hd0 ho1 hd1 r0
 have fin : ∀ W : World, qI p a len cap w W → Onto p w W ∧ qI p a len cap w0 W := fun W h => ⟨h.onto, HH.out.trans h.onto, h.cur⟩
 rw [Sr.eta]
 go_wp2_with fail
 go_at_call 67
 refine (vS _ _ hS.drawn (by omega)).mono ?_
 rintro e w2 ⟨q, rfl, ho2, hd2⟩
 replace hS := hS.onto hP ho2 hd2
 replace r3 := r3.onto ho2 (by omega)
 clear ho2 hd2
 cases q
 ·obtain ⟨u, r2⟩ := hS.r2
  have c3 := r3.cell
  go_wp2_with (refine qY rfl rfl rfl rfl r2 rfl ?_; intro w3 r4 ho4 hs4)
  refine qQ rfl rfl r4 qF rfl zU rfl ?_
  exact ⟨t, rfl, fin _ (hS.fin hP ho4)⟩
 go_wp2_with fail
 go_at_call 71
 refine (below_any _ _ hS.drawn (by omega)).mono ?_
 rintro e w3 ⟨r, rfl, hr, ho3, hd3⟩
 replace hS := hS.onto hP ho3 hd3
 replace r3 := r3.onto ho3 (by omega)
 clear ho3 hd3
 obtain rfl | rfl | rfl | rfl | rfl | rfl : r = 0 ∨ r = 1 ∨ r = 2 ∨ r = 3 ∨ r = 4 ∨ r = 5 := by omega
 ·go_wp2_with fail
  go_at_call 68
  refine (zB5 _ _ hS.drawn (by omega) (by omega)).mono ?_
  rintro e w4 ⟨x, rfl, hx, ho4, hd4⟩
  replace hS := hS.onto hP ho4 hd4
  replace r3 := r3.onto ho4 (by omega)
  obtain ⟨u, r2⟩ := hS.r2
  have c3 := r3.cell
  have f3 := r3.free
  go_wp2_with (refine qY rfl rfl rfl rfl (r2.setOther ⟨w1.heap.size, 0, none⟩ (.int .i64 x) (by simp; omega)) rfl ?_; intro w5 r5 ho5 hs5)
  refine qQ rfl rfl r5 qF rfl zU rfl ?_
  exact ⟨⟨x, t.b, t.l, t.n, t.x, t.t⟩, rfl, fin _ (zQ (zQ hS.drawn (one_cell _) hP.n3 hP.old) ho5 hP.n2 hP.old)⟩
 ·obtain ⟨u, r2⟩ := hS.r2
  have c3 := r3.cell
  have f3 := r3.free
  go_wp2_with (refine qY rfl rfl rfl rfl (r2.setOther ⟨w1.heap.size, 1, none⟩ (.bool (!t.b)) (by simp; omega)) rfl ?_; intro w5 r5 ho5 hs5)
  refine qQ rfl rfl r5 qF rfl zU rfl ?_
  exact ⟨⟨t.d, !t.b, t.l, t.n, t.x, t.t⟩, rfl, fin _ (zQ (zQ hS.drawn (one_cell _) hP.n3 hP.old) ho5 hP.n2 hP.old)⟩
 ·obtain ⟨u, r2⟩ := hS.r2
  have c3 := r3.cell
  have f3 := r3.free
  go_wp2_with (refine qY rfl rfl rfl rfl (r2.setOther ⟨w1.heap.size, 2, none⟩ (.bool (!t.l)) (by simp; omega)) rfl ?_; intro w5 r5 ho5 hs5)
  refine qQ rfl rfl r5 qF rfl zU rfl ?_
  exact ⟨⟨t.d, t.b, !t.l, t.n, t.x, t.t⟩, rfl, fin _ (zQ (zQ hS.drawn (one_cell _) hP.n3 hP.old) ho5 hP.n2 hP.old)⟩
 ·go_wp2_with fail
  go_at_call 69
  refine (zBv _ _ _ hS.drawn (by omega) (by omega) (by omega)).mono ?_
  rintro e w4 ⟨x, rfl, hx, ho4, hd4⟩
  replace hS := hS.onto hP ho4 hd4
  replace r3 := r3.onto ho4 (by omega)
  obtain ⟨u, r2⟩ := hS.r2
  have c3 := r3.cell
  have f3 := r3.free
  go_wp2_with (refine qY rfl rfl rfl rfl (r2.setOther ⟨w1.heap.size, 3, none⟩ (.int .i64 x) (by simp; omega)) rfl ?_; intro w5 r5 ho5 hs5)
  refine qQ rfl rfl r5 qF rfl zU rfl ?_
  exact ⟨⟨t.d, t.b, t.l, x, t.x, t.t⟩, rfl, fin _ (zQ (zQ hS.drawn (one_cell _) hP.n3 hP.old) ho5 hP.n2 hP.old)⟩
 ·go_wp2_with fail
  go_at_call 68
  refine (zB5 _ _ hS.drawn (by omega) (by omega)).mono ?_
  rintro e w4 ⟨x, rfl, hx, ho4, hd4⟩
  replace hS := hS.onto hP ho4 hd4
  replace r3 := r3.onto ho4 (by omega)
  obtain ⟨u, r2⟩ := hS.r2
  have c3 := r3.cell
  have f3 := r3.free
  go_wp2_with (refine qY rfl rfl rfl rfl (r2.setOther ⟨w1.heap.size, 4, none⟩ (.int .i64 x) (by simp; omega)) rfl ?_; intro w5 r5 ho5 hs5)
  refine qQ rfl rfl r5 qF rfl zU rfl ?_
  exact ⟨⟨t.d, t.b, t.l, t.n, x, t.t⟩, rfl, fin _ (zQ (zQ hS.drawn (one_cell _) hP.n3 hP.old) ho5 hP.n2 hP.old)⟩
 ·obtain ⟨u, r2⟩ := hS.r2
  have c3 := r3.cell
  have f3 := r3.free
  go_wp2_with (refine qY rfl rfl rfl rfl (r2.setOther ⟨w1.heap.size, 5, none⟩ (.bool (!t.t)) (by simp; omega)) rfl ?_; intro w5 r5 ho5 hs5)
  refine qQ rfl rfl r5 qF rfl zU rfl ?_
  exact ⟨⟨t.d, t.b, t.l, t.n, t.x, !t.t⟩, rfl, fin _ (zQ (zQ hS.drawn (one_cell _) hP.n3 hP.old) ho5 hP.n2 hP.old)⟩
end Go.Proofs.YtamldhflkfbdnaaGreatDoor.Srl
namespace Go.Proofs.YtamldhflkfbdnaaGreatDoor.Mem
open Go.ChangeShapes Go.WideShapes Go.RowKit Base Draw Slc Num Rw Tmr Srl Rom RomOf Reg

def LB (base : Nat) (v : Value) (n : Nat) (x : Value) (W : World) : Prop := ∃ l : List Int, l.length = n ∧ l.all bok = true ∧ Own base W x l ∧ Apart v x
def PB (base : Nat) (v : Value) (x : Value) (W : World) : Prop := ∃ (b r : Nat) (z : Int), x = .pointer (some ⟨b, r, none⟩) ∧ W.cell? ⟨b, r, none⟩ = some (.int .i64 z) ∧ 0 ≤ z ∧ z ≤ 255 ∧ base ≤ b ∧ v.ownBlock ≠ some b
def BY (x : Value) : Prop := ∃ z : Int, x = .int .i64 z ∧ 0 ≤ z ∧ z ≤ 255
def IX (n : Int) (x : Value) : Prop := ∃ r : Nat, x = .int .i64 (r : Int) ∧ (r : Int) < n
theorem LB.onto {base p n : Nat} {v x : Value} {W W' : World} (h : LB base v n x W) (ho : Onto p W W') (hp : p < base) : LB base v n x W' := by
 obtain ⟨l, h1, h2, h3, h4⟩ := h
 exact ⟨l, h1, h2, h3.onto ho (fun e => by have := (h3.lt _ e).1; omega), h4⟩
theorem LB.grown {base n : Nat} {v x : Value} {W W' : World} (h : LB base v n x W) (hg : W.grownBy W' v.ownBlock) : LB base v n x W' := by
 obtain ⟨l, h1, h2, h3, h4⟩ := h
 exact ⟨l, h1, h2, h3.grown hg (fun k hk => h4 k hk), h4⟩
theorem PB.onto {base p : Nat} {v x : Value} {W W' : World} (h : PB base v x W) (ho : Onto p W W') (hp : p < base) : PB base v x W' := by
 obtain ⟨b, r, z, h1, h2, h3⟩ := h
 exact ⟨b, r, z, h1, by rw [ho.cell (q := ⟨b, r, none⟩) (by show b ≠ p; omega) (zAs h2)]; exact h2, h3⟩
theorem PB.grown {base : Nat} {v x : Value} {W W' : World} (h : PB base v x W) (hg : W.grownBy W' v.ownBlock) : PB base v x W' := by
 obtain ⟨b, r, z, h1, h2, h3, h4, h5, h6⟩ := h
 exact ⟨b, r, z, h1, by rw [World.cell?_of_block (w := W) (a := ⟨b, r, none⟩) (hg.block b (zAs h2) (fun e => h6 e.symm))]; exact h2, h3, h4, h5, h6⟩
theorem LB.at {base n : Nat} {v x : Value} {W : World} (h : LB base v n x W) {r : Nat} (hr : r < n) : ∃ b c, x = .slice (some ⟨b, 0, none⟩) n c ∧ PB base v (.pointer (some ⟨b, r, none⟩)) W := by
 obtain ⟨l, h1, h2, h3, h4⟩ := h
 obtain ⟨g, cap, rfl, hg1, hg2, hg3, hg4⟩ := h3.block (by omega)
 refine ⟨g, cap, by rw [h1], g, r, l.getD r 0, rfl, h3.cellAt (by omega), (bytes_at h2 r (by omega)).1, (bytes_at h2 r (by omega)).2, hg1, fun e => h4 g e rfl⟩
theorem zNm {base : Nat} {v : Value} {W : World} (cs : Array Value) (l : List Int) (hc : cs.toList = l.map (Value.int .i64)) (hb : l.all bok = true) (hl : l.length ≤ maxLen) (hbase : base ≤ W.heap.size) (hv : ∀ k, v.ownBlock = some k → k < W.heap.size) :
  LB base v l.length (.slice (some ⟨W.heap.size, 0, none⟩) l.length l.length) (W.alloc (.cells cs 2)) :=
 ⟨l, rfl, hb, zB4 base W cs l hc hl hbase, fun k hk e => by have := hv k hk; simp [Value.ownBlock] at e; omega⟩
theorem zU5 {o : Oper} {a : Act} {w : World} {K : Act → World → Prop} {Q : Exit → Act → World → Prop} (s x : Operand)
  (ho : o.op = .call { callee := .builtin .append, args := #[s, x], argTypes := #[24, 24] })
  (base : Nat) (l news : List Int) (hown : Own base w (a.eval s) l) (hn : Sl w (a.eval x) news) (hne : 0 < news.length) (hbd : l.length + news.length ≤ 17592186044416) (hbase : base ≤ w.heap.size)
  (h : ∀ v' w', Own base w' v' (l ++ news) → w.grownBy w' (a.eval s).ownBlock → K (a.put o.dst v') w') : o.wp Tryz.prog a w K Q := by
 obtain ⟨i0, hi, hz0, hz1, hz2⟩ := info_parts zD5
 obtain ⟨ao, cap, hx, hat, hlc, hcm, hnil⟩ := hn
 rcases hat.2 with h0 | ⟨b, off, rfl, hbs, hc⟩
 ·omega
 refine wp_append_own w s x 24 ho base 2 i0 (.int .i64 0) 1 8 zBq hi hz0 hz1 hz2 rfl (by decide) (a.eval s) l.length (l.map (Value.int .i64)) rfl hown ⟨b, off, none⟩ news.length cap (news.map (Value.int .i64)) hx (by simp) ?_ (ints_oneCell _ _) (by unfold maxLen; omega) (by omega) hbase ?_
 ·intro j u hj
  have hjl : j < news.length := by
   have := (List.getElem?_eq_some_iff.1 hj).1
   simpa using this
  have hcj := hc j hjl
  have e : (⟨b, off, none⟩ : Addr).add j = ⟨b, off + j, none⟩ := by
   by_cases hi0 : j = 0 <;> simp [Addr.add, hi0]
  rw [e, hcj]
  simp [List.getElem?_eq_getElem hjl] at hj
  rw [← hj, List.getD_eq_getElem?_getD, List.getElem?_eq_getElem hjl]
  rfl
 ·intro v' w' h2 h3 _
  refine h v' w' ?_ h3
  unfold Own
  rw [List.length_append, List.map_append]
  exact h2
def RC (s : Nat) (p : Nat) (v : Value) (i : Nat) (W W' : World) : Prop := if i = s then W.grownBy W' v.ownBlock else Onto p W W'
theorem RC.onto {s p i : Nat} {v : Value} {W W' : World} (hi : i ≠ s) (h : Onto p W W') : RC s p v i W W' := by unfold RC; rw [if_neg hi]; exact h
theorem RC.app {s p : Nat} {v : Value} {W W' : World} (h : W.grownBy W' v.ownBlock) : RC s p v s W W' := by unfold RC; rw [if_pos rfl]; exact h
theorem RC.cases {s p i : Nat} {v : Value} {W W' : World} (h : RC s p v i W W') : Onto p W W' ∨ (W.grownBy W' v.ownBlock ∧ i = s) := by
 unfold RC at h
 split at h
 ·exact .inr ⟨h, by assumption⟩
 ·exact .inl h
def zTj (base p : Nat) (v : Value) (l : List Int) (j : Nat) (f : Nat → Value) (W : World) : Prop :=
 if j = 0 then (f 18) = v
 else if j = 1 then (f 19) = .pointer (some ⟨p, 0, none⟩)
 else if j = 2 then IX 256 (f 20)
 else if j = 3 then LB base v 3 (f 21) W
 else if j = 4 then (f 22) = .pointer (some ⟨p, 0, none⟩)
 else if j = 5 then IX 3 (f 23)
 else if j = 6 then PB base v (f 24) W
 else if j = 7 then BY (f 25)
 else if j = 8 then LB base v 5 (f 26) W
 else if j = 9 then (f 27) = .pointer (some ⟨p, 0, none⟩)
 else if j = 10 then IX 5 (f 28)
 else if j = 11 then PB base v (f 29) W
 else if j = 12 then BY (f 30)
 else if j = 13 then LB base v 4 (f 31) W
 else if j = 14 then ∃ l2 : List Int, Own base W (f 32) l2 ∧ l2.length = l.length + 4 ∧ l2.all bok = true
 else if j = 15 then (f 3) = (f 32)
 else True
def zU2 (base p : Nat) (v : Value) (l : List Int) (i : Nat) (f' : Nat → Value) (W W' : World) : Prop := RC 14 p v i W W'
theorem zRe (base p : Nat) (v : Value) (l : List Int) {ops : Array Oper} (hp : p < base) (hS : zM7 ops [[18], [19], [20], [21], [22], [23], [24], [25], [26], [27], [28], [29], [30], [31], [32], [3, 32]] (fun i j => false) = true) : zCn ops (zTj base p v l) (zU2 base p v l) := by
 refine zJx hS (fun i j f f' W W' hij hx hf hT hR => ?_) (fun i j f f' W W' oi hij hx hoi hf hT hR => ?_)
 ·rcases j with _ | _ | _ | _ | _ | _ | _ | _ | _ | _ | _ | _ | _ | _ | _ | _ | j
  ·have hT : (f 18) = v := hT
   show (f' 18) = v
   rw [hf 18 (by simp)]
   exact hT
  ·have hT : (f 19) = .pointer (some ⟨p, 0, none⟩) := hT
   show (f' 19) = .pointer (some ⟨p, 0, none⟩)
   rw [hf 19 (by simp)]
   exact hT
  ·have hT : IX 256 (f 20) := hT
   show IX 256 (f' 20)
   rw [hf 20 (by simp)]
   exact hT
  ·have hT : LB base v 3 (f 21) W := hT
   show LB base v 3 (f' 21) W'
   rw [hf 21 (by simp)]
   rcases RC.cases hR with h | h; exact hT.onto h hp; exact hT.grown h.1
  ·have hT : (f 22) = .pointer (some ⟨p, 0, none⟩) := hT
   show (f' 22) = .pointer (some ⟨p, 0, none⟩)
   rw [hf 22 (by simp)]
   exact hT
  ·have hT : IX 3 (f 23) := hT
   show IX 3 (f' 23)
   rw [hf 23 (by simp)]
   exact hT
  ·have hT : PB base v (f 24) W := hT
   show PB base v (f' 24) W'
   rw [hf 24 (by simp)]
   rcases RC.cases hR with h | h; exact hT.onto h hp; exact hT.grown h.1
  ·have hT : BY (f 25) := hT
   show BY (f' 25)
   rw [hf 25 (by simp)]
   exact hT
  ·have hT : LB base v 5 (f 26) W := hT
   show LB base v 5 (f' 26) W'
   rw [hf 26 (by simp)]
   rcases RC.cases hR with h | h; exact hT.onto h hp; exact hT.grown h.1
  ·have hT : (f 27) = .pointer (some ⟨p, 0, none⟩) := hT
   show (f' 27) = .pointer (some ⟨p, 0, none⟩)
   rw [hf 27 (by simp)]
   exact hT
  ·have hT : IX 5 (f 28) := hT
   show IX 5 (f' 28)
   rw [hf 28 (by simp)]
   exact hT
  ·have hT : PB base v (f 29) W := hT
   show PB base v (f' 29) W'
   rw [hf 29 (by simp)]
   rcases RC.cases hR with h | h; exact hT.onto h hp; exact hT.grown h.1
  ·have hT : BY (f 30) := hT
   show BY (f' 30)
   rw [hf 30 (by simp)]
   exact hT
  ·have hT : LB base v 4 (f 31) W := hT
   show LB base v 4 (f' 31) W'
   rw [hf 31 (by simp)]
   rcases RC.cases hR with h | h; exact hT.onto h hp; exact hT.grown h.1
  ·have hT : ∃ l2 : List Int, Own base W (f 32) l2 ∧ l2.length = l.length + 4 ∧ l2.all bok = true := hT
   show ∃ l2 : List Int, Own base W' (f' 32) l2 ∧ l2.length = l.length + 4 ∧ l2.all bok = true
   rw [hf 32 (by simp)]
   obtain ⟨l2, h1, h2⟩ := hT; rcases RC.cases hR with h | h; exact ⟨l2, h1.onto h (fun e => by have := (h1.lt _ e).1; omega), h2⟩; exact absurd h.2 hij
  ·have hT : (f 3) = (f 32) := hT
   show (f' 3) = (f' 32)
   rw [hf 3 (by simp), hf 32 (by simp)]
   exact hT
  ·simp [zTj]
 ·simp at hx
theorem zB7 {w0 w w' : World} {p : Nat} {a : Option Addr} {len cap : Nat} {row : Option Nat} (h : qI p a len cap w0 w) (ho : DrawRom.Old w0 p a len) (hg : w.grownBy w' row) (hr : ∀ k, row = some k → w0.heap.size ≤ k) : qI p a len cap w0 w' := DrawRom.zMu h ho hg hr
set_option maxRecDepth 100000 in
set_option maxHeartbeats 4000000 in
theorem zH9 {w0 : World} {p : Nat} {a : Option Addr} {len cap : Nat} (w : World) (h0 : qI p a len cap w0 w) :
  Calls Tryz.prog 183 #[.pointer (some ⟨p, 0, none⟩)] w fun e w' => ∃ v l, e = .returned v ∧ Own w.heap.size w' v l ∧ 1 ≤ l.length ∧ l.length ≤ 70 ∧ l.all bok = true ∧ Onto p w w' ∧ qI p a len cap w0 w' := by
 have hend : ∀ w', qI p a len cap w w' → Onto p w w' ∧ qI p a len cap w0 w' := fun w' hd => ⟨hd.onto, h0.onto.trans hd.onto, hd.cur⟩
 have h := h0.cur.drawn
 have hOld := DrawRom.zVi h0.cur
 obtain ⟨base, hbase⟩ : ∃ base, base = w.heap.size := ⟨_, rfl⟩
 have hpb : p < base := by rw [hbase]; exact hOld.1
 rw [← hbase]
 have HB : Hid (base = w.heap.size) := hbase
 clear hbase
 have hbs : ∀ W, qI p a len cap w W → base ≤ W.heap.size := fun W hd => by have := hd.onto.size; have := HB.out; omega
 have ho0 := zB4 base w #[] [] rfl (by decide) (by have := HB.out; omega)
 go_enter Tryz.func183, Tryz.ntmps183
 go_wp2_with fail
 go_at_call 71
 refine (Draw.below_any 14 _ (h.alloc _) (by omega)).mono ?_
 rintro e w1 ⟨r1, rfl, hr1, hon1, hd1⟩
 have ho1 := ho0.onto hon1 (fun e => by have := (ho0.lt _ e).1; omega)
 go_wp2_with fail
 go_loopw [3, 4] (fun v n wr => ∃ (l : List Int) (k : Nat), n = .int .i64 k ∧ k ≤ 16 ∧ l.length + 4 * k ≤ 64 ∧ (3 ≤ k ∨ 1 ≤ l.length) ∧ l.all bok = true ∧ Own base wr v l ∧ qI p a len cap w wr) (fun _ n _ => (intOf n).toNat)
 case atStart => exact ⟨[], 3 + r1, by go_num, by omega, by simp; omega, .inl (by omega), rfl, ho1, hd1⟩
 case round =>
  clear hd1 ho1 hon1 ho0 h
  obtain ⟨l, k, rfl, hk16, hlk, hne, hall, ho, hd⟩ := hrel
  by_cases hk : 0 < k
  ·go_wp2_with fail
   go_at_call 71
   refine (Draw.below_any 31 _ hd (by omega)).mono ?_
   rintro e w2 ⟨r2, rfl, hr2, hon2, hd2⟩
   have ho2 := ho.onto hon2 (fun e => by have := (ho.lt _ e).1; omega)
   clear ho hd
   go_wp2_with fail
   go_at_call 67
   refine (Draw.vS 3 _ hd2 (by omega)).mono ?_
   rintro e w3 ⟨r3, rfl, hon3, hd3⟩
   have ho3 := ho2.onto hon3 (fun e => by have := (ho2.lt _ e).1; omega)
   clear ho2 hd2
   cases r3
   ·go_wp2_with (first
     | (at_builtin; refine app rfl (.tmp 33) (.tmp 35) rfl base l [(r2 : Int)] (ho3.below ((Below.refl _ _).alloc (Nat.le_refl _) _)) (zHp _ _ [(r2 : Int)] rfl (by simp [maxLen])) (by simp; omega) (by have := hbs _ hd3; simp; omega) ?_; intro v4 w4 ho4 hg4; have hd4 := zB7 (hd3.alloc (.cells #[.int .i64 (r2 : Int)] 2)) hOld hg4 (fun j hj => by have := (ho3.lt j hj).1; have := HB.out; omega); clear ho3 hd3))
    go_at_call 221
    refine (Opl.sizeOf_spec _ _).mono ?_
    rintro e w5 ⟨rfl, hb5⟩
    have hd5 := hd4.below hb5
    have ho5 := ho4.below hb5
    have hall4 : (l ++ [(r2 : Int)]).all bok = true := by rw [List.all_append, hall]; simp [bok]; omega
    clear hd4 ho4 hg4 hb5
    generalize (Opl.line (r2 : Int)).2.1 = sz
    by_cases hs2 : sz = 2
    ·subst hs2
     go_wp2_with fail
     go_at_call 71
     refine (Draw.below_any 20 _ hd5 (by omega)).mono ?_
     rintro e w6 ⟨r6, rfl, hr6, hon6, hd6⟩
     have ho6 := ho5.onto hon6 (fun e => by have := (ho5.lt _ e).1; omega)
     clear ho5 hd5
     go_wp2_with fail
     go_at_call 71
     refine (Draw.below_any 8 _ hd6 (by omega)).mono ?_
     rintro e w7 ⟨r7, rfl, hr7, hon7, hd7⟩
     have ho7 := ho6.onto hon7 (fun e => by have := (ho6.lt _ e).1; omega)
     clear ho6 hd6
     go_wp2_with fail
     go_at_call 71
     refine (Draw.below_any 10 _ hd7 (by omega)).mono ?_
     rintro e w8 ⟨r8, rfl, hr8, hon8, hd8⟩
     have ho8 := ho7.onto hon8 (fun e => by have := (ho7.lt _ e).1; omega)
     clear ho7 hd7
     go_wp2_with fail
     go_at_call 71
     refine (Draw.below_any 256 _ hd8 (by omega)).mono ?_
     rintro e w9 ⟨r9, rfl, hr9, hon9, hd9⟩
     have ho9 := ho8.onto hon9 (fun e => by have := (ho8.lt _ e).1; omega)
     clear ho8 hd8
     have hb9 := hbs _ hd9
     have hlit := zB4 base w9 #[.int .i64 (r6 : Int), .int .i64 (128 + (r7 : Int)), .int .i64 (240 + (r8 : Int)), .int .i64 (r9 : Int)] [(r6 : Int), 128 + (r7 : Int), 240 + (r8 : Int), (r9 : Int)] rfl (by simp [maxLen]) hb9
     have hdl := hd9.alloc (.cells #[.int .i64 (r6 : Int), .int .i64 (128 + (r7 : Int)), .int .i64 (240 + (r8 : Int)), .int .i64 (r9 : Int)] 2)
     have hol := ho9.below ((Below.refl _ _).alloc (Nat.le_refl _) (.cells #[.int .i64 (r6 : Int), .int .i64 (128 + (r7 : Int)), .int .i64 (240 + (r8 : Int)), .int .i64 (r9 : Int)] 2))
     go_wp2_with fail
     go_at_call 71
     refine (Draw.below_any 4 _ hdl (by omega)).mono ?_
     rintro e w10 ⟨r10, rfl, hr10, hon10, hd10⟩
     have ho10 := hol.onto hon10 (fun e => by have := (hol.lt _ e).1; omega)
     have hlit10 := hlit.onto hon10 (fun e => by have := (hlit.lt _ e).1; omega)
     obtain ⟨z, hz, hzb⟩ : ∃ z : Int, w10.cell? ⟨w9.heap.size, r10, none⟩ = some (.int .i64 z) ∧ bok z = true := by
      refine ⟨_, hlit10.cellAt (j := r10) (by simp; omega), ?_⟩
      have h4 : r10 = 0 ∨ r10 = 1 ∨ r10 = 2 ∨ r10 = 3 := by omega
      rcases h4 with rfl | rfl | rfl | rfl <;> simp [bok] <;> omega
     have hzb' := xG hzb
     have hr10' : r10 < 4 := by omega
     clear hol hdl hlit hlit10 ho9 hd9
     go_wp2_with (first
      | (at_builtin; refine app rfl (.tmp 40) (.tmp 56) rfl base (l ++ [(r2 : Int)]) [z] (ho10.below ((Below.refl _ _).alloc (Nat.le_refl _) _)) (zHp _ _ [z] rfl (by simp [maxLen])) (by simp; omega) (by have := hbs _ hd10; simp; omega) ?_; intro v11 w11 ho11 hg11; have hd11 := zB7 (hd10.alloc (.cells #[.int .i64 z] 2)) hOld hg11 (fun j hj => by have := (ho10.lt j hj).1; have := HB.out; omega)))
     go_roundw
     case rel => exact ⟨_, k - 1, by go_num, by omega, by simp; omega, .inr (by simp), by rw [List.all_append, hall4]; simp [hzb], ho11, hd11⟩
     case measure => simp [intOf]; omega
    ·go_wp2_with fail
     go_roundw
     case rel => exact ⟨_, k - 1, by go_num, by omega, by simp; omega, .inr (by simp), hall4, ho5, hd5⟩
     case measure => simp [intOf]; omega
   ·go_wp2_with fail
    refine zCt (by kernel_rfl) (by kernel_rfl) 14 (by decide) (fun bb W => qI p a len cap w W ∧ (∀ k, u3.ownBlock = some k → k < W.heap.size) ∧ (bb = false → Own base W u3 l)) (zTj base p u3 l) (zU2 base p u3 l) (zRe base p u3 l hpb (by kernel_rfl)) ⟨hd3.drewN 1, fun q hq => (ho3.lt q hq).2, fun _ => ho3⟩ ?step ?done
    case step =>
     intro L ix o A W hi hI hL hd
     have hin : ix < 16 := qB hi
     have hsz : A.tmps.size = 66 := hI.size
     have hg := hI.g
     rcases ix with _ | _ | _ | _ | _ | _ | _ | _ | _ | _ | _ | _ | _ | _ | _ | _ | ix
     ·cases hi; have e : A.eval (.tmp 3) = u3 := hI.rest 3 (fun j hj e => by
       rcases j with _ | _ | _ | _ | _ | _ | _ | _ | _ | _ | _ | _ | _ | _ | _ | _ | j
       ·exact absurd e (by simp)
       ·exact absurd e (by simp)
       ·exact absurd e (by simp)
       ·exact absurd e (by simp)
       ·exact absurd e (by simp)
       ·exact absurd e (by simp)
       ·exact absurd e (by simp)
       ·exact absurd e (by simp)
       ·exact absurd e (by simp)
       ·exact absurd e (by simp)
       ·exact absurd e (by simp)
       ·exact absurd e (by simp)
       ·exact absurd e (by simp)
       ·exact absurd e (by simp)
       ·exact absurd e (by simp)
       ·have h0 := hI.closed 15 _ 0 rfl hj (List.contains_iff_mem.1 (by kernel_rfl))
        exact absurd (hL.symm.trans h0) (by simp)
       ·exact absurd e (by simp))
      exact am rfl rfl rfl ⟨_, rfl, (zG _ _ _ (by omega)).trans e, ⟨hg.1, hg.2.1, fun e => (id (hg.2.2 (by simpa using e)))⟩, RC.onto (by omega) (Onto.refl _ _)⟩
     ·cases hi; have e : A.eval (.tmp 0) = .pointer (some ⟨p, 0, none⟩) := (hI.ol 0 rfl)
      exact am rfl rfl rfl ⟨_, rfl, (zG _ _ _ (by omega)).trans e, ⟨hg.1, hg.2.1, fun e => (id (hg.2.2 (by simpa using e)))⟩, RC.onto (by omega) (Onto.refl _ _)⟩
     ·cases hi; have e0 : A.eval (.tmp 19) = .pointer (some ⟨p, 0, none⟩) := (show (at_ A 19) = .pointer (some ⟨p, 0, none⟩) from hI.get hd 1 rfl (by kernel_rfl))
      refine zC rfl rfl (zS rfl Tryz.func71 (by kernel_rfl) (by kernel_rfl) ?_)
      simp only [List.map_cons, List.map_nil, e0]
      refine (Draw.below_any 256 W hg.1 (by omega)).mono ?_
      rintro e w5 ⟨r, rfl, hr5, ho5, hdr5⟩
      exact ⟨_, rfl, _, rfl, ⟨r, zG _ _ _ (by omega), hr5⟩, ⟨hdr5, fun q hq => Nat.lt_of_lt_of_le (hg.2.1 q hq) ho5.size, fun e => ((fun (x : Own base W u3 l) => x.onto ho5 (fun e => by have := (x.lt _ e).1; omega)) (hg.2.2 (by simpa using e)))⟩, RC.onto (by omega) ho5⟩
     ·cases hi; obtain ⟨r2, er2, hr2⟩ := (show IX 256 (at_ A 20) from hI.get hd 2 rfl (by kernel_rfl))
      have ev2 : A.eval (.tmp 20) = .int .i64 (r2 : Int) := er2
      refine zC rfl rfl (zF7 (parts := [(0, .const (.int .i64 128)), (1, .const (.int .i64 129)), (2, .tmp 20)]) (vals := [(0, .int .i64 128), (1, .int .i64 129), (2, .int .i64 (r2 : Int))]) (cs := #[.int .i64 128, .int .i64 129, .int .i64 (r2 : Int)]) rfl zBq zD5 (by simp only [List.map_cons, List.map_nil, ev2]; rfl) (by omega) (by omega) (by kernel_rfl) ⟨_, rfl, ?_, ⟨hg.1.alloc _, fun q hq => by have := hg.2.1 q hq; simp; omega, fun e => ((fun (x : Own base W u3 l) => x.below ((Below.refl _ _).alloc (Nat.le_refl _) _)) (hg.2.2 (by simpa using e)))⟩, RC.onto (by omega) ((Onto.refl _ _).alloc _)⟩)
      have e' : ∀ q, at_ (A.put (some 21) q) 21 = q := fun q => zG _ _ _ (by omega)
      show LB base u3 3 (at_ (A.put (some 21) _) 21) _
      rw [e']
      have hsb := hbs W hg.1
      exact zNm #[.int .i64 128, .int .i64 129, .int .i64 (r2 : Int)] [128, 129, (r2 : Int)] rfl (by simp [bok]; omega) (by simp [maxLen]) (by omega) hg.2.1
     ·cases hi; have e : A.eval (.tmp 0) = .pointer (some ⟨p, 0, none⟩) := (hI.ol 0 rfl)
      exact am rfl rfl rfl ⟨_, rfl, (zG _ _ _ (by omega)).trans e, ⟨hg.1, hg.2.1, fun e => (id (hg.2.2 (by simpa using e)))⟩, RC.onto (by omega) (Onto.refl _ _)⟩
     ·cases hi; have e0 : A.eval (.tmp 22) = .pointer (some ⟨p, 0, none⟩) := (show (at_ A 22) = .pointer (some ⟨p, 0, none⟩) from hI.get hd 4 rfl (by kernel_rfl))
      refine zC rfl rfl (zS rfl Tryz.func71 (by kernel_rfl) (by kernel_rfl) ?_)
      simp only [List.map_cons, List.map_nil, e0]
      refine (Draw.below_any 3 W hg.1 (by omega)).mono ?_
      rintro e w5 ⟨r, rfl, hr5, ho5, hdr5⟩
      exact ⟨_, rfl, _, rfl, ⟨r, zG _ _ _ (by omega), hr5⟩, ⟨hdr5, fun q hq => Nat.lt_of_lt_of_le (hg.2.1 q hq) ho5.size, fun e => ((fun (x : Own base W u3 l) => x.onto ho5 (fun e => by have := (x.lt _ e).1; omega)) (hg.2.2 (by simpa using e)))⟩, RC.onto (by omega) ho5⟩
     ·cases hi; obtain ⟨r, er, hr⟩ := (show IX 3 (at_ A 23) from hI.get hd 5 rfl (by kernel_rfl))
      obtain ⟨b, c, eb, hpb⟩ := ((show LB base u3 3 (at_ A 21) W from hI.get hd 3 rfl (by kernel_rfl))).at (r := r) (by omega)
      refine zC rfl rfl (zCf rfl zBq zBb (show A.eval (.tmp 21) = _ from eb) (show A.eval (.tmp 23) = _ from er) (by omega) ⟨_, rfl, ?_, ⟨hg.1, hg.2.1, fun e => (id (hg.2.2 (by simpa using e)))⟩, RC.onto (by omega) (Onto.refl _ _)⟩)
      have e' : ∀ q, at_ (A.put (some 24) q) 24 = q := fun q => zG _ _ _ (by omega)
      show PB base u3 (at_ (A.put (some 24) _) 24) _
      rw [e']
      exact hpb
     ·cases hi; obtain ⟨b, r, z, eb, hc, hz0, hz1, _⟩ := (show PB base u3 (at_ A 24) W from hI.get hd 6 rfl (by kernel_rfl))
      exact zC rfl rfl (zN rfl Tryz.underlying2 (show A.eval (.tmp 24) = _ from eb) hc ⟨_, rfl, ⟨z, zG _ _ _ (by omega), hz0, hz1⟩, ⟨hg.1, hg.2.1, fun e => (id (hg.2.2 (by simpa using e)))⟩, RC.onto (by omega) (Onto.refl _ _)⟩)
     ·cases hi; refine zC rfl rfl (zF7 (parts := [(0, .const (.int .i64 240)), (1, .const (.int .i64 241)), (2, .const (.int .i64 245)), (3, .const (.int .i64 247)), (4, .const (.int .i64 249))]) (vals := [(0, .int .i64 240), (1, .int .i64 241), (2, .int .i64 245), (3, .int .i64 247), (4, .int .i64 249)]) (cs := #[.int .i64 240, .int .i64 241, .int .i64 245, .int .i64 247, .int .i64 249]) rfl zBq zD5 (by simp only [List.map_cons, List.map_nil]; rfl) (by omega) (by omega) (by kernel_rfl) ⟨_, rfl, ?_, ⟨hg.1.alloc _, fun q hq => by have := hg.2.1 q hq; simp; omega, fun e => ((fun (x : Own base W u3 l) => x.below ((Below.refl _ _).alloc (Nat.le_refl _) _)) (hg.2.2 (by simpa using e)))⟩, RC.onto (by omega) ((Onto.refl _ _).alloc _)⟩)
      have e' : ∀ q, at_ (A.put (some 26) q) 26 = q := fun q => zG _ _ _ (by omega)
      show LB base u3 5 (at_ (A.put (some 26) _) 26) _
      rw [e']
      have hsb := hbs W hg.1
      exact zNm #[.int .i64 240, .int .i64 241, .int .i64 245, .int .i64 247, .int .i64 249] [240, 241, 245, 247, 249] rfl (by simp [bok]) (by simp [maxLen]) (by omega) hg.2.1
     ·cases hi; have e : A.eval (.tmp 0) = .pointer (some ⟨p, 0, none⟩) := (hI.ol 0 rfl)
      exact am rfl rfl rfl ⟨_, rfl, (zG _ _ _ (by omega)).trans e, ⟨hg.1, hg.2.1, fun e => (id (hg.2.2 (by simpa using e)))⟩, RC.onto (by omega) (Onto.refl _ _)⟩
     ·cases hi; have e0 : A.eval (.tmp 27) = .pointer (some ⟨p, 0, none⟩) := (show (at_ A 27) = .pointer (some ⟨p, 0, none⟩) from hI.get hd 9 rfl (by kernel_rfl))
      refine zC rfl rfl (zS rfl Tryz.func71 (by kernel_rfl) (by kernel_rfl) ?_)
      simp only [List.map_cons, List.map_nil, e0]
      refine (Draw.below_any 5 W hg.1 (by omega)).mono ?_
      rintro e w5 ⟨r, rfl, hr5, ho5, hdr5⟩
      exact ⟨_, rfl, _, rfl, ⟨r, zG _ _ _ (by omega), hr5⟩, ⟨hdr5, fun q hq => Nat.lt_of_lt_of_le (hg.2.1 q hq) ho5.size, fun e => ((fun (x : Own base W u3 l) => x.onto ho5 (fun e => by have := (x.lt _ e).1; omega)) (hg.2.2 (by simpa using e)))⟩, RC.onto (by omega) ho5⟩
     ·cases hi; obtain ⟨r, er, hr⟩ := (show IX 5 (at_ A 28) from hI.get hd 10 rfl (by kernel_rfl))
      obtain ⟨b, c, eb, hpb⟩ := ((show LB base u3 5 (at_ A 26) W from hI.get hd 8 rfl (by kernel_rfl))).at (r := r) (by omega)
      refine zC rfl rfl (zCf rfl zBq zBb (show A.eval (.tmp 26) = _ from eb) (show A.eval (.tmp 28) = _ from er) (by omega) ⟨_, rfl, ?_, ⟨hg.1, hg.2.1, fun e => (id (hg.2.2 (by simpa using e)))⟩, RC.onto (by omega) (Onto.refl _ _)⟩)
      have e' : ∀ q, at_ (A.put (some 29) q) 29 = q := fun q => zG _ _ _ (by omega)
      show PB base u3 (at_ (A.put (some 29) _) 29) _
      rw [e']
      exact hpb
     ·cases hi; obtain ⟨b, r, z, eb, hc, hz0, hz1, _⟩ := (show PB base u3 (at_ A 29) W from hI.get hd 11 rfl (by kernel_rfl))
      exact zC rfl rfl (zN rfl Tryz.underlying2 (show A.eval (.tmp 29) = _ from eb) hc ⟨_, rfl, ⟨z, zG _ _ _ (by omega), hz0, hz1⟩, ⟨hg.1, hg.2.1, fun e => (id (hg.2.2 (by simpa using e)))⟩, RC.onto (by omega) (Onto.refl _ _)⟩)
     ·cases hi; obtain ⟨r1, er1, hr1, hs1⟩ := (show BY (at_ A 25) from hI.get hd 7 rfl (by kernel_rfl))
      have ev1 : A.eval (.tmp 25) = .int .i64 r1 := er1
      obtain ⟨r3, er3, hr3, hs3⟩ := (show BY (at_ A 30) from hI.get hd 12 rfl (by kernel_rfl))
      have ev3 : A.eval (.tmp 30) = .int .i64 r3 := er3
      refine zC rfl rfl (zF7 (parts := [(0, .const (.int .i64 1)), (1, .tmp 25), (2, .const (.int .i64 6)), (3, .tmp 30)]) (vals := [(0, .int .i64 1), (1, .int .i64 r1), (2, .int .i64 6), (3, .int .i64 r3)]) (cs := #[.int .i64 1, .int .i64 r1, .int .i64 6, .int .i64 r3]) rfl zBq zD5 (by simp only [List.map_cons, List.map_nil, ev1, ev3]; rfl) (by omega) (by omega) (by kernel_rfl) ⟨_, rfl, ?_, ⟨hg.1.alloc _, fun q hq => by have := hg.2.1 q hq; simp; omega, fun e => ((fun (x : Own base W u3 l) => x.below ((Below.refl _ _).alloc (Nat.le_refl _) _)) (hg.2.2 (by simpa using e)))⟩, RC.onto (by omega) ((Onto.refl _ _).alloc _)⟩)
      have e' : ∀ q, at_ (A.put (some 31) q) 31 = q := fun q => zG _ _ _ (by omega)
      show LB base u3 4 (at_ (A.put (some 31) _) 31) _
      rw [e']
      have hsb := hbs W hg.1
      exact zNm #[.int .i64 1, .int .i64 r1, .int .i64 6, .int .i64 r3] [1, r1, 6, r3] rfl (by simp [bok]; omega) (by simp [maxLen]) (by omega) hg.2.1
     ·cases hi; have e18 : A.eval (.tmp 18) = u3 := (show (at_ A 18) = u3 from hI.get hd 0 rfl (by kernel_rfl))
      obtain ⟨l4, h41, h42, h43, h44⟩ := (show LB base u3 4 (at_ A 31) W from hI.get hd 13 rfl (by kernel_rfl))
      have hown := hg.2.2 hL
      have hsb := hbs W hg.1
      refine zC rfl rfl (zU5 (.tmp 18) (.tmp 31) rfl base l l4 (by rw [e18]; exact hown) h43.sl (by omega) (by omega) (hbs W hg.1) ?_)
      intro u3' W' ho' hg'
      rw [e18] at hg'
      have e' : at_ (A.put (some 32) u3') 32 = u3' := zG _ _ _ (by omega)
      refine ⟨_, rfl, ?_, ⟨?_, fun q hq => Nat.lt_of_lt_of_le (hg.2.1 q hq) hg'.size, ?_⟩, RC.app hg'⟩
      ·refine ⟨l ++ l4, ?_, by simp [h41], by rw [List.all_append, hall, h42]; rfl⟩
       show Own base W' (at_ (A.put (some 32) u3') 32) _
       rw [e']; exact ho'
      ·exact zB7 hg.1 hOld hg' (fun k hk => by have := (hown.lt k hk).1; have := HB.out; omega)
      ·intro e; simp at e
     ·cases hi; exact zC rfl rfl (qC rfl ⟨_, rfl, (zG _ _ _ (by omega)).trans (show at_ A 32 = at_ (A.put (some 3) _) 32 from (jA _ _ _ _ (by simp)).symm), ⟨hg.1, hg.2.1, fun e => (id (hg.2.2 (by simpa using e)))⟩, RC.onto (by omega) (Onto.refl _ _)⟩)
     omega
    case done =>
     intro A W hI
     have hg := hI.g
     have t14 : ∃ l2 : List Int, Own base W (at_ A 32) l2 ∧ l2.length = l.length + 4 ∧ l2.all bok = true := hI.told 14 _ rfl rfl
     have t15 : (at_ A 3) = (at_ A 32) := hI.told 15 _ rfl rfl
     have e0 : A.tmps.getD 0 undef = .pointer (some ⟨p, 0, none⟩) := hI.old 0 (by kernel_rfl)
     have e1 : A.tmps.getD 1 undef = undef := hI.old 1 (by kernel_rfl)
     have e2 : A.tmps.getD 2 undef = .slice none 0 0 := hI.old 2 (by kernel_rfl)
     have e4 : A.tmps.getD 4 undef = .int .i64 (k : Int) := hI.old 4 (by kernel_rfl)
     have e6 : A.tmps.getD 6 undef = .slice (some ⟨w.heap.size, 0, none⟩) 0 0 := hI.old 6 (by kernel_rfl)
     have e7 : A.tmps.getD 7 undef = .pointer (some ⟨p, 0, none⟩) := hI.old 7 (by kernel_rfl)
     have e8 : A.tmps.getD 8 undef = .int .i64 (r1 : Int) := hI.old 8 (by kernel_rfl)
     have e9 : A.tmps.getD 9 undef = .int .i64 (3 + (r1 : Int)) := hI.old 9 (by kernel_rfl)
     have e58 : A.tmps.getD 58 undef = undef := hI.old 58 (by kernel_rfl)
     have e59 : A.tmps.getD 59 undef = undef := hI.old 59 (by kernel_rfl)
     have e60 : A.tmps.getD 60 undef = undef := hI.old 60 (by kernel_rfl)
     have e61 : A.tmps.getD 61 undef = undef := hI.old 61 (by kernel_rfl)
     have e62 : A.tmps.getD 62 undef = undef := hI.old 62 (by kernel_rfl)
     have e63 : A.tmps.getD 63 undef = undef := hI.old 63 (by kernel_rfl)
     have e64 : A.tmps.getD 64 undef = undef := hI.old 64 (by kernel_rfl)
     have e65 : A.tmps.getD 65 undef = undef := hI.old 65 (by kernel_rfl)
     obtain ⟨l2, ho2, hl2, hb2⟩ := t14
     have e3 : A.tmps.getD 3 undef = at_ A 3 := rfl
     have ho4 : Own base W (at_ A 3) l2 := by rw [show at_ A 3 = at_ A 32 from t15]; exact ho2
     clear t15 ho2
     generalize at_ A 3 = v3 at ho4 e3
     have hA := jC A 66 hI.size
     have hde : A.defers = [] := hI.defers
     rw [hde, show List.range 66 = [0, 1, 2, 3, 4, 5, 6, 7, 8, 9, 10, 11, 12, 13, 14, 15, 16, 17, 18, 19, 20, 21, 22, 23, 24, 25, 26, 27, 28, 29, 30, 31, 32, 33, 34, 35, 36, 37, 38, 39, 40, 41, 42, 43, 44, 45, 46, 47, 48, 49, 50, 51, 52, 53, 54, 55, 56, 57, 58, 59, 60, 61, 62, 63, 64, 65] from rfl] at hA
     simp only [List.map_cons, List.map_nil, e0, e1, e2, e4, e6, e7, e8, e9, e58, e59, e60, e61, e62, e63, e64, e65, e3] at hA
     rw [hA]
     clear hA e0 e1 e2 e4 e6 e7 e8 e9 e58 e59 e60 e61 e62 e63 e64 e65 e3 hI hde
     have hdr := hg.1
     clear hg
     go_wp2_with fail
     go_roundw
     case rel => exact ⟨l2, k - 1, by go_num, by omega, by omega, .inr (by omega), hb2, ho4, hdr⟩
     case measure => simp [intOf]; omega
  ·have hl1 : 1 ≤ l.length := by omega
   go_wp2_with fail
   go_at_call 67
   refine (Draw.vS 2 _ hd (by omega)).mono ?_
   rintro e w3 ⟨r3, rfl, hon3, hd3⟩
   have ho3 := ho.onto hon3 (fun e => by have := (ho.lt _ e).1; omega)
   clear ho hd
   cases r3
   ·go_wp2_with fail
    go_ret
    exact ⟨_, _, rfl, ho3, hl1, by omega, hall, hend _ hd3⟩
   ·go_wp2_with fail
    go_at_call 71
    refine (Draw.below_any 6 _ hd3 (by omega)).mono ?_
    rintro e w4 ⟨r4, rfl, hr4, hon4, hd4⟩
    have ho4 := ho3.onto hon4 (fun e => by have := (ho3.lt _ e).1; omega)
    clear ho3 hd3
    go_wp2_with (first
     | (at_builtin; refine app rfl (.tmp 60) (.tmp 63) rfl base l [19, (r4 : Int)] (ho4.below ((Below.refl _ _).alloc (Nat.le_refl _) _)) (zHp _ _ [19, (r4 : Int)] rfl (by simp [maxLen])) (by simp; omega) (by have := hbs _ hd4; simp; omega) ?_; intro v5 w5 ho5 hg5; have hd5 := zB7 (hd4.alloc (.cells #[.int .i64 19, .int .i64 (r4 : Int)] 2)) hOld hg5 (fun j hj => by have := (ho4.lt j hj).1; have := HB.out; omega)))
    go_ret
    exact ⟨_, _, rfl, ho5, by simp, by simp; omega, by rw [List.all_append, hall]; simp [bok]; omega, hend _ hd5⟩
def zGv (k : Nat) : Bool := [2, 3, 4, 5, 11, 12, 13, 14, 15, 16, 17, 18, 21, 22, 24].contains k
def zIs (k : Nat) : Bool := [6, 7, 8, 9, 10].contains k
theorem zTp (M : Mc) (x y : Value) (k : Nat) (z : Int) (hk : zGv k = true) : ∃ M' : Mc, (M.cells x y).setIfInBounds k (.int .i64 z) = M'.cells x y ∧ (0 ≤ M.pc ∧ M.pc ≤ 255 → (k = 4 → 0 ≤ z ∧ z ≤ 255) → 0 ≤ M'.pc ∧ M'.pc ≤ 255) := by
 simp [zGv] at hk
 rcases hk with rfl | rfl | rfl | rfl | rfl | rfl | rfl | rfl | rfl | rfl | rfl | rfl | rfl | rfl | rfl
 ·exact ⟨{ M with a := z }, rfl, fun h _ => h⟩
 ·exact ⟨{ M with b := z }, rfl, fun h _ => h⟩
 ·exact ⟨{ M with pc := z }, rfl, fun _ h => h rfl⟩
 ·exact ⟨{ M with sp := z }, rfl, fun h _ => h⟩
 ·exact ⟨{ M with fl := z }, rfl, fun h _ => h⟩
 ·exact ⟨{ M with ms := z }, rfl, fun h _ => h⟩
 ·exact ⟨{ M with ky := z }, rfl, fun h _ => h⟩
 ·exact ⟨{ M with t := { M.t with c := z } }, rfl, fun h _ => h⟩
 ·exact ⟨{ M with t := { M.t with v := z } }, rfl, fun h _ => h⟩
 ·exact ⟨{ M with t := { M.t with s := z } }, rfl, fun h _ => h⟩
 ·exact ⟨{ M with t := { M.t with m := z } }, rfl, fun h _ => h⟩
 ·exact ⟨{ M with p := { M.p with d := z } }, rfl, fun h _ => h⟩
 ·exact ⟨{ M with p := { M.p with n := z } }, rfl, fun h _ => h⟩
 ·exact ⟨{ M with p := { M.p with x := z } }, rfl, fun h _ => h⟩
 ·exact ⟨{ M with k := z }, rfl, fun h _ => h⟩
theorem zQu (M : Mc) (x y : Value) (k : Nat) (z : Bool) (hk : zIs k = true) : ∃ M' : Mc, (M.cells x y).setIfInBounds k (.bool z) = M'.cells x y ∧ M'.pc = M.pc := by
 simp [zIs] at hk
 rcases hk with rfl | rfl | rfl | rfl | rfl
 ·exact ⟨{ M with z := z }, rfl, rfl⟩
 ·exact ⟨{ M with c := z }, rfl, rfl⟩
 ·exact ⟨{ M with e := z }, rfl, rfl⟩
 ·exact ⟨{ M with h := z }, rfl, rfl⟩
 ·exact ⟨{ M with s := z }, rfl, rfl⟩
theorem zUh (M : Mc) (x y : Value) (k : Nat) (hk : zGv k = true) : ∃ z : Int, (M.cells x y)[k]? = some (.int .i64 z) := by
 simp [zGv] at hk
 rcases hk with rfl | rfl | rfl | rfl | rfl | rfl | rfl | rfl | rfl | rfl | rfl | rfl | rfl | rfl | rfl <;> exact ⟨_, rfl⟩
theorem zR5 {k : Nat} (hk : zGv k = true) : decide (k < 25) = true := by
 simp [zGv] at hk
 rcases hk with rfl | rfl | rfl | rfl | rfl | rfl | rfl | rfl | rfl | rfl | rfl | rfl | rfl | rfl | rfl <;> decide
theorem zPx {k : Nat} (hk : zIs k = true) : decide (k < 25) = true := by
 simp [zIs] at hk
 rcases hk with rfl | rfl | rfl | rfl | rfl <;> decide
abbrev MAny (w : World) (g : Nat) (x y : Value) : Prop := ∃ M : Mc, MRow w g x y M ∧ 0 ≤ M.pc ∧ M.pc ≤ 255
section
variable {ops : Array Oper} {rest : List Oper} {o : Oper} {a : Act} {w : World} {Q : Exit → Act → World → Prop} {x y : Operand} {g k : Nat} {vr va : Value}
theorem zDd {z : Int} (hgd : o.guard = none) (ho : o.op = .store 2 x y) (hx : a.eval x = .pointer (some ⟨g, k, none⟩)) (hy : a.eval y = .int .i64 z) (hr : MAny w g vr va) (hk : zGv k = true) (hz : k = 4 → 0 ≤ z ∧ z ≤ 255)
  (h : ∀ w', MAny w' g vr va → Onto g w w' → wpList Tryz.prog ops Q rest (a.put o.dst undef) w') : wpList Tryz.prog ops Q (o :: rest) a w := by
 obtain ⟨M, hM, hp⟩ := hr
 obtain ⟨M', e, hp'⟩ := zTp M vr va k z hk
 exact qV hgd ho hx hy hM (zR5 hk) e (fun w' r o _ => h w' ⟨M', r, hp' hp hz⟩ o)
theorem zTn {z : Bool} (hgd : o.guard = none) (ho : o.op = .store 4 x y) (hx : a.eval x = .pointer (some ⟨g, k, none⟩)) (hy : a.eval y = .bool z) (hr : MAny w g vr va) (hk : zIs k = true)
  (h : ∀ w', MAny w' g vr va → Onto g w w' → wpList Tryz.prog ops Q rest (a.put o.dst undef) w') : wpList Tryz.prog ops Q (o :: rest) a w := by
 obtain ⟨M, hM, hp⟩ := hr
 obtain ⟨M', e, hp'⟩ := zQu M vr va k z hk
 exact xY hgd ho hx hy hM (zPx hk) e (fun w' r o _ => h w' ⟨M', r, by omega⟩ o)
theorem zLb {t : Tm} (hgd : o.guard = none) (ho : o.op = .store 26 x y) (hx : a.eval x = .pointer (some ⟨g, 14, none⟩)) (hy : a.eval y = t.val) (hr : MAny w g vr va)
  (h : ∀ w', MAny w' g vr va → Onto g w w' → wpList Tryz.prog ops Q rest (a.put o.dst undef) w') : wpList Tryz.prog ops Q (o :: rest) a w := by
 obtain ⟨M, hM, hp⟩ := hr
 exact zQp hgd ho hx hy hM (fun w' r o _ => h w' ⟨_, r, hp⟩ o)
theorem zLe {s : Sr} (hgd : o.guard = none) (ho : o.op = .store 28 x y) (hx : a.eval x = .pointer (some ⟨g, 18, none⟩)) (hy : a.eval y = s.val) (hr : MAny w g vr va)
  (h : ∀ w', MAny w' g vr va → Onto g w w' → wpList Tryz.prog ops Q rest (a.put o.dst undef) w') : wpList Tryz.prog ops Q (o :: rest) a w := by
 obtain ⟨M, hM, hp⟩ := hr
 exact zFb hgd ho hx hy hM (fun w' r o _ => h w' ⟨_, r, hp⟩ o)
theorem zHe (hgd : o.guard = none) (ho : o.op = .load 2 x) (hx : a.eval x = .pointer (some ⟨g, k, none⟩)) (hr : MAny w g vr va) (hk : zGv k = true)
  (h : ∀ z : Int, wpList Tryz.prog ops Q rest (a.put o.dst (.int .i64 z)) w) : wpList Tryz.prog ops Q (o :: rest) a w := by
 obtain ⟨M, hM, hp⟩ := hr
 obtain ⟨z, e⟩ := zUh M vr va k hk
 exact ld_i hgd ho hx hM e (h z)
end
structure Pm (w : World) (p : Nat) (a : Option Addr) (len : Nat) (base g gr : Nat) (x y : Value) : Prop where
 old : OldC p a len w
 n0 : p < w.heap.size
 n1 : w.heap.size ≤ gr
 n2 : gr < base
 n3 : base ≤ g
 bx : ∀ k, x.ownBlock = some k → base ≤ k ∧ k < g
 b_y : ∀ k, y.ownBlock = some k → base ≤ k ∧ k < g
 ap : Apart x y
structure Md (w : World) (p : Nat) (a : Option Addr) (len cap : Nat) (base g gr : Nat) (x y : Value) (W : World) : Prop where
 drawn : qI p a len cap w W
 row : MAny W g x y
 res : ∃ x' y', ∃ M : Mc, MRow W gr x' y' M
 o1 : ∃ l : List Int, 2 ≤ l.length ∧ l.length ≤ 128 ∧ Own base W x l
 o2 : ∃ l : List Int, l.length = 64 ∧ Own base W y l
section
variable {w W W' : World} {p : Nat} {a : Option Addr} {len cap base g gr b n c : Nat} {x y : Value}
theorem Md.onto (h : Md w p a len cap base g gr x y W) (hP : Pm w p a len base g gr x y) (ho : Onto p W W') (hd : qI p a len cap w W') : Md w p a len cap base g gr x y W' := by
 obtain ⟨_, ⟨M, r, hp⟩, ⟨x', y', M', r'⟩, ⟨l1, a1, a2, h1⟩, ⟨l2, b1, h2⟩⟩ := h
 have := hP.n0; have := hP.n1; have := hP.n2; have := hP.n3
 exact ⟨hd, ⟨M, r.onto ho (by omega), hp⟩, ⟨x', y', M', r'.onto ho (by omega)⟩, ⟨l1, a1, a2, h1.onto ho (fun e => by have := (h1.lt _ e).1; omega)⟩, ⟨l2, b1, h2.onto ho (fun e => by have := (h2.lt _ e).1; omega)⟩⟩
theorem Md.field (h : Md w p a len cap base g gr x y W) (hP : Pm w p a len base g gr x y) (ho : Onto g W W') (hr : MAny W' g x y) : Md w p a len cap base g gr x y W' := by
 obtain ⟨hd, _, ⟨x', y', M', r'⟩, ⟨l1, a1, a2, h1⟩, ⟨l2, b1, h2⟩⟩ := h
 have := hP.n0; have := hP.n1; have := hP.n2; have := hP.n3
 exact ⟨zQ hd ho (by omega) hP.old, hr, ⟨x', y', M', r'.onto ho (by omega)⟩, ⟨l1, a1, a2, h1.onto ho (fun e => by have := hP.bx _ e; omega)⟩, ⟨l2, b1, h2.onto ho (fun e => by have := hP.b_y _ e; omega)⟩⟩
theorem Md.drew (h : Md w p a len cap base g gr x y W) : Md w p a len cap base g gr x y W.drew := by
 obtain ⟨hd, ⟨M, r, hp⟩, ⟨x', y', M', r'⟩, ⟨l1, a1, a2, h1⟩, ⟨l2, b1, h2⟩⟩ := h
 exact ⟨hd.drewN 1, ⟨M, r.drewN 1, hp⟩, ⟨x', y', M', r'.drewN 1⟩, ⟨l1, a1, a2, h1.drewN 1⟩, ⟨l2, b1, h2.drewN 1⟩⟩
theorem Md.alloc (h : Md w p a len cap base g gr x y W) (ob : Obj) : Md w p a len cap base g gr x y (W.alloc ob) := by
 obtain ⟨hd, ⟨M, r, hp⟩, ⟨x', y', M', r'⟩, ⟨l1, a1, a2, h1⟩, ⟨l2, b1, h2⟩⟩ := h
 have hb := (Below.refl W.heap.size W).alloc (Nat.le_refl _) ob
 exact ⟨hd.alloc ob, ⟨M, r.alloc ob, hp⟩, ⟨x', y', M', r'.alloc ob⟩, ⟨l1, a1, a2, h1.below hb⟩, ⟨l2, b1, h2.below hb⟩⟩
theorem Md.cellY (h : Md w p a len cap base g gr x (.slice (some ⟨b, 0, none⟩) n c) W) (hP : Pm w p a len base g gr x (.slice (some ⟨b, 0, none⟩) n c)) (j : Nat) (z : Int) : Md w p a len cap base g gr x (.slice (some ⟨b, 0, none⟩) n c) (W.setCell ⟨b, j, none⟩ (.int .i64 z)) := by
 obtain ⟨hd, ⟨M, r, hp⟩, ⟨x', y', M', r'⟩, ⟨l1, a1, a2, h1⟩, ⟨l2, b1, h2⟩⟩ := h
 have := hP.n0; have := hP.n1; have := hP.n2; have := hP.n3
 have hb := hP.b_y b rfl
 have ho : Onto b W (W.setCell ⟨b, j, none⟩ (.int .i64 z)) := (Onto.refl b W).setCell rfl _
 exact ⟨zQ hd ho (by omega) hP.old, ⟨M, r.onto ho (by omega), hp⟩, ⟨x', y', M', r'.onto ho (by omega)⟩, ⟨l1, a1, a2, h1.onto ho (fun e => hP.ap b e rfl)⟩, ⟨l2.set j z, by simp [b1], (h2.store j z).1⟩⟩
theorem Md.cellX (h : Md w p a len cap base g gr (.slice (some ⟨b, 0, none⟩) n c) y W) (hP : Pm w p a len base g gr (.slice (some ⟨b, 0, none⟩) n c) y) (j : Nat) (z : Int) : Md w p a len cap base g gr (.slice (some ⟨b, 0, none⟩) n c) y (W.setCell ⟨b, j, none⟩ (.int .i64 z)) := by
 obtain ⟨hd, ⟨M, r, hp⟩, ⟨x', y', M', r'⟩, ⟨l1, a1, a2, h1⟩, ⟨l2, b1, h2⟩⟩ := h
 have := hP.n0; have := hP.n1; have := hP.n2; have := hP.n3
 have hb := hP.bx b rfl
 have ho : Onto b W (W.setCell ⟨b, j, none⟩ (.int .i64 z)) := (Onto.refl b W).setCell rfl _
 exact ⟨zQ hd ho (by omega) hP.old, ⟨M, r.onto ho (by omega), hp⟩, ⟨x', y', M', r'.onto ho (by omega)⟩, ⟨l1.set j z, by simp; omega, by simp; omega, (h1.store j z).1⟩, ⟨l2, b1, h2.onto ho (fun e => hP.ap b rfl e)⟩⟩
end
theorem zOy {l : List Int} (hb : l.all bok = true) (h1 : 1 ≤ l.length) (h2 : l.length ≤ 127) : xR (l ++ [chk l]) = true := by
 have hc := zV0 l hb
 have hlast : (l ++ [chk l]).getD ((l ++ [chk l]).length - 1) 0 = chk l := by simp [List.getD_eq_getElem?_getD]
 rw [zF2 (by simp; omega) (by simp; omega) (by rw [List.all_append, hb]; simp [hc]), hlast]
 simp
def KPt (b n : Nat) (v : Value) (w : World) : Prop := ∃ r : Nat, v = .pointer (some ⟨b, r, none⟩) ∧ r < n
theorem zM2 (X : Nat → Prop) (b n : Nat) : Bears X (KPt b n) := fun _ _ _ h _ => h
theorem zM8 {o : Oper} {a : Act} {w : World} {K : Act → World → Prop} {Q : Exit → Act → World → Prop} {x y : Operand} {b r : Nat} {z : Int} {old : Value} (ho : o.op = .store 2 x y) (hx : a.eval x = .pointer (some ⟨b, r, none⟩)) (hy : a.eval y = .int .i64 z)
  (hc : w.cell? ⟨b, r, none⟩ = some old) (hf : w.frozen? ⟨b, r, none⟩ = false) (h : K (a.put o.dst undef) (w.setCell ⟨b, r, none⟩ (.int .i64 z))) : o.wp Tryz.prog a w K Q := by
 unfold Oper.wp execOp
 have ht : w.there b r 1 := fun j hj => by
  obtain rfl : j = 0 := by omega
  exact ⟨by simp [hc], hf⟩
 simp only [ho, hx, hy, Instr.storeAt, Instr.sureAddr, Sem.run_bind, Sem.run_pure, Result.andThen_ok, zA6 w b r 2 (.int .i64 z) [.int .i64 z] rfl ht zBb rfl]
 exact h
theorem zM4 (i j : Int) (x y : Operand) (w : World) : (do eqGuard .add 2 x y (.int .i64 i) (.int .i64 j); binOp .add 2 (.int .i64 i) (.int .i64 j) : Sem Value).run Tryz.prog w = .ok (.int .i64 (IntKind.i64.wrap (i + j))) w := by simp [go_sem]
set_option maxRecDepth 100000 in
set_option maxHeartbeats 8000000 in
theorem zNs {w0 : World} {p : Nat} {a : Option Addr} {len cap : Nat} (w : World) (h0 : qI p a len cap w0 w) :
  Calls Tryz.prog 130 #[.pointer (some ⟨p, 0, none⟩)] w fun e w' => ∃ x y M, e = .returned (Mc.val x y M) ∧ (2 ≤ M.rom.length ∧ M.rom.length ≤ 128 ∧ M.ram.length = 64 ∧ Own (w.heap.size + 1) w' x M.rom ∧ Own (w.heap.size + 1) w' y M.ram ∧ Apart x y ∧ 0 ≤ M.pc ∧ M.pc ≤ 255) ∧ Onto p w w' ∧ qI p a len cap w0 w' := by
 have hend : ∀ w', qI p a len cap w w' → Onto p w w' ∧ qI p a len cap w0 w' := fun w' hd => ⟨hd.onto, h0.onto.trans hd.onto, hd.cur⟩
 have h := h0.cur.drawn
 have hOldC : OldC p a len w := ⟨h0.cur.lt, h0.cur.code.lt⟩
 have hpw := h0.cur.lt
 go_enter Tryz.func130, Tryz.ntmps130
 go_wp2_with (refine zR rfl rfl ?_; intro w1 z1 hB1; have l1 := z1.lt)
 go_at_call 183
 refine (zH9 _ (h.below hB1)).mono ?_
 rintro e w2 ⟨v2, l, rfl, ho2, hl1, hl2, hall, hon2, hd2⟩
 have z2 := z1.onto hon2 (by omega)
 have s2 := hon2.size
 go_wp2_with fail
 go_at_call 26
 refine (zNf v2 l _ ho2.sl (by omega)).mono ?_
 rintro e w3 ⟨v3, rfl, ho3, hb3⟩
 have hrom := zOy hall hl1 (by omega)
 have hro : zFc l = l ++ [chk l] := by simp [zFc, hrom]
 rw [hro] at ho3
 have z3 := z2.below hb3
 have hd3 := hd2.below hb3
 have s3 := hb3.size
 go_wp2_with fail
 go_at_call 28
 refine (zG3 v3 (l ++ [chk l]) _ ho3.sl).mono ?_
 rintro e w4 ⟨v4, rfl, ⟨x, y, rfl, hx, hy, hxy⟩, hb4⟩
 have hnm : zH1 (l ++ [chk l]) = Mc.fresh (l ++ [chk l]) := by simp [zH1, hrom]
 rw [hnm] at hx hy
 have z4 := z3.below hb4
 have hd4 := hd3.below hb4
 have s4 := hb4.size
 have hxl := hx.lt
 have hyl := hy.lt
 have ho34 := ho3.below hb4
 obtain ⟨a3, c3, e3, hi3, hm3, _⟩ := ho34.shape
 have hlen3 : (l ++ [chk l]).length = l.length + 1 := by simp
 rw [hlen3] at e3
 subst e3
 rw [hnm]
 have hram : (Mc.fresh (l ++ [chk l])).ram.length = 64 := by simp [Mc.fresh]
 obtain ⟨gy, cy, rfl, hgy1, hgy2, hgy3, hgy4⟩ := hy.block (by omega)
 have hfr : ∀ q, Mc.val x (.slice (some ⟨gy, 0, none⟩) (Mc.fresh (l ++ [chk l])).ram.length cy) q = Mc.val x (.slice (some ⟨gy, 0, none⟩) 64 cy) q := fun q => by rw [hram]
 rw [hram] at hy hyl hxy
 rw [hfr]
 clear hfr
 have HR : Hid ((Mc.fresh (l ++ [chk l])).ram.length = 64) := hram
 clear hram z1 z2 z3 hd2 hd3 ho3 hi3 hm3
 go_wp2_with (first
  | (refine zR rfl rfl ?_; intro w5 z5 hB5; have r5 := z4.below hB5; have x5 := hx.below hB5; have y5 := hy.below hB5; have hd5 := hd4.below hB5; have l5 := z5.lt)
  | (refine zL rfl rfl rfl rfl z5 (zB hx) (zB hy) ?_; rintro w6 z6 o6 -; have hS : Md w p a len cap w3.heap.size w4.heap.size w.heap.size x (.slice (some ⟨gy, 0, none⟩) 64 cy) w6 := ⟨zQ hd5 o6 (by omega) hOldC, ⟨_, z6, Int.le_refl 0, by show (0 : Int) ≤ 255; omega⟩, ⟨_, _, _, r5.onto o6 (by omega)⟩, ⟨_, by simp [Mc.fresh]; omega, by simp [Mc.fresh]; omega, x5.onto o6 (fun e => by have := hxl _ e; omega)⟩, ⟨_, by simp [Mc.fresh], y5.onto o6 (fun e => by have := hyl _ e; omega)⟩⟩; have hP : Pm w p a len w3.heap.size w4.heap.size w.heap.size x (.slice (some ⟨gy, 0, none⟩) 64 cy) := ⟨hOldC, hpw, Nat.le_refl _, by omega, by omega, fun k hk => by have := hxl k hk; omega, fun k hk => by have := hyl k hk; omega, hxy⟩; clear z5 r5 x5 y5 hd5 z6 o6)
   | (go_at_call 71; refine (Draw.below_any _ _ hS.drawn (by omega)).mono ?_; rintro e w9 ⟨r9, rfl, hr9, ho9, hd9⟩; replace hS := hS.onto hP ho9 hd9; clear ho9 hd9)
   | (go_at_call 67; refine (Draw.vS _ _ hS.drawn (by omega)).mono ?_; rintro e w9 ⟨r9, rfl, ho9, hd9⟩; replace hS := hS.onto hP ho9 hd9; clear ho9 hd9)
   | (go_at_call 199; refine (zIb _ hS.drawn).mono ?_; rintro e w9 ⟨t9, rfl, ho9, hd9⟩; replace hS := hS.onto hP ho9 hd9; clear ho9 hd9)
   | (go_at_call 200; refine (zIa _ hS.drawn).mono ?_; rintro e w9 ⟨s9, rfl, ho9, hd9⟩; replace hS := hS.onto hP ho9 hd9; clear ho9 hd9)
   | (refine zHe (k := 14) rfl rfl rfl hS.row rfl ?_; intro z9)
   | (refine zHe (k := 22) rfl rfl rfl hS.row rfl ?_; intro z9; by_cases hz9 : 0 < z9)
   | (refine zDd rfl rfl rfl rfl hS.row rfl (by omega) ?_; intro w8 hr8 o8; replace hS := hS.field hP o8 hr8; clear hr8 o8)
   | (refine zTn rfl rfl rfl rfl hS.row rfl ?_; intro w8 hr8 o8; replace hS := hS.field hP o8 hr8; clear hr8 o8)
   | (refine zLb rfl rfl rfl rfl hS.row ?_; intro w8 hr8 o8; replace hS := hS.field hP o8 hr8; clear hr8 o8)
   | (refine zLe rfl rfl rfl rfl hS.row ?_; intro w8 hr8 o8; replace hS := hS.field hP o8 hr8; clear hr8 o8))
 ·skip
  refine vK (by kernel_rfl) (by kernel_rfl) (fun W => Md w p a len cap w3.heap.size w4.heap.size w.heap.size x (.slice (some ⟨gy, 0, none⟩) 64 cy) W)
   (kinds [KIs (.pointer (some ⟨w4.heap.size, 24, none⟩)), KInt, KInt, KIs (.pointer (some ⟨p, 0, none⟩)), KIdx 12, KInt, KIs (.pointer (some ⟨w4.heap.size, 18, none⟩)), KIs (.pointer (some ⟨w4.heap.size, 22, none⟩)), KAny])
   (Rel fun _ => True) (by kernel_rfl) (jS ?mono) hS.drew ?step ?done
  case mono =>
   intro K hK
   simp only [List.mem_cons, List.not_mem_nil, or_false] at hK
   rcases hK with rfl | rfl | rfl | rfl | rfl | rfl | rfl | rfl | rfl
   all_goals first | exact zO _ _ | exact bears_any _ | exact zCa _ _ | exact zM _
  case step =>
   intro L ix o A W hi hI hL hd
   have hin : ix < 9 := qB hi
   have hsz : A.tmps.size = 100 := hI.size
   have hS := hI.g
   rcases ix with _ | _ | _ | _ | _ | _ | _ | _ | _ | ix
   ·cases hi; have e := hI.ol 5 rfl
    refine zC rfl rfl (qX (v := .pointer (some ⟨w4.heap.size, 24, none⟩)) ?_ ⟨_, rfl, rfl, hS, Rel.refl _ _⟩)
    unfold execOp
    simp only [List.getElem_toArray, List.getElem_cons_zero, List.getElem_cons_succ, e]
    simp [go_sem]
   ·cases hi; have e : A.eval (.tmp 68) = .pointer (some ⟨w4.heap.size, 24, none⟩) := hI.get hd 0 68 rfl (by kernel_rfl)
    obtain ⟨M, hM, hMp⟩ := hS.row
    exact zC rfl rfl (zN rfl Tryz.underlying2 e (cw hM).k ⟨_, rfl, ⟨_, rfl⟩, hS, Rel.refl _ _⟩)
   ·cases hi; obtain ⟨z, ez⟩ : KInt (A.eval (.tmp 69)) W := hI.get hd 1 69 rfl (by kernel_rfl)
    exact zC rfl rfl (qP (vy := .int .i64 1) rfl ez rfl (fun w => zM4 _ _ _ _ w) ⟨_, rfl, ⟨_, rfl⟩, hS, Rel.refl _ _⟩)
   ·cases hi; exact am rfl rfl rfl ⟨_, rfl, (hI.ol 0 rfl), hS, Rel.refl _ _⟩
   ·cases hi; have e0 : A.eval (.tmp 71) = .pointer (some ⟨p, 0, none⟩) := hI.get hd 3 71 rfl (by kernel_rfl)
    refine zC rfl rfl (zS rfl Tryz.func71 (by kernel_rfl) (by kernel_rfl) ?_)
    simp only [List.map_cons, List.map_nil, e0]
    refine (Draw.below_any 12 W hS.drawn (by omega)).mono ?_
    rintro e w5 ⟨r, rfl, hr5, ho5, hdr5⟩
    exact ⟨_, rfl, _, rfl, ⟨r, rfl, hr5⟩, hS.onto hP ho5 hdr5, Rel.onto ho5 trivial⟩
   ·cases hi; obtain ⟨z, ez⟩ : KInt (A.eval (.tmp 70)) W := hI.get hd 2 70 rfl (by kernel_rfl)
    obtain ⟨r, er, _⟩ : KIdx 12 (A.eval (.tmp 72)) W := hI.get hd 4 72 rfl (by kernel_rfl)
    exact zC rfl rfl (qP rfl ez er (fun w => zM4 _ _ _ _ w) ⟨_, rfl, ⟨_, rfl⟩, hS, Rel.refl _ _⟩)
   ·cases hi; have e := hI.ol 5 rfl
    refine zC rfl rfl (qX (v := .pointer (some ⟨w4.heap.size, 18, none⟩)) ?_ ⟨_, rfl, rfl, hS, Rel.refl _ _⟩)
    unfold execOp
    simp only [List.getElem_toArray, List.getElem_cons_zero, List.getElem_cons_succ, e]
    simp [go_sem]
   ·cases hi; have e : A.eval (.tmp 74) = .pointer (some ⟨w4.heap.size, 18, none⟩) := hI.get hd 6 74 rfl (by kernel_rfl)
    refine zC rfl rfl (qX (v := .pointer (some ⟨w4.heap.size, 22, none⟩)) ?_ ⟨_, rfl, rfl, hS, Rel.refl _ _⟩)
    unfold execOp
    simp only [List.getElem_toArray, List.getElem_cons_zero, List.getElem_cons_succ, e]
    simp [go_sem]
   ·cases hi; have e : A.eval (.tmp 75) = .pointer (some ⟨w4.heap.size, 22, none⟩) := hI.get hd 7 75 rfl (by kernel_rfl)
    obtain ⟨z, ez⟩ : KInt (A.eval (.tmp 73)) W := hI.get hd 5 73 rfl (by kernel_rfl)
    obtain ⟨M, hM, hMp⟩ := hS.row
    refine zC rfl rfl (zN2 rfl e ez hM rfl zBb (by rw [Mc.size]; omega) ?_)
    intro W' r0' ho'
    exact ⟨_, rfl, trivial, hS.field hP ho' ⟨{ M with p := { M.p with x := z } }, r0', hMp⟩, Rel.onto ho' trivial⟩
   omega
  case done =>
   intro A W hI
   have hS := hI.g
   have hA := hI.frame [68, 69, 70, 71, 72, 73, 74, 75] (by kernel_rfl)
   rw [hA]
   clear hA hI
   simp only [qJ, List.foldl_cons, List.foldl_nil]
   go_wp2_with (first
    | (go_at_call 71; refine (Draw.below_any _ _ hS.drawn (by omega)).mono ?_; rintro e w9 ⟨r9, rfl, hr9, ho9, hd9⟩; replace hS := hS.onto hP ho9 hd9; clear ho9 hd9))
   go_loopw [7] (fun n wr => ∃ k : Nat, n = .int .i64 k ∧ k ≤ 4 ∧ Md w p a len cap w3.heap.size w4.heap.size w.heap.size x (.slice (some ⟨gy, 0, none⟩) 64 cy) wr) (fun n _ => (intOf n).toNat)
   case atStart => exact ⟨_, rfl, by omega, hS⟩
   case round =>
    clear hS
    obtain ⟨k, rfl, hk4, hS⟩ := hrel
    by_cases hk : 0 < k
    ·go_wp2_with fail
     refine vK (by kernel_rfl) (by kernel_rfl) (fun W => Md w p a len cap w3.heap.size w4.heap.size w.heap.size x (.slice (some ⟨gy, 0, none⟩) 64 cy) W)
      (kinds [KIs (.pointer (some ⟨w4.heap.size, 1, none⟩)), KIs (.slice (some ⟨gy, 0, none⟩) 64 cy), KIs (.pointer (some ⟨p, 0, none⟩)), KIdx 64, KIs (.pointer (some ⟨p, 0, none⟩)), KIdx 256, KPt gy 64, KAny])
      (Rel fun _ => True) (by kernel_rfl) (jS ?mono) hS.drew ?step ?done
     case mono =>
      intro K hK
      simp only [List.mem_cons, List.not_mem_nil, or_false] at hK
      rcases hK with rfl | rfl | rfl | rfl | rfl | rfl | rfl | rfl
      all_goals first | exact zO _ _ | exact bears_any _ | exact zCa _ _ | exact zM2 _ _ _
     case step =>
      intro L ix o A W hi hI hL hd
      have hin : ix < 8 := qB hi
      have hsz : A.tmps.size = 100 := hI.size
      have hS := hI.g
      rcases ix with _ | _ | _ | _ | _ | _ | _ | _ | ix
      ·cases hi; have e := hI.ol 5 rfl
       refine zC rfl rfl (qX (v := .pointer (some ⟨w4.heap.size, 1, none⟩)) ?_ ⟨_, rfl, rfl, hS, Rel.refl _ _⟩)
       unfold execOp
       simp only [List.getElem_toArray, List.getElem_cons_zero, List.getElem_cons_succ, e]
       simp [go_sem]
      ·cases hi; have e : A.eval (.tmp 82) = .pointer (some ⟨w4.heap.size, 1, none⟩) := hI.get hd 0 82 rfl (by kernel_rfl)
       obtain ⟨M, hM, hMp⟩ := hS.row
       exact zC rfl rfl (zDz rfl e (cw hM).va ⟨_, rfl, rfl, hS, Rel.refl _ _⟩)
      ·cases hi; exact am rfl rfl rfl ⟨_, rfl, (hI.ol 0 rfl), hS, Rel.refl _ _⟩
      ·cases hi; have e0 : A.eval (.tmp 84) = .pointer (some ⟨p, 0, none⟩) := hI.get hd 2 84 rfl (by kernel_rfl)
       refine zC rfl rfl (zS rfl Tryz.func71 (by kernel_rfl) (by kernel_rfl) ?_)
       simp only [List.map_cons, List.map_nil, e0]
       refine (Draw.below_any 64 W hS.drawn (by omega)).mono ?_
       rintro e w5 ⟨r, rfl, hr5, ho5, hdr5⟩
       exact ⟨_, rfl, _, rfl, ⟨r, rfl, hr5⟩, hS.onto hP ho5 hdr5, Rel.onto ho5 trivial⟩
      ·cases hi; exact am rfl rfl rfl ⟨_, rfl, (hI.ol 0 rfl), hS, Rel.refl _ _⟩
      ·cases hi; have e0 : A.eval (.tmp 86) = .pointer (some ⟨p, 0, none⟩) := hI.get hd 4 86 rfl (by kernel_rfl)
       refine zC rfl rfl (zS rfl Tryz.func71 (by kernel_rfl) (by kernel_rfl) ?_)
       simp only [List.map_cons, List.map_nil, e0]
       refine (Draw.below_any 256 W hS.drawn (by omega)).mono ?_
       rintro e w5 ⟨r, rfl, hr5, ho5, hdr5⟩
       exact ⟨_, rfl, _, rfl, ⟨r, rfl, hr5⟩, hS.onto hP ho5 hdr5, Rel.onto ho5 trivial⟩
      ·cases hi; have e1 : A.eval (.tmp 83) = .slice (some ⟨gy, 0, none⟩) 64 cy := hI.get hd 1 83 rfl (by kernel_rfl)
       obtain ⟨r, er, hr⟩ : KIdx 64 (A.eval (.tmp 85)) W := hI.get hd 3 85 rfl (by kernel_rfl)
       exact zC rfl rfl (zCf rfl zBq zBb e1 er (by omega) ⟨_, rfl, ⟨r, rfl, by omega⟩, hS, Rel.refl _ _⟩)
      ·cases hi; obtain ⟨r, er, hr⟩ : KPt gy 64 (A.eval (.tmp 88)) W := hI.get hd 6 88 rfl (by kernel_rfl)
       obtain ⟨z, ez, _⟩ : KIdx 256 (A.eval (.tmp 87)) W := hI.get hd 5 87 rfl (by kernel_rfl)
       obtain ⟨l2', q3, hO2⟩ := hS.o2
       exact zC rfl rfl (zM8 rfl er ez (hO2.cellAt (by omega)) (hO2.free r) ⟨_, rfl, trivial, hS.cellY hP r _, Rel.onto ((Onto.refl gy W).setCell rfl _) trivial⟩)
      omega
     case done =>
      intro A W hI
      have hS := hI.g
      have hA := hI.frame [82, 83, 84, 85, 86, 87, 88] (by kernel_rfl)
      rw [hA]
      clear hA hI
      simp only [qJ, List.foldl_cons, List.foldl_nil]
      go_wp2_with fail
      go_roundw
      case rel => exact ⟨k - 1, by go_num, by omega, hS⟩
      case measure => simp [intOf]; omega
    ·go_wp2_with fail
     go_at_call 67
     refine (Draw.vS _ _ hS.drawn (by omega)).mono ?_
     rintro e w9 ⟨r9, rfl, ho9, hd9⟩
     replace hS := hS.onto hP ho9 hd9
     cases r9
     ·skip
      go_wp2_with (first
       | (obtain ⟨M, hM, hMp⟩ := hS.row; refine zI rfl rfl rfl hM ?_)
       | (obtain ⟨x', y', M', hR⟩ := hS.res; obtain ⟨l1', q1, q2, hO1⟩ := hS.o1; obtain ⟨l2', q3, hO2⟩ := hS.o2; have hD := hS.drawn; refine zL rfl rfl rfl rfl hR (zB hO1) (zB hO2) ?_; rintro w7 r7 o7 -))
      refine qW rfl rfl r7 rfl ?_
      have hn2 := hP.n2
      exact ⟨_, _, { M with rom := l1', ram := l2' }, rfl, ⟨q1, q2, q3, (hO1.onto o7 (fun e => by have := (hO1.lt _ e).1; omega)).mono (by omega), (hO2.onto o7 (fun e => by have := (hO2.lt _ e).1; omega)).mono (by omega), hP.ap, hMp⟩, hend _ (zQ hD o7 (Nat.le_refl _) hOldC)⟩
     ·go_wp2_with fail
      go_at_call 71
      refine (Draw.below_any _ _ hS.drawn (by omega)).mono ?_
      rintro e w10 ⟨r10, rfl, hr10, ho10, hd10⟩
      replace hS := hS.onto hP ho10 hd10
      have hlit := zB4 0 w10 #[.int .i64 128, .int .i64 129, .int .i64 192, .int .i64 250, .int .i64 (r10 : Int)] [128, 129, 192, 250, (r10 : Int)] rfl (by simp [maxLen]) (Nat.zero_le _)
      replace hS := hS.alloc (.cells #[.int .i64 128, .int .i64 129, .int .i64 192, .int .i64 250, .int .i64 (r10 : Int)] 2)
      have hpl : p < w10.heap.size := by have := hd10.onto.size; omega
      go_wp2_with fail
      go_at_call 71
      refine (Draw.below_any _ _ hS.drawn (by omega)).mono ?_
      rintro e w11 ⟨r11, rfl, hr11, ho11, hd11⟩
      replace hS := hS.onto hP ho11 hd11
      have hz := (hlit.onto ho11 (fun e => by simp [Value.ownBlock] at e; omega)).cellAt (j := r11) (by simp; omega)
      generalize ([128, 129, 192, 250, (r10 : Int)] : List Int).getD r11 0 = z at hz
      have hr11' : r11 < 5 := by omega
      go_wp2_with (first
       | (refine zDd rfl rfl rfl rfl hS.row rfl (by omega) ?_; intro w8 hr8 o8; replace hS := hS.field hP o8 hr8; clear hr8 o8)
       | (obtain ⟨M, hM, hMp⟩ := hS.row; refine zI rfl rfl rfl hM ?_)
       | (obtain ⟨x', y', M', hR⟩ := hS.res; obtain ⟨l1', q1, q2, hO1⟩ := hS.o1; obtain ⟨l2', q3, hO2⟩ := hS.o2; have hD := hS.drawn; refine zL rfl rfl rfl rfl hR (zB hO1) (zB hO2) ?_; rintro w7 r7 o7 -))
      refine qW rfl rfl r7 rfl ?_
      have hn2 := hP.n2
      exact ⟨_, _, { M with rom := l1', ram := l2' }, rfl, ⟨q1, q2, q3, (hO1.onto o7 (fun e => by have := (hO1.lt _ e).1; omega)).mono (by omega), (hO2.onto o7 (fun e => by have := (hO2.lt _ e).1; omega)).mono (by omega), hP.ap, hMp⟩, hend _ (zQ hD o7 (Nat.le_refl _) hOldC)⟩
 ·skip
  go_loopw [7] (fun n wr => ∃ k : Nat, n = .int .i64 k ∧ k ≤ 4 ∧ Md w p a len cap w3.heap.size w4.heap.size w.heap.size x (.slice (some ⟨gy, 0, none⟩) 64 cy) wr) (fun n _ => (intOf n).toNat)
  case atStart => exact ⟨_, rfl, by omega, hS⟩
  case round =>
   clear hS
   obtain ⟨k, rfl, hk4, hS⟩ := hrel
   by_cases hk : 0 < k
   ·go_wp2_with fail
    refine vK (by kernel_rfl) (by kernel_rfl) (fun W => Md w p a len cap w3.heap.size w4.heap.size w.heap.size x (.slice (some ⟨gy, 0, none⟩) 64 cy) W)
     (kinds [KIs (.pointer (some ⟨w4.heap.size, 1, none⟩)), KIs (.slice (some ⟨gy, 0, none⟩) 64 cy), KIs (.pointer (some ⟨p, 0, none⟩)), KIdx 64, KIs (.pointer (some ⟨p, 0, none⟩)), KIdx 256, KPt gy 64, KAny])
     (Rel fun _ => True) (by kernel_rfl) (jS ?mono) hS.drew ?step ?done
    case mono =>
     intro K hK
     simp only [List.mem_cons, List.not_mem_nil, or_false] at hK
     rcases hK with rfl | rfl | rfl | rfl | rfl | rfl | rfl | rfl
     all_goals first | exact zO _ _ | exact bears_any _ | exact zCa _ _ | exact zM2 _ _ _
    case step =>
     intro L ix o A W hi hI hL hd
     have hin : ix < 8 := qB hi
     have hsz : A.tmps.size = 100 := hI.size
     have hS := hI.g
     rcases ix with _ | _ | _ | _ | _ | _ | _ | _ | ix
     ·cases hi; have e := hI.ol 5 rfl
      refine zC rfl rfl (qX (v := .pointer (some ⟨w4.heap.size, 1, none⟩)) ?_ ⟨_, rfl, rfl, hS, Rel.refl _ _⟩)
      unfold execOp
      simp only [List.getElem_toArray, List.getElem_cons_zero, List.getElem_cons_succ, e]
      simp [go_sem]
     ·cases hi; have e : A.eval (.tmp 82) = .pointer (some ⟨w4.heap.size, 1, none⟩) := hI.get hd 0 82 rfl (by kernel_rfl)
      obtain ⟨M, hM, hMp⟩ := hS.row
      exact zC rfl rfl (zDz rfl e (cw hM).va ⟨_, rfl, rfl, hS, Rel.refl _ _⟩)
     ·cases hi; exact am rfl rfl rfl ⟨_, rfl, (hI.ol 0 rfl), hS, Rel.refl _ _⟩
     ·cases hi; have e0 : A.eval (.tmp 84) = .pointer (some ⟨p, 0, none⟩) := hI.get hd 2 84 rfl (by kernel_rfl)
      refine zC rfl rfl (zS rfl Tryz.func71 (by kernel_rfl) (by kernel_rfl) ?_)
      simp only [List.map_cons, List.map_nil, e0]
      refine (Draw.below_any 64 W hS.drawn (by omega)).mono ?_
      rintro e w5 ⟨r, rfl, hr5, ho5, hdr5⟩
      exact ⟨_, rfl, _, rfl, ⟨r, rfl, hr5⟩, hS.onto hP ho5 hdr5, Rel.onto ho5 trivial⟩
     ·cases hi; exact am rfl rfl rfl ⟨_, rfl, (hI.ol 0 rfl), hS, Rel.refl _ _⟩
     ·cases hi; have e0 : A.eval (.tmp 86) = .pointer (some ⟨p, 0, none⟩) := hI.get hd 4 86 rfl (by kernel_rfl)
      refine zC rfl rfl (zS rfl Tryz.func71 (by kernel_rfl) (by kernel_rfl) ?_)
      simp only [List.map_cons, List.map_nil, e0]
      refine (Draw.below_any 256 W hS.drawn (by omega)).mono ?_
      rintro e w5 ⟨r, rfl, hr5, ho5, hdr5⟩
      exact ⟨_, rfl, _, rfl, ⟨r, rfl, hr5⟩, hS.onto hP ho5 hdr5, Rel.onto ho5 trivial⟩
     ·cases hi; have e1 : A.eval (.tmp 83) = .slice (some ⟨gy, 0, none⟩) 64 cy := hI.get hd 1 83 rfl (by kernel_rfl)
      obtain ⟨r, er, hr⟩ : KIdx 64 (A.eval (.tmp 85)) W := hI.get hd 3 85 rfl (by kernel_rfl)
      exact zC rfl rfl (zCf rfl zBq zBb e1 er (by omega) ⟨_, rfl, ⟨r, rfl, by omega⟩, hS, Rel.refl _ _⟩)
     ·cases hi; obtain ⟨r, er, hr⟩ : KPt gy 64 (A.eval (.tmp 88)) W := hI.get hd 6 88 rfl (by kernel_rfl)
      obtain ⟨z, ez, _⟩ : KIdx 256 (A.eval (.tmp 87)) W := hI.get hd 5 87 rfl (by kernel_rfl)
      obtain ⟨l2', q3, hO2⟩ := hS.o2
      exact zC rfl rfl (zM8 rfl er ez (hO2.cellAt (by omega)) (hO2.free r) ⟨_, rfl, trivial, hS.cellY hP r _, Rel.onto ((Onto.refl gy W).setCell rfl _) trivial⟩)
     omega
    case done =>
     intro A W hI
     have hS := hI.g
     have hA := hI.frame [82, 83, 84, 85, 86, 87, 88] (by kernel_rfl)
     rw [hA]
     clear hA hI
     simp only [qJ, List.foldl_cons, List.foldl_nil]
     go_wp2_with fail
     go_roundw
     case rel => exact ⟨k - 1, by go_num, by omega, hS⟩
     case measure => simp [intOf]; omega
   ·go_wp2_with fail
    go_at_call 67
    refine (Draw.vS _ _ hS.drawn (by omega)).mono ?_
    rintro e w9 ⟨r9, rfl, ho9, hd9⟩
    replace hS := hS.onto hP ho9 hd9
    cases r9
    ·skip
     go_wp2_with (first
      | (obtain ⟨M, hM, hMp⟩ := hS.row; refine zI rfl rfl rfl hM ?_)
      | (obtain ⟨x', y', M', hR⟩ := hS.res; obtain ⟨l1', q1, q2, hO1⟩ := hS.o1; obtain ⟨l2', q3, hO2⟩ := hS.o2; have hD := hS.drawn; refine zL rfl rfl rfl rfl hR (zB hO1) (zB hO2) ?_; rintro w7 r7 o7 -))
     refine qW rfl rfl r7 rfl ?_
     have hn2 := hP.n2
     exact ⟨_, _, { M with rom := l1', ram := l2' }, rfl, ⟨q1, q2, q3, (hO1.onto o7 (fun e => by have := (hO1.lt _ e).1; omega)).mono (by omega), (hO2.onto o7 (fun e => by have := (hO2.lt _ e).1; omega)).mono (by omega), hP.ap, hMp⟩, hend _ (zQ hD o7 (Nat.le_refl _) hOldC)⟩
    ·go_wp2_with fail
     go_at_call 71
     refine (Draw.below_any _ _ hS.drawn (by omega)).mono ?_
     rintro e w10 ⟨r10, rfl, hr10, ho10, hd10⟩
     replace hS := hS.onto hP ho10 hd10
     have hlit := zB4 0 w10 #[.int .i64 128, .int .i64 129, .int .i64 192, .int .i64 250, .int .i64 (r10 : Int)] [128, 129, 192, 250, (r10 : Int)] rfl (by simp [maxLen]) (Nat.zero_le _)
     replace hS := hS.alloc (.cells #[.int .i64 128, .int .i64 129, .int .i64 192, .int .i64 250, .int .i64 (r10 : Int)] 2)
     have hpl : p < w10.heap.size := by have := hd10.onto.size; omega
     go_wp2_with fail
     go_at_call 71
     refine (Draw.below_any _ _ hS.drawn (by omega)).mono ?_
     rintro e w11 ⟨r11, rfl, hr11, ho11, hd11⟩
     replace hS := hS.onto hP ho11 hd11
     have hz := (hlit.onto ho11 (fun e => by simp [Value.ownBlock] at e; omega)).cellAt (j := r11) (by simp; omega)
     generalize ([128, 129, 192, 250, (r10 : Int)] : List Int).getD r11 0 = z at hz
     have hr11' : r11 < 5 := by omega
     go_wp2_with (first
      | (refine zDd rfl rfl rfl rfl hS.row rfl (by omega) ?_; intro w8 hr8 o8; replace hS := hS.field hP o8 hr8; clear hr8 o8)
      | (obtain ⟨M, hM, hMp⟩ := hS.row; refine zI rfl rfl rfl hM ?_)
      | (obtain ⟨x', y', M', hR⟩ := hS.res; obtain ⟨l1', q1, q2, hO1⟩ := hS.o1; obtain ⟨l2', q3, hO2⟩ := hS.o2; have hD := hS.drawn; refine zL rfl rfl rfl rfl hR (zB hO1) (zB hO2) ?_; rintro w7 r7 o7 -))
     refine qW rfl rfl r7 rfl ?_
     have hn2 := hP.n2
     exact ⟨_, _, { M with rom := l1', ram := l2' }, rfl, ⟨q1, q2, q3, (hO1.onto o7 (fun e => by have := (hO1.lt _ e).1; omega)).mono (by omega), (hO2.onto o7 (fun e => by have := (hO2.lt _ e).1; omega)).mono (by omega), hP.ap, hMp⟩, hend _ (zQ hD o7 (Nat.le_refl _) hOldC)⟩
structure MDr (base : Nat) (W : World) (x y : Value) (M : Mc) : Prop where
 o1 : Own base W x M.rom
 s2 : Sl W y M.ram
 b1 : ∀ k, x.ownBlock = some k → base ≤ k
 b2 : ∀ k, y.ownBlock = some k → base ≤ k
 l0 : 2 ≤ M.rom.length
 l1 : M.rom.length ≤ 128
 l2 : M.ram.length ≤ 64
 pc : 0 ≤ M.pc ∧ M.pc ≤ 255
 ap : Apart x y
 m0 : 0 < M.ram.length
theorem MDr.below {base : Nat} {W W' : World} {x y : Value} {M : Mc} (h : MDr base W x y M) (hb : Below W.heap.size W W') : MDr base W' x y M := ⟨h.o1.below hb, h.s2.below hb, h.b1, h.b2, h.l0, h.l1, h.l2, h.pc, h.ap, h.m0⟩
theorem MDr.s1 {base : Nat} {W : World} {x y : Value} {M : Mc} (h : MDr base W x y M) : Sl W x M.rom := h.o1.sl
theorem MDr.onto {base g : Nat} {W W' : World} {x y : Value} {M : Mc} (h : MDr base W x y M) (ho : Onto g W W') (hg : g < base) : MDr base W' x y M :=
 ⟨h.o1.onto ho (fun e => by have := h.b1 _ e; omega), zDe h.s2 ho (fun e => by have := h.b2 _ e; omega), h.b1, h.b2, h.l0, h.l1, h.l2, h.pc, h.ap, h.m0⟩
theorem MDr.zero {base : Nat} {W : World} {x y : Value} {M : Mc} (h : MDr base W x y M) : MDr 0 W x y M := ⟨h.o1.mono (Nat.zero_le _), h.s2, fun _ _ => Nat.zero_le _, fun _ _ => Nat.zero_le _, h.l0, h.l1, h.l2, h.pc, h.ap, h.m0⟩
theorem zTo {base b n c : Nat} {W : World} {l : List Int} (h : Own base W (.slice (some ⟨b, 0, none⟩) n c) l) (hn : 1 ≤ n) (hc : n ≤ c) (hm : c ≤ maxLen) : Sl W (.slice (some ⟨b, 1, none⟩) (n - 1) (c - 1)) (l.drop 1) := by
 have hl : l.length = n := by
  obtain ⟨a, c', he, _⟩ := h.shape
  simp only [Value.slice.injEq] at he
  exact he.2.1.symm
 have hb := (h.lt b rfl).2
 refine ⟨some ⟨b, 1, none⟩, c - 1, by simp [hl], ⟨by simp, ?_⟩, by simp; omega, by omega, by simp⟩
 refine .inr ⟨b, 1, rfl, hb, fun i hi => ?_⟩
 simp at hi
 have := h.cellAt (j := 1 + i) (by omega)
 rw [this]
 simp [List.getD_eq_getElem?_getD, List.getElem?_drop, Nat.add_comm]
set_option maxRecDepth 100000 in
set_option maxHeartbeats 8000000 in
theorem zJc {w0 : World} {p : Nat} {a : Option Addr} {len cap : Nat} (w : World) (h0 : qI p a len cap w0 w) :
  Calls Tryz.prog 57 #[.pointer (some ⟨p, 0, none⟩)] w fun e w' => ∃ x y M, e = .returned (Mc.val x y M) ∧ MDr (w.heap.size + 1) w' x y M ∧ Onto p w w' ∧ qI p a len cap w0 w' := by
 have hend : ∀ w', qI p a len cap w w' → Onto p w w' ∧ qI p a len cap w0 w' := fun w' hd => ⟨hd.onto, h0.onto.trans hd.onto, hd.cur⟩
 have h := h0.cur.drawn
 have hOldC : OldC p a len w := ⟨h0.cur.lt, h0.cur.code.lt⟩
 have hpw := h0.cur.lt
 go_enter Tryz.func57, Tryz.ntmps57
 go_wp2_with (refine zR rfl rfl ?_; intro w1 z1 hB1; have l1 := z1.lt)
 go_at_call 130
 refine (zNs _ (h.below hB1)).mono ?_
 rintro e w2 ⟨x, y, M0, rfl, ⟨hq1, hq2, hq3, hx, hy, hxy, hpc⟩, hon2, hd2⟩
 have z2 := z1.onto hon2 (by omega)
 have s2 := hon2.size
 have hxl := hx.lt
 have hyl := hy.lt
 obtain ⟨gy, cy, rfl, hgy1, hgy2, hgy3, hgy4⟩ := hy.block (by omega)
 obtain ⟨gx, cx, rfl, hgx1, hgx2, hgx3, hgx4⟩ := hx.block (by omega)
 have HR : Hid (M0.ram.length = 64) := hq3
 have HRam : Hid (M0.ram.length = 64) := hq3
 generalize M0.ram.length = ny at HR hy hyl hxy hq3 hgy3
 have hny := HR.out
 subst hny
 generalize hnx : M0.rom.length = nx at hx hxl hxy hq1 hq2 hgx3
 have HN : Hid (M0.rom.length = nx) := hnx
 clear hnx HR
 unfold maxLen at hgy4
 clear z1 hq3
 go_wp2_with (first
  | (refine zR rfl rfl ?_; intro w3 z3 hB3; have r3 := z2.below hB3; have x3 := hx.below hB3; have y3 := hy.below hB3; have hd3 := hd2.below hB3; have l3 := z3.lt)
  | (refine zL rfl rfl rfl rfl z3 rfl rfl ?_; rintro w4 z4 o4 -; have hS : Md w p a len cap (w1.heap.size + 1) w2.heap.size w.heap.size (.slice (some ⟨gx, 0, none⟩) nx cx) (.slice (some ⟨gy, 0, none⟩) 64 cy) w4 := ⟨zQ hd3 o4 (by omega) hOldC, ⟨_, z4, hpc⟩, ⟨_, _, _, r3.onto o4 (by omega)⟩, ⟨_, by have := HN.out; omega, by have := HN.out; omega, x3.onto o4 (fun e => by have := hxl _ e; omega)⟩, ⟨_, HRam.out, y3.onto o4 (fun e => by have := hyl _ e; omega)⟩⟩; have hP : Pm w p a len (w1.heap.size + 1) w2.heap.size w.heap.size (.slice (some ⟨gx, 0, none⟩) nx cx) (.slice (some ⟨gy, 0, none⟩) 64 cy) := ⟨hOldC, hpw, Nat.le_refl _, by omega, by omega, fun k hk => by have := hxl k hk; omega, fun k hk => by have := hyl k hk; omega, hxy⟩; clear z3 r3 x3 y3 hd3 z4 o4))
 go_at_call 67
 refine (Draw.vS _ _ hS.drawn (by omega)).mono ?_
 rintro e w9 ⟨r9, rfl, ho9, hd9⟩
 replace hS := hS.onto hP ho9 hd9
 clear ho9 hd9
 cases r9
 ·skip
  go_wp2_with (first
   | (obtain ⟨M, hM, hMp⟩ := hS.row; refine zI rfl rfl rfl hM ?_)
   | (obtain ⟨x', y', M', hR⟩ := hS.res; obtain ⟨l1', q1, q2, hO1⟩ := hS.o1; obtain ⟨l2', q3, hO2⟩ := hS.o2; have hD := hS.drawn; refine zL rfl rfl rfl rfl hR (zB hO1) (zB hO2) ?_; rintro w7 r7 o7 -))
  refine qW rfl rfl r7 rfl ?_
  have hn2 := hP.n2
  have hf1 := hO1.onto o7 (fun e => by have := (hO1.lt _ e).1; omega)
  have hf2 := hO2.onto o7 (fun e => by have := (hO2.lt _ e).1; omega)
  exact ⟨_, _, { M with rom := l1', ram := l2' }, rfl, ⟨hf1.mono (by omega), hf2.sl, fun k hk => by have := (hf1.lt k hk).1; omega, fun k hk => by have := (hf2.lt k hk).1; omega, by show 2 ≤ l1'.length; omega, by show l1'.length ≤ _; omega, by show l2'.length ≤ _; omega, hMp, hP.ap, by show 0 < l2'.length; omega⟩, hend _ (zQ hD o7 (Nat.le_refl _) hOldC)⟩
 ·go_wp2_with fail
  go_at_call 71
  refine (Draw.below_any _ _ hS.drawn (by omega)).mono ?_
  rintro e w9 ⟨r9, rfl, hr9, ho9, hd9⟩
  replace hS := hS.onto hP ho9 hd9
  clear ho9 hd9
  have h8 : r9 = 0 ∨ r9 = 1 ∨ r9 = 2 ∨ r9 = 3 ∨ r9 = 4 ∨ r9 = 5 ∨ r9 = 6 ∨ r9 = 7 := by omega
  clear hr9
  rcases h8 with rfl | rfl | rfl | rfl | rfl | rfl | rfl | rfl
  ·go_wp2_with fail
   refine vK (by kernel_rfl) (by kernel_rfl) (fun W => Md w p a len cap (w1.heap.size + 1) w2.heap.size w.heap.size (.slice (some ⟨gx, 0, none⟩) nx cx) (.slice (some ⟨gy, 0, none⟩) 64 cy) W)
    (kinds [KIs (.pointer (some ⟨w2.heap.size, 0, none⟩)), KIs (.slice (some ⟨gx, 0, none⟩) nx cx), KIs (.pointer (some ⟨p, 0, none⟩)), KInt, KIs (.pointer (some ⟨gx, 0, none⟩)), KAny])
    (Rel fun _ => True) (by kernel_rfl) (jS ?mono) hS.drew ?step ?done
   case mono =>
    intro K hK
    simp only [List.mem_cons, List.not_mem_nil, or_false] at hK
    rcases hK with rfl | rfl | rfl | rfl | rfl | rfl
    all_goals first | exact zO _ _ | exact bears_any _ | exact zM _
   case step =>
    intro L ix o A W hi hI hL hd
    have hin : ix < 6 := qB hi
    have hsz : A.tmps.size = 61 := hI.size
    have hS := hI.g
    rcases ix with _ | _ | _ | _ | _ | _ | ix
    ·cases hi; have e := hI.ol 3 rfl
     refine zC rfl rfl (qX (v := .pointer (some ⟨w2.heap.size, 0, none⟩)) ?_ ⟨_, rfl, rfl, hS, Rel.refl _ _⟩)
     unfold execOp
     simp only [List.getElem_toArray, List.getElem_cons_zero, e]
     simp [go_sem]
    ·cases hi; have e : A.eval (.tmp 12) = .pointer (some ⟨w2.heap.size, 0, none⟩) := hI.get hd 0 12 rfl (by kernel_rfl)
     obtain ⟨M, hM, hMp⟩ := hS.row
     exact zC rfl rfl (zDz rfl e (cw hM).vr ⟨_, rfl, rfl, hS, Rel.refl _ _⟩)
    ·cases hi; exact am rfl rfl rfl ⟨_, rfl, (hI.ol 0 rfl), hS, Rel.refl _ _⟩
    ·cases hi; have e0 : A.eval (.tmp 14) = .pointer (some ⟨p, 0, none⟩) := hI.get hd 2 14 rfl (by kernel_rfl)
     refine zC rfl rfl (zS rfl Tryz.func68 (by kernel_rfl) (by kernel_rfl) ?_)
     simp only [List.map_cons, List.map_nil, e0]
     refine (Draw.zB5 255 W hS.drawn (by omega) (by omega)).mono ?_
     rintro e w5 ⟨r, rfl, hr5, ho5, hdr5⟩
     exact ⟨_, rfl, _, rfl, ⟨r, rfl⟩, hS.onto hP ho5 hdr5, Rel.onto ho5 trivial⟩
    ·cases hi; have e1 : A.eval (.tmp 13) = .slice (some ⟨gx, 0, none⟩) nx cx := hI.get hd 1 13 rfl (by kernel_rfl)
     exact zC rfl rfl (zCf (r := 0) rfl zBq zBb e1 rfl (by omega) ⟨_, rfl, rfl, hS, Rel.refl _ _⟩)
    ·cases hi; have er : A.eval (.tmp 16) = .pointer (some ⟨gx, 0, none⟩) := hI.get hd 4 16 rfl (by kernel_rfl)
     obtain ⟨z, ez⟩ : KInt (A.eval (.tmp 15)) W := hI.get hd 3 15 rfl (by kernel_rfl)
     obtain ⟨l1', q1, q2, hO1⟩ := hS.o1
     exact zC rfl rfl (zM8 rfl er ez (hO1.cellAt (by omega)) (hO1.free 0) ⟨_, rfl, trivial, hS.cellX hP 0 _, Rel.onto ((Onto.refl gx W).setCell rfl _) trivial⟩)
    omega
   case done =>
    intro A W hI
    have hS := hI.g
    have hA := hI.frame [12, 13, 14, 15, 16] (by kernel_rfl)
    rw [hA]
    clear hA hI
    simp only [qJ, List.foldl_cons, List.foldl_nil]
    go_wp2_with (first
     | (obtain ⟨M, hM, hMp⟩ := hS.row; refine zI rfl rfl rfl hM ?_)
     | (obtain ⟨x', y', M', hR⟩ := hS.res; obtain ⟨l1', q1, q2, hO1⟩ := hS.o1; obtain ⟨l2', q3, hO2⟩ := hS.o2; have hD := hS.drawn; refine zL rfl rfl rfl rfl hR (zB hO1) (zB hO2) ?_; rintro w7 r7 o7 -))
    refine qW rfl rfl r7 rfl ?_
    have hn2 := hP.n2
    have hf1 := hO1.onto o7 (fun e => by have := (hO1.lt _ e).1; omega)
    have hf2 := hO2.onto o7 (fun e => by have := (hO2.lt _ e).1; omega)
    exact ⟨_, _, { M with rom := l1', ram := l2' }, rfl, ⟨hf1.mono (by omega), hf2.sl, fun k hk => by have := (hf1.lt k hk).1; omega, fun k hk => by have := (hf2.lt k hk).1; omega, by show 2 ≤ l1'.length; omega, by show l1'.length ≤ _; omega, by show l2'.length ≤ _; omega, hMp, hP.ap, by show 0 < l2'.length; omega⟩, hend _ (zQ hD o7 (Nat.le_refl _) hOldC)⟩
  ·have hcy1 : (1 : Int) < (cy : Int) := by omega
   have hcy2 : (64 : Int) ≤ (cy : Int) := by omega
   obtain ⟨M, hM, hMp⟩ := hS.row
   obtain ⟨x', y', M', hR⟩ := hS.res
   obtain ⟨l1', q1, q2, hO1⟩ := hS.o1
   obtain ⟨l2', q3, hO2⟩ := hS.o2
   have hD := hS.drawn
   have kva := (cw hM).va
   have hn1 := hP.n1
   have hn2 := hP.n2
   have hn3 := hP.n3
   clear hS
   go_wp2_with (first
    | (refine zQr (v := .slice (some ⟨gy, 1, none⟩) 63 (cy - 1)) rfl rfl rfl rfl hM rfl [] ?_; rintro w8 r8 o8 -; have hR8 := hR.onto o8 (by omega); have hD8 := zQ hD o8 (by omega) hOldC; have hO18 := hO1.onto o8 (fun e => by have := hP.bx _ e; omega); have hO28 := hO2.onto o8 (fun e => by have := hP.b_y _ e; omega))
    | (refine zI rfl rfl rfl r8 ?_)
    | (refine zL rfl rfl rfl rfl hR8 rfl rfl ?_; rintro w7 r7 o7 -))
   refine qW rfl rfl r7 rfl ?_
   have hf1 := hO18.onto o7 (fun e => by have := (hO18.lt _ e).1; omega)
   have hf2 := hO28.onto o7 (fun e => by have := (hO28.lt _ e).1; omega)
   have ht2 := zTo hf2 (by omega) hgy3 (by unfold maxLen; omega)
   exact ⟨_, _, { M with rom := l1', ram := l2'.drop 1 }, rfl, ⟨hf1.mono (by omega), ht2, fun k hk => by have := (hf1.lt k hk).1; omega, fun k hk => by have hbb := hP.b_y gy rfl; have hkk : gy = k := Option.some.inj hk; omega, by show 2 ≤ l1'.length; omega, by show l1'.length ≤ _; omega, by show (l2'.drop 1).length ≤ _; simp; omega, hMp, fun k h1 h2 => hP.ap k h1 h2, by show 0 < (l2'.drop 1).length; simp; omega⟩, hend _ (zQ hD8 o7 (Nat.le_refl _) hOldC)⟩
  ·skip
   go_wp2_with (first
    | (go_at_call 68; refine (Draw.zB5 _ _ hS.drawn (by omega) (by omega)).mono ?_; rintro e w9 ⟨z9, rfl, hz9, ho9, hd9⟩; replace hS := hS.onto hP ho9 hd9; clear ho9 hd9)
    | (refine zDd rfl rfl rfl rfl hS.row rfl (by omega) ?_; intro w8 hr8 o8; replace hS := hS.field hP o8 hr8; clear hr8 o8)
    | (obtain ⟨M, hM, hMp⟩ := hS.row; refine zI rfl rfl rfl hM ?_)
    | (obtain ⟨x', y', M', hR⟩ := hS.res; obtain ⟨l1', q1, q2, hO1⟩ := hS.o1; obtain ⟨l2', q3, hO2⟩ := hS.o2; have hD := hS.drawn; refine zL rfl rfl rfl rfl hR (zB hO1) (zB hO2) ?_; rintro w7 r7 o7 -))
   refine qW rfl rfl r7 rfl ?_
   have hn2 := hP.n2
   have hf1 := hO1.onto o7 (fun e => by have := (hO1.lt _ e).1; omega)
   have hf2 := hO2.onto o7 (fun e => by have := (hO2.lt _ e).1; omega)
   exact ⟨_, _, { M with rom := l1', ram := l2' }, rfl, ⟨hf1.mono (by omega), hf2.sl, fun k hk => by have := (hf1.lt k hk).1; omega, fun k hk => by have := (hf2.lt k hk).1; omega, by show 2 ≤ l1'.length; omega, by show l1'.length ≤ _; omega, by show l2'.length ≤ _; omega, hMp, hP.ap, by show 0 < l2'.length; omega⟩, hend _ (zQ hD o7 (Nat.le_refl _) hOldC)⟩
  ·skip
   go_wp2_with (first
    | (go_at_call 69; refine (zBv _ _ _ hS.drawn (by omega) (by omega) (by omega)).mono ?_; rintro e w9 ⟨z9, rfl, hz9, ho9, hd9⟩; replace hS := hS.onto hP ho9 hd9; clear ho9 hd9)
    | (refine zDd rfl rfl rfl rfl hS.row rfl (by omega) ?_; intro w8 hr8 o8; replace hS := hS.field hP o8 hr8; clear hr8 o8)
    | (obtain ⟨M, hM, hMp⟩ := hS.row; refine zI rfl rfl rfl hM ?_)
    | (obtain ⟨x', y', M', hR⟩ := hS.res; obtain ⟨l1', q1, q2, hO1⟩ := hS.o1; obtain ⟨l2', q3, hO2⟩ := hS.o2; have hD := hS.drawn; refine zL rfl rfl rfl rfl hR (zB hO1) (zB hO2) ?_; rintro w7 r7 o7 -))
   refine qW rfl rfl r7 rfl ?_
   have hn2 := hP.n2
   have hf1 := hO1.onto o7 (fun e => by have := (hO1.lt _ e).1; omega)
   have hf2 := hO2.onto o7 (fun e => by have := (hO2.lt _ e).1; omega)
   exact ⟨_, _, { M with rom := l1', ram := l2' }, rfl, ⟨hf1.mono (by omega), hf2.sl, fun k hk => by have := (hf1.lt k hk).1; omega, fun k hk => by have := (hf2.lt k hk).1; omega, by show 2 ≤ l1'.length; omega, by show l1'.length ≤ _; omega, by show l2'.length ≤ _; omega, hMp, hP.ap, by show 0 < l2'.length; omega⟩, hend _ (zQ hD o7 (Nat.le_refl _) hOldC)⟩
  ·skip
   go_wp2_with (first
    | (go_at_call 131; refine (zJe _ hS.drawn).mono ?_; rintro e w9 ⟨t9, rfl, ho9, hd9⟩; replace hS := hS.onto hP ho9 hd9; clear ho9 hd9)
    | (refine zLb rfl rfl rfl rfl hS.row ?_; intro w8 hr8 o8; replace hS := hS.field hP o8 hr8; clear hr8 o8)
    | (obtain ⟨M, hM, hMp⟩ := hS.row; refine zI rfl rfl rfl hM ?_)
    | (obtain ⟨x', y', M', hR⟩ := hS.res; obtain ⟨l1', q1, q2, hO1⟩ := hS.o1; obtain ⟨l2', q3, hO2⟩ := hS.o2; have hD := hS.drawn; refine zL rfl rfl rfl rfl hR (zB hO1) (zB hO2) ?_; rintro w7 r7 o7 -))
   refine qW rfl rfl r7 rfl ?_
   have hn2 := hP.n2
   have hf1 := hO1.onto o7 (fun e => by have := (hO1.lt _ e).1; omega)
   have hf2 := hO2.onto o7 (fun e => by have := (hO2.lt _ e).1; omega)
   exact ⟨_, _, { M with rom := l1', ram := l2' }, rfl, ⟨hf1.mono (by omega), hf2.sl, fun k hk => by have := (hf1.lt k hk).1; omega, fun k hk => by have := (hf2.lt k hk).1; omega, by show 2 ≤ l1'.length; omega, by show l1'.length ≤ _; omega, by show l2'.length ≤ _; omega, hMp, hP.ap, by show 0 < l2'.length; omega⟩, hend _ (zQ hD o7 (Nat.le_refl _) hOldC)⟩
  ·skip
   go_wp2_with (first
    | (go_at_call 132; refine (zJd _ hS.drawn).mono ?_; rintro e w9 ⟨s9, rfl, ho9, hd9⟩; replace hS := hS.onto hP ho9 hd9; clear ho9 hd9)
    | (refine zLe rfl rfl rfl rfl hS.row ?_; intro w8 hr8 o8; replace hS := hS.field hP o8 hr8; clear hr8 o8)
    | (obtain ⟨M, hM, hMp⟩ := hS.row; refine zI rfl rfl rfl hM ?_)
    | (obtain ⟨x', y', M', hR⟩ := hS.res; obtain ⟨l1', q1, q2, hO1⟩ := hS.o1; obtain ⟨l2', q3, hO2⟩ := hS.o2; have hD := hS.drawn; refine zL rfl rfl rfl rfl hR (zB hO1) (zB hO2) ?_; rintro w7 r7 o7 -))
   refine qW rfl rfl r7 rfl ?_
   have hn2 := hP.n2
   have hf1 := hO1.onto o7 (fun e => by have := (hO1.lt _ e).1; omega)
   have hf2 := hO2.onto o7 (fun e => by have := (hO2.lt _ e).1; omega)
   exact ⟨_, _, { M with rom := l1', ram := l2' }, rfl, ⟨hf1.mono (by omega), hf2.sl, fun k hk => by have := (hf1.lt k hk).1; omega, fun k hk => by have := (hf2.lt k hk).1; omega, by show 2 ≤ l1'.length; omega, by show l1'.length ≤ _; omega, by show l2'.length ≤ _; omega, hMp, hP.ap, by show 0 < l2'.length; omega⟩, hend _ (zQ hD o7 (Nat.le_refl _) hOldC)⟩
  ·skip
   go_wp2_with (first
    | (refine zHe (k := 24) rfl rfl rfl hS.row rfl ?_; intro z9)
    | (refine zDd rfl rfl rfl rfl hS.row rfl (by omega) ?_; intro w8 hr8 o8; replace hS := hS.field hP o8 hr8; clear hr8 o8)
    | (obtain ⟨M, hM, hMp⟩ := hS.row; refine zI rfl rfl rfl hM ?_)
    | (obtain ⟨x', y', M', hR⟩ := hS.res; obtain ⟨l1', q1, q2, hO1⟩ := hS.o1; obtain ⟨l2', q3, hO2⟩ := hS.o2; have hD := hS.drawn; refine zL rfl rfl rfl rfl hR (zB hO1) (zB hO2) ?_; rintro w7 r7 o7 -))
   refine qW rfl rfl r7 rfl ?_
   have hn2 := hP.n2
   have hf1 := hO1.onto o7 (fun e => by have := (hO1.lt _ e).1; omega)
   have hf2 := hO2.onto o7 (fun e => by have := (hO2.lt _ e).1; omega)
   exact ⟨_, _, { M with rom := l1', ram := l2' }, rfl, ⟨hf1.mono (by omega), hf2.sl, fun k hk => by have := (hf1.lt k hk).1; omega, fun k hk => by have := (hf2.lt k hk).1; omega, by show 2 ≤ l1'.length; omega, by show l1'.length ≤ _; omega, by show l2'.length ≤ _; omega, hMp, hP.ap, by show 0 < l2'.length; omega⟩, hend _ (zQ hD o7 (Nat.le_refl _) hOldC)⟩
  ·skip
   go_wp2_with (first
    | (go_at_call 71; refine (Draw.below_any _ _ hS.drawn (by omega)).mono ?_; rintro e w9 ⟨r9, rfl, hr9, ho9, hd9⟩; replace hS := hS.onto hP ho9 hd9; clear ho9 hd9)
    | (refine zHe (k := 14) rfl rfl rfl hS.row rfl ?_; intro z9)
    | (refine zDd rfl rfl rfl rfl hS.row rfl (by omega) ?_; intro w8 hr8 o8; replace hS := hS.field hP o8 hr8; clear hr8 o8)
    | (obtain ⟨M, hM, hMp⟩ := hS.row; refine zI rfl rfl rfl hM ?_)
    | (obtain ⟨x', y', M', hR⟩ := hS.res; obtain ⟨l1', q1, q2, hO1⟩ := hS.o1; obtain ⟨l2', q3, hO2⟩ := hS.o2; have hD := hS.drawn; refine zL rfl rfl rfl rfl hR (zB hO1) (zB hO2) ?_; rintro w7 r7 o7 -))
   refine qW rfl rfl r7 rfl ?_
   have hn2 := hP.n2
   have hf1 := hO1.onto o7 (fun e => by have := (hO1.lt _ e).1; omega)
   have hf2 := hO2.onto o7 (fun e => by have := (hO2.lt _ e).1; omega)
   exact ⟨_, _, { M with rom := l1', ram := l2' }, rfl, ⟨hf1.mono (by omega), hf2.sl, fun k hk => by have := (hf1.lt k hk).1; omega, fun k hk => by have := (hf2.lt k hk).1; omega, by show 2 ≤ l1'.length; omega, by show l1'.length ≤ _; omega, by show l2'.length ≤ _; omega, hMp, hP.ap, by show 0 < l2'.length; omega⟩, hend _ (zQ hD o7 (Nat.le_refl _) hOldC)⟩
structure Gdm (w wd : World) (p : Nat) (a : Option Addr) (len cap g gr base : Nat) (x y : Value) (M : Mc) (W : World) : Prop where
 cur : jR W p a len cap
 row : MRow W g x y M
 res : ∃ cs : Array Value, cs.size = 25 ∧ Row W gr cs 30
 md : MDr base W x y M
 bel : Below w.heap.size w W
structure Pd (w wd : World) (p : Nat) (a : Option Addr) (len g gr base : Nat) : Prop where
 code : 0 < len → ∀ x, a = some x → x.block ≠ gr
 n0 : w.heap.size ≤ gr
 n1 : gr < p
 n2 : p < base
 n3 : wd.heap.size ≤ g
 n4 : p < wd.heap.size
 n5 : gr < wd.heap.size
theorem Gdm.drew {w wd W : World} {p : Nat} {a : Option Addr} {len cap g gr base : Nat} {x y : Value} {M : Mc} (h : Gdm w wd p a len cap g gr base x y M W) : Gdm w wd p a len cap g gr base x y M W.drew :=
 ⟨h.cur.drewN 1, h.row.drewN 1, h.res.imp fun _ r => ⟨r.1, r.2.drewN 1⟩, h.md.below (xC (n := 1) rfl), h.bel.drew⟩
theorem Gdm.onto {w wd W W' : World} {p : Nat} {a : Option Addr} {len cap g gr base : Nat} {x y : Value} {M : Mc} (h : Gdm w wd p a len cap g gr base x y M W) (hP : Pd w wd p a len g gr base) (ho : Onto p W W') (hd : jR W' p a len cap) : Gdm w wd p a len cap g gr base x y M W' := by
 have := hP.n0; have := hP.n1; have := hP.n2; have := hP.n3; have := hP.n4
 exact ⟨hd, h.row.onto ho (by omega), h.res.imp fun _ r => ⟨r.1, r.2.onto ho (by omega)⟩, h.md.onto ho (by omega), zA h.bel ho (by omega)⟩
theorem zTx {base : Nat} {w3 w4 w5 : World} {x y : Value} {M : Mc} (h : MDr base w3 x y M) (hb : Below w3.heap.size w3 w4) (ho : Onto w3.heap.size w4 w5) : MDr base w5 x y M := by
 have k1 : ∀ {v : Value} {l : List Int}, Sl w3 v l → Sl w5 v l := fun {v l} hs => by
  by_cases h0 : 0 < l.length
  ·exact zDe (hs.below hb) ho (fun e => by have := hs.lt h0 _ e; omega)
  ·obtain ⟨a, cap, rfl, h1, h2⟩ := hs
   exact ⟨a, cap, rfl, ⟨h1.1, .inl (by omega)⟩, h2⟩
 exact ⟨(h.o1.below hb).onto ho (fun e => by have := (h.o1.lt _ e).2; omega), k1 h.s2, h.b1, h.b2, h.l0, h.l1, h.l2, h.pc, h.ap, h.m0⟩
end Go.Proofs.YtamldhflkfbdnaaGreatDoor.Mem
namespace Go.Proofs.YtamldhflkfbdnaaGreatDoor.Prg
open Go.ChangeShapes Go.WideShapes Go.RowKit Base Draw Dice Slc Num Rom RomOf DrawRom

end Go.Proofs.YtamldhflkfbdnaaGreatDoor.Prg
namespace Go.Proofs.YtamldhflkfbdnaaGreatDoor.Mem
open Go.ChangeShapes Go.WideShapes Go.RowKit Base Num Slc Rw Tmr Srl Rom RomOf Ex

theorem zLk (v1 v2 : Value) (l1 l2 : List Int) (w : World) (h1 : Sl w v1 l1) (h2 : Sl w v2 l2) :
  Calls Tryz.prog 171 #[v1, v2] w fun e w' => e = .returned (.bool (decide (l1 = l2))) ∧ ∃ n, w' = w.drewN n := by
 obtain ⟨a1, cap1, rfl, hat1, hlc1, hcm1, hnil1⟩ := h1
 obtain ⟨a2, cap2, rfl, hat2, hlc2, hcm2, hnil2⟩ := h2
 unfold maxLen at hcm1 hcm2
 have H1 : Hid (xM w a1 l1.length l1) := hat1
 have H2 : Hid (xM w a2 l2.length l2) := hat2
 clear hat1 hat2 hnil1 hnil2
 by_cases hll : l1.length = l2.length
 ·go_enter Tryz.func171, Tryz.ntmps171
  go_wp2
  go_loopw [5] (fun i wr => ∃ k : Nat, k ≤ l1.length ∧ i = .int .i64 k ∧ l1.take k = l2.take k ∧ ∃ n, wr = w.drewN n) (fun i _ => l1.length - (intOf i).toNat)
  case atStart => exact ⟨0, Nat.zero_le _, rfl, rfl, 0, rfl⟩
  case round =>
   obtain ⟨k, hk, rfl, htk, n, rfl⟩ := hrel
   have HT : Hid (l1.take k = l2.take k) := htk
   have HL : Hid (l1.length = l2.length) := hll
   clear htk
   by_cases hlt : k < l1.length
   ·rcases H1.out.2 with h0 | ⟨b1, off1, rfl, hbl1, hcell1⟩
    ·omega
    ·rcases H2.out.2 with h0 | ⟨b2, off2, rfl, hbl2, hcell2⟩
     ·omega
     ·have hz1 := hcell1 k hlt
      have hz2 := hcell2 k (by omega)
      obtain ⟨z1, hzz1⟩ : ∃ z, z = l1.getD k 0 := ⟨_, rfl⟩
      obtain ⟨z2, hzz2⟩ : ∃ z, z = l2.getD k 0 := ⟨_, rfl⟩
      rw [← hzz1] at hz1
      rw [← hzz2] at hz2
      have hk1 : (k : Int) < (l1.length : Int) := by omega
      have hk2 : (k : Int) < (l2.length : Int) := by omega
      have hk3 : k < l2.length := by omega
      have HZ1 : Hid (z1 = l1.getD k 0) := hzz1
      have HZ2 : Hid (z2 = l2.getD k 0) := hzz2
      clear hzz1 hzz2 hcell1 hcell2 hll
      by_cases hz : z1 = z2
      ·have hzt : (z1 == z2) = true := by simp [hz]
       have HZ : Hid (z1 = z2) := hz
       clear hz
       go_wp2
       go_quiet (fail)
       go_wp2
       go_roundw
       case rel => exact ⟨k + 1, by omega, by go_num, zOt HT.out hlt hk3 (by rw [← HZ1.out, ← HZ2.out]; exact HZ.out), _, rfl⟩
       case measure => simp [intOf]; omega
      ·have hzf : (z1 == z2) = false := by simp [hz]
       have HD : Hid (decide (l1 = l2) = false) := by show decide (l1 = l2) = false; simp; intro e; exact hz (by rw [HZ1.out, HZ2.out, e])
       clear hz
       go_wp2
       go_quiet (fail)
       go_wp2
       go_ret
       exact ⟨zT HD.out.symm, _, World.drewN_drewN _ _ _⟩
   ·clear hll
    go_wp2
    go_ret
    have e1 : l1.take k = l1 := List.take_of_length_le (by omega)
    have e2 : l2.take k = l2 := List.take_of_length_le (by have := HL.out; omega)
    have e3 := HT.out
    rw [e1, e2] at e3
    exact ⟨zT (by simp [e3]), _, rfl⟩
 ·have HD : Hid (decide (l1 = l2) = false) := by show decide (l1 = l2) = false; simp; intro e; exact hll (by rw [e])
  have hne : ((l1.length : Int) == (l2.length : Int)) = false := by simp; omega
  go_enter Tryz.func171, Tryz.ntmps171
  go_wp2
  go_ret
  exact ⟨zT HD.out.symm, 0, rfl⟩

set_option maxRecDepth 20000 in
set_option maxHeartbeats 2000000 in
theorem zF1 (vr va ur ua : Value) (m : Mc) (w : World) (h1 : Sl w vr m.rom) (h2 : Sl w va m.ram) (h3 : Sl w ur m.rom) (h4 : Sl w ua m.ram) :
  Calls Tryz.prog 98 #[m.val vr va, m.val ur ua] w fun e w' => e = .returned (.bool true) ∧ Below w.heap.size w w' := by
 obtain ⟨vv, hvv⟩ : ∃ vv, vv = m.val vr va := ⟨_, rfl⟩
 obtain ⟨uu, huu⟩ : ∃ uu, uu = m.val ur ua := ⟨_, rfl⟩
 rw [← hvv, ← huu]
 go_enter Tryz.func98, Tryz.ntmps98
 go_wp2_with (first
  | (refine zP rfl rfl hvv ?_; intro w0 r0 hB0)
  | (refine zP rfl rfl huu ?_; intro w1 q1 hB1; have r1 := r0.below hB1; have hB2 := hB0.trans (hB1.mono hB0.size); have a0 := (cw r1).vr; have b0 := (cw q1).vr))
 go_at_call 171
 refine (zLk vr ur m.rom m.rom _ (h1.below hB2) (h3.below hB2)).mono ?_
 rintro e w2 ⟨rfl, n2, hw2⟩
 have hb2 := xC hw2
 have hB3 := hB2.trans (hb2.mono hB2.size)
 have r2 := r1.below hb2
 have q2 := q1.below hb2
 clear hw2 a0 b0
 have a0 := (cw r2).va
 have b0 := (cw q2).va
 rw [decide_eq_true rfl]
 go_wp2_with fail
 go_at_call 171
 refine (zLk va ua m.ram m.ram _ (h2.below hB3) (h4.below hB3)).mono ?_
 rintro e w3 ⟨rfl, n3, hw3⟩
 have hb3 := xC hw3
 have hB4 := hB3.trans (hb3.mono hB3.size)
 have r3 := r2.below hb3
 have q3 := q2.below hb3
 clear hw3 a0 b0 r0 r1 r2 q1 q2
 rw [decide_eq_true rfl]
 have a2 := (cw r3).a
 have a3 := (cw r3).b
 have a4 := (cw r3).pc
 have a5 := (cw r3).sp
 have a6 := (cw r3).z
 have a7 := (cw r3).c
 have a8 := (cw r3).e
 have a9 := (cw r3).h
 have a10 := (cw r3).s
 have a11 := (cw r3).fl
 have a12 := (cw r3).ms
 have a13 := (cw r3).ky
 have a14 := (cw r3).tc
 have a15 := (cw r3).tv
 have a16 := (cw r3).ts
 have a17 := (cw r3).tm
 have a18 := (cw r3).pd
 have a19 := (cw r3).pb
 have a20 := (cw r3).pl
 have a21 := (cw r3).pn
 have a22 := (cw r3).px
 have a23 := (cw r3).pt
 have a24 := (cw r3).k
 have b2 := (cw q3).a
 have b3 := (cw q3).b
 have b4 := (cw q3).pc
 have b5 := (cw q3).sp
 have b6 := (cw q3).z
 have b7 := (cw q3).c
 have b8 := (cw q3).e
 have b9 := (cw q3).h
 have b10 := (cw q3).s
 have b11 := (cw q3).fl
 have b12 := (cw q3).ms
 have b13 := (cw q3).ky
 have b14 := (cw q3).tc
 have b15 := (cw q3).tv
 have b16 := (cw q3).ts
 have b17 := (cw q3).tm
 have b18 := (cw q3).pd
 have b19 := (cw q3).pb
 have b20 := (cw q3).pl
 have b21 := (cw q3).pn
 have b22 := (cw q3).px
 have b23 := (cw q3).pt
 have b24 := (cw q3).k
 go_wp2_with fail
 go_ret
 exact ⟨rfl, hB4⟩
theorem zF8 (vr va ur ua : Value) (m : Mc) (w : World) (h1 : Sl w vr m.rom) (h2 : Sl w va m.ram) (h3 : Sl w ur m.rom) (h4 : Sl w ua m.ram) :
  Calls Tryz.prog 37 #[m.val vr va, m.val ur ua] w fun e w' => e = .returned (.bool true) ∧ Below w.heap.size w w' := by
 obtain ⟨vv, hvv⟩ : ∃ vv, vv = m.val vr va := ⟨_, rfl⟩
 obtain ⟨uu, huu⟩ : ∃ uu, uu = m.val ur ua := ⟨_, rfl⟩
 rw [← hvv, ← huu]
 go_enter Tryz.func37, Tryz.ntmps37
 go_wp2_with (first
  | (refine zP rfl rfl hvv ?_; intro w0 r0 hB0)
  | (refine zP rfl rfl huu ?_; intro w1 q1 hB1; have r1 := r0.below hB1; have hB2 := hB0.trans (hB1.mono hB0.size))
  | (refine zI rfl rfl rfl r1 ?_)
  | (refine zI rfl rfl rfl q1 ?_)
  | (go_at_call 98; refine (zF1 vr va ur ua m _ (h1.below hB2) (h2.below hB2) (h3.below hB2) (h4.below hB2)).mono ?_; rintro e w2 ⟨rfl, hb2⟩; have hB3 := hB2.trans (hb2.mono hB2.size)))
 go_ret
 exact ⟨rfl, hB3⟩
end Go.Proofs.YtamldhflkfbdnaaGreatDoor.Mem
namespace Go.Proofs.YtamldhflkfbdnaaGreatDoor.Mem
open Go.ChangeShapes Go.WideShapes Go.RowKit Base Draw Slc Num Rw Tmr Srl Rom RomOf Reg

theorem zUy (a : Option Addr) (len cap : Nat) (w : World) :
  Calls Tryz.prog 10 #[.slice a len cap] w fun e w' => e = .returned (.bool (decide ((4096 : Int) < (len : Int)))) ∧ w' = w := by
 go_enter Tryz.func10, Tryz.ntmps10
 go_wp2
 go_ret
 exact ⟨rfl, rfl⟩
theorem Sl.rel {w w' : World} {v : Value} {l : List Int} (h : Sl w v l) (hr : Rel (fun _ => False) w w') : Sl w' v l := by
 obtain ⟨a, cap, rfl, h1, h2⟩ := h
 refine ⟨a, cap, rfl, ⟨h1.1, ?_⟩, h2⟩
 rcases h1.2 with h0 | ⟨b, off, rfl, hb, hc⟩
 ·exact .inl h0
 ·refine .inr ⟨b, off, rfl, Nat.lt_of_lt_of_le hb hr.1, fun i hi => ?_⟩
  rw [World.cell?_of_block (w := w) (a := ⟨b, off + i, none⟩) (hr.2 b (fun h => h) hb)]
  exact hc i hi
end Go.Proofs.YtamldhflkfbdnaaGreatDoor.Mem
namespace Go.Proofs.YtamldhflkfbdnaaGreatDoor.Mem
open Go.ChangeShapes Go.WideShapes Go.RowKit Base Num Slc Slf Rw Tmr Srl Rom Opl Reg

theorem zKj (m : M3) (x y : Operand) (w : World) : (do eqGuard .neq 40 x y m.val m.val; binOp .neq 40 m.val m.val : Sem Value).run Tryz.prog w = .ok (.bool false) w := by
 obtain ⟨t, k, v⟩ := m
 have h1 : Tryz.prog.underlying 40 = some (.struct _) := Tryz.underlying40
 simp [go_sem, M3.val, h1]
theorem zAq (v u : Value) (l : List M3) (w : World) (h1 : SlF fM w v l) (h2 : SlF fM w u l) :
  Calls Tryz.prog 19 #[v, u] w fun e w' => e = .returned (.bool true) ∧ Below w.heap.size w w' := by
 have hG : Gii fM w v u l w := ⟨h1, h2, Below.refl _ _⟩
 obtain ⟨a, c, rfl, -, hlc, hcm, -⟩ := h1
 obtain ⟨a2, c2, rfl, -, hlc2, hcm2, -⟩ := h2
 unfold maxLen at hcm hcm2
 have hll : ((l.length : Int) != (l.length : Int)) = false := by simp
 go_enter Tryz.func19, Tryz.ntmps19
 go_wp2_with fail
 go_loopw [5] (fun i wr => ∃ k : Nat, k ≤ l.length ∧ i = .int .i64 k ∧ Gii fM w (.slice a l.length c) (.slice a2 l.length c2) l wr) (fun i _ => l.length - (intOf i).toNat)
 case atStart => exact ⟨0, Nat.zero_le _, rfl, hG⟩
 case round =>
  clear hG
  obtain ⟨k, hk, rfl, hG⟩ := hrel
  by_cases hlt : k < l.length
  ·obtain ⟨b, off, c', e, -, -, -⟩ := hG.sl.shape (by omega)
   simp only [Value.slice.injEq] at e
   obtain ⟨rfl, -, rfl⟩ := e
   obtain ⟨b2, off2, c2', e, -, -, -⟩ := hG.su.shape (by omega)
   simp only [Value.slice.injEq] at e
   obtain ⟨rfl, -, rfl⟩ := e
   go_wp2_with fail
   refine qD (by kernel_rfl) (by kernel_rfl) 0 (by decide) (by kernel_rfl) (fun _ W => Gii fM w (.slice (some ⟨b, off, none⟩) l.length c) (.slice (some ⟨b2, off2, none⟩) l.length c2) l W) [.slice (some ⟨b, off, none⟩) l.length c, .int .i64 (k : Int), .pointer (some ⟨b, off + k * 3, none⟩), (M3.at' l k).val, .slice (some ⟨b2, off2, none⟩) l.length c2, .int .i64 (k : Int), .pointer (some ⟨b2, off2 + k * 3, none⟩), (M3.at' l k).val, .bool false] hG.drew ?step ?done
   case step =>
    intro L ix o' A W hj hI hL hd
    have hin : ix < 9 := qB hj
    have hsz : A.tmps.size = 26 := hI.size
    have hg := hI.g
    rcases ix with _ | _ | _ | _ | _ | _ | _ | _ | _ | ix
    ·cases hj; exact am rfl rfl rfl (kv (hI.ol 0 rfl) hg)
    ·cases hj; exact am rfl rfl rfl (kv (hI.ol 5 rfl) hg)
    ·cases hj; exact zC rfl rfl (xQ okM rfl (hI.vl hd 0 rfl) (hI.vl hd 1 rfl) (by omega) (kk hg))
    ·cases hj; exact zC rfl rfl (jD okM rfl (hI.vl hd 2 rfl) (hg.sl.range okM (qM (by omega))) (kk hg))
    ·cases hj; exact am rfl rfl rfl (kv (hI.ol 1 rfl) hg)
    ·cases hj; exact am rfl rfl rfl (kv (hI.ol 5 rfl) hg)
    ·cases hj; exact zC rfl rfl (xQ okM rfl (hI.vl hd 4 rfl) (hI.vl hd 5 rfl) (by omega) (kk hg))
    ·cases hj; exact zC rfl rfl (jD okM rfl (hI.vl hd 6 rfl) (hg.su.range okM (qM (by omega))) (kk hg))
    ·cases hj; exact zC rfl rfl (qP rfl (hI.vl hd 3 rfl) (hI.vl hd 7 rfl) (fun w => zKj _ _ _ w) (kk hg))
    omega
   case done =>
    intro A W hI
    have hg := hI.g
    have s25 := hI.ls 8 rfl rfl
    have hA := hI.frame [17, 18, 19, 20, 21, 22, 23, 24, 25] (by kernel_rfl)
    rw [hA]
    simp only [qJ, List.foldl_cons, List.foldl_nil, s25, Act.put, List.setIfInBounds_toArray, List.set_cons_zero, List.set_cons_succ]
    clear hA hI s25
    go_wp2
    go_roundw
    case rel => exact ⟨k + 1, by omega, by go_num, hg⟩
    case measure => simp [intOf]; omega
  ·have hbel := hG.bel
   go_wp2
   go_ret
   exact ⟨rfl, hbel⟩
theorem zKk (m : M3) (x y : Operand) (w : World) : (do eqGuard .neq 82 x y m.val m.val; binOp .neq 82 m.val m.val : Sem Value).run Tryz.prog w = .ok (.bool false) w := by
 obtain ⟨t, k, v⟩ := m
 have h1 : Tryz.prog.underlying 82 = some (.struct _) := Tryz.underlying82
 simp [go_sem, M3.val, h1]
theorem zJh (v u : Value) (l : List M3) (w : World) (h1 : SlF fE w v l) (h2 : SlF fE w u l) :
  Calls Tryz.prog 172 #[v, u] w fun e w' => e = .returned (.bool true) ∧ Below w.heap.size w w' := by
 have hG : Gii fE w v u l w := ⟨h1, h2, Below.refl _ _⟩
 obtain ⟨a, c, rfl, -, hlc, hcm, -⟩ := h1
 obtain ⟨a2, c2, rfl, -, hlc2, hcm2, -⟩ := h2
 unfold maxLen at hcm hcm2
 have hll : ((l.length : Int) != (l.length : Int)) = false := by simp
 go_enter Tryz.func172, Tryz.ntmps172
 go_wp2_with fail
 go_loopw [5] (fun i wr => ∃ k : Nat, k ≤ l.length ∧ i = .int .i64 k ∧ Gii fE w (.slice a l.length c) (.slice a2 l.length c2) l wr) (fun i _ => l.length - (intOf i).toNat)
 case atStart => exact ⟨0, Nat.zero_le _, rfl, hG⟩
 case round =>
  clear hG
  obtain ⟨k, hk, rfl, hG⟩ := hrel
  by_cases hlt : k < l.length
  ·obtain ⟨b, off, c', e, -, -, -⟩ := hG.sl.shape (by omega)
   simp only [Value.slice.injEq] at e
   obtain ⟨rfl, -, rfl⟩ := e
   obtain ⟨b2, off2, c2', e, -, -, -⟩ := hG.su.shape (by omega)
   simp only [Value.slice.injEq] at e
   obtain ⟨rfl, -, rfl⟩ := e
   go_wp2_with fail
   refine qD (by kernel_rfl) (by kernel_rfl) 0 (by decide) (by kernel_rfl) (fun _ W => Gii fE w (.slice (some ⟨b, off, none⟩) l.length c) (.slice (some ⟨b2, off2, none⟩) l.length c2) l W) [.slice (some ⟨b, off, none⟩) l.length c, .int .i64 (k : Int), .pointer (some ⟨b, off + k * 3, none⟩), (M3.at' l k).val, .slice (some ⟨b2, off2, none⟩) l.length c2, .int .i64 (k : Int), .pointer (some ⟨b2, off2 + k * 3, none⟩), (M3.at' l k).val, .bool false] hG.drew ?step ?done
   case step =>
    intro L ix o' A W hj hI hL hd
    have hin : ix < 9 := qB hj
    have hsz : A.tmps.size = 26 := hI.size
    have hg := hI.g
    rcases ix with _ | _ | _ | _ | _ | _ | _ | _ | _ | ix
    ·cases hj; exact am rfl rfl rfl (kv (hI.ol 0 rfl) hg)
    ·cases hj; exact am rfl rfl rfl (kv (hI.ol 5 rfl) hg)
    ·cases hj; exact zC rfl rfl (xQ okE rfl (hI.vl hd 0 rfl) (hI.vl hd 1 rfl) (by omega) (kk hg))
    ·cases hj; exact zC rfl rfl (jD okE rfl (hI.vl hd 2 rfl) (hg.sl.range okE (qM (by omega))) (kk hg))
    ·cases hj; exact am rfl rfl rfl (kv (hI.ol 1 rfl) hg)
    ·cases hj; exact am rfl rfl rfl (kv (hI.ol 5 rfl) hg)
    ·cases hj; exact zC rfl rfl (xQ okE rfl (hI.vl hd 4 rfl) (hI.vl hd 5 rfl) (by omega) (kk hg))
    ·cases hj; exact zC rfl rfl (jD okE rfl (hI.vl hd 6 rfl) (hg.su.range okE (qM (by omega))) (kk hg))
    ·cases hj; exact zC rfl rfl (qP rfl (hI.vl hd 3 rfl) (hI.vl hd 7 rfl) (fun w => zKk _ _ _ w) (kk hg))
    omega
   case done =>
    intro A W hI
    have hg := hI.g
    have s25 := hI.ls 8 rfl rfl
    have hA := hI.frame [17, 18, 19, 20, 21, 22, 23, 24, 25] (by kernel_rfl)
    rw [hA]
    simp only [qJ, List.foldl_cons, List.foldl_nil, s25, Act.put, List.setIfInBounds_toArray, List.set_cons_zero, List.set_cons_succ]
    clear hA hI s25
    go_wp2
    go_roundw
    case rel => exact ⟨k + 1, by omega, by go_num, hg⟩
    case measure => simp [intOf]; omega
  ·have hbel := hG.bel
   go_wp2
   go_ret
   exact ⟨rfl, hbel⟩
theorem zKo (v u : Value) (l : List M3) (w : World) (h1 : SlF fE w v l) (h2 : SlF fE w u l) :
  Calls Tryz.prog 38 #[v, u] w fun e w' => e = .returned (.bool true) ∧ Below w.heap.size w w' := by
 have key : Calls Tryz.prog 99 #[v, u] w fun e w' => e = .returned (.bool true) ∧ Below w.heap.size w w' := by
  have H1 : Hid (SlF fE w v l) := h1
  have H2 : Hid (SlF fE w u l) := h2
  obtain ⟨a, c, rfl, -, hlc, hcm, -⟩ := h1
  obtain ⟨a2, c2, rfl, -, hlc2, hcm2, -⟩ := h2
  unfold maxLen at hcm hcm2
  have hll : ((l.length : Int) == (l.length : Int)) = true := by simp
  go_enter Tryz.func99, Tryz.ntmps99
  go_wp2_with (go_at_call 172; refine (zJh _ _ l _ H1.out H2.out).mono ?_; rintro e w1 ⟨rfl, hb1⟩)
  go_ret
  exact ⟨rfl, hb1⟩
 have hv := h1.one
 have hu := h2.one
 go_enter Tryz.func38, Tryz.ntmps38
 go_wp2_with (go_at_call 99; refine key.mono ?_; rintro e w1 ⟨rfl, hb1⟩)
 go_ret
 exact ⟨rfl, hb1⟩
structure Srd (w : World) (x y vo ve : Value) (s : St) : Prop where
 x : Sl w x s.m.rom
 y : Sl w y s.m.ram
 o : SlF fM w vo s.o
 e : SlF fE w ve s.e
theorem Srd.below {w w' : World} {x y vo ve : Value} {s : St} (h : Srd w x y vo ve s) (hb : Below w.heap.size w w') : Srd w' x y vo ve s := ⟨h.x.below hb, h.y.below hb, h.o.below hb, h.e.below hb⟩
theorem So.sr {base : Nat} {w : World} {x y vo ve : Value} {s : St} (h : So base w x y vo ve s) : Srd w x y vo ve s := ⟨h.ow.hx.sl, h.ow.hy.sl, h.o.sl okM, h.e.sl okE⟩
theorem zBn (v u : Value) (x y vo ve x' y' vo' ve' : Value) (s : St) (w : World) (hv : v = s.val x y vo ve) (hu : u = s.val x' y' vo' ve') (h1 : Srd w x y vo ve s) (h2 : Srd w x' y' vo' ve' s) :
  Calls Tryz.prog 18 #[v, u] w fun e w' => e = .returned (.bool true) ∧ Below w.heap.size w w' := by
 have hee : (s.u == s.u) = true := by simp
 go_enter Tryz.func18, Tryz.ntmps18
 go_wp2_with (first
  | (refine zEt rfl rfl hu ?_; intro w1 r1 hb1; have r0' := r0.below hb1; have q1 := q0.below hb1; have p1 := p0.below hb1; have B1 := zD hb0 hb1)
  | (refine zEt rfl rfl hv ?_; intro w0 r0 hb0; have q0 := h1.below hb0; have p0 := h2.below hb0)
  | (refine zJ1 rfl rfl rfl r0' ?_)
  | (refine zJ1 rfl rfl rfl r1 ?_)
  | (go_at_call 37; refine (zF8 x y x' y' s.m _ q1.x q1.y p1.x p1.y).mono ?_; rintro e w2 ⟨rfl, hb2⟩; have r2 := r0'.below hb2; have t2 := r1.below hb2; have q2 := q1.below hb2; have p2 := p1.below hb2; have B2 := zD B1 hb2; have ko := (sw r2).o; have ko' := (sw t2).o)
  | (go_at_call 19; refine (zAq _ _ s.o _ q2.o p2.o).mono ?_; rintro e w3 ⟨rfl, hb3⟩; have r3 := r2.below hb3; have t3 := t2.below hb3; have q3 := q2.below hb3; have p3 := p2.below hb3; have B3 := zD B2 hb3; have ke := (sw r3).e; have ke' := (sw t3).e)
  | (go_at_call 38; refine (zKo _ _ s.e _ q3.e p3.e).mono ?_; rintro e w4 ⟨rfl, hb4⟩; have r4 := r3.below hb4; have t4 := t3.below hb4; have B4 := zD B3 hb4; have ku := (sw r4).u; have ku' := (sw t4).u))
 go_ret
 exact ⟨rfl, B4⟩
theorem vT : ¬ Plain fE.T := fun h => h.2 rfl
theorem zBi : ¬ Plain fM.T := fun h => h.1 rfl
theorem zD1 (v x y vo ve : Value) (s : St) (q : Int) (w : World) (base : Nat) (hv : v = s.val x y vo ve) (h : So base w x y vo ve s) (hl : s.e.length ≤ 1000000) :
  Calls Tryz.prog 300 #[v, .int .i64 q] w fun e w' => ∃ ve', e = .returned ((s.through q).val x y vo ve') ∧ So base w' x y vo ve' (s.through q) ∧ Mild base w w' := by
 have hle := h.ow.le
 go_enter Tryz.func300, Tryz.ntmps300
 go_wp2_with (first
  | (refine zEt rfl rfl hv ?_; intro w0 r0 hB0)
  | (refine xV rfl rfl ?_; intro w1 z1 hB1; have r1 := r0.below hB1; have hB2 := hB0.trans (hB1.mono hB0.size); have l0 := r0.lt; have lz := z1.lt; have h1 := h.below hB2; have kf := (sw r1).fl)
  | (refine zCd (s' := { s with m := { s.m with fl := bits .or .i64 s.m.fl 2 } }) rfl rfl rfl rfl r1 rfl rfl ?_; rintro w2 r2 o2 -; have z2 := z1.onto o2 (by omega); have hB3 := zA hB2 o2 (by omega); have h2 := (h1.row o2 r1 zJ (by decide)).as (s' := { s with m := { s.m with fl := bits .or .i64 s.m.fl 2 } }) rfl rfl rfl rfl; have ke := (sw r2).e; have kd : w2.cell? ⟨w.heap.size, 18, none⟩ = some (.int .i64 s.m.p.d) := (sw r2).pd; have hal : Below w2.heap.size w2 (w2.alloc (.cells #[.int .i64 q, .int .i64 3, .int .i64 s.m.p.d] 82)) := (Below.refl _ _).alloc (Nat.le_refl _) _; have hlit := xO fE okE w2.heap.size w2 #[.int .i64 q, .int .i64 3, .int .i64 s.m.p.d] [⟨q, 3, s.m.p.d⟩] rfl (by unfold maxLen; simp) (Nat.le_refl _); have h3 := h2.below hal)
  | (at_builtin; refine appF okE rfl (.tmp 12) (.tmp 19) rfl base s.e [⟨q, 3, s.m.p.d⟩] h3.e (hlit.sl okE) (by simp; omega) (by have := h3.ow.le; omega) ?_; intro v4 w4 ho4 hg4)
  | (have t4 := Mild.grown vT h3.e hg4; have r4 := t4.row (r2.below hal) zJ; refine zHn (l := s.e ++ [⟨q, 3, s.m.p.d⟩]) rfl rfl rfl rfl r4 (ho4.one okE) ?_; rintro w5 r5 o5 -)
  | (refine vP rfl rfl rfl r5 ?_)
  | (have z4 := (t4.row (z2.below hal) zJ).onto o5 (by omega); refine st_s rfl rfl rfl rfl z4 (zB h.ow.hx) (zB h.ow.hy) (h.o.one okM) (ho4.one okE) ?_; rintro w6 r6 o6 -))
 refine zDu rfl rfl r6 rfl ?_
 have h4 : So base w4 x y vo v4 (s.through q) := ⟨(t4.ow h3.ow).as rfl rfl, h3.o.grown hg4 (fun k hk e => (OwnF.apart h3.e h3.o (by decide)) k hk e), ho4⟩
 have h5 := h4.row o5 r4 zJ (by decide)
 have h6 := h5.row o6 z4 zJ (by decide)
 exact ⟨v4, rfl, h6, ((((Mild.of hB3).trans (Mild.of hal)).trans t4).new o5 (by omega)).new o6 (by omega)⟩
abbrev PRow (w : World) (g : Nat) (p : Sr) : Prop := Row w g #[.int .i64 p.d, .bool p.b, .bool p.l, .int .i64 p.n, .int .i64 p.x, .bool p.t] 28
section
variable {ops : Array Oper} {rest : List Oper} {op : Oper} {a : Act} {w : World} {Q : Exit → Act → World → Prop} {p q : Operand} {g : Nat} {r r0 : Sr}
theorem al_p (hgd : op.guard = none) (ho : op.op = .alloc 28)
  (h : ∀ w', PRow w' w.heap.size Sr.nul → Below w.heap.size w w' → wpList Tryz.prog ops Q rest (a.put op.dst (.pointer (some ⟨w.heap.size, 0, none⟩))) w') : wpList Tryz.prog ops Q (op :: rest) a w :=
 wpList_plain hgd fun _ hK => by
  have e : (execOp a.eval op).run Tryz.prog w = .ok (.value (.pointer (some ⟨w.heap.size, 0, none⟩))) (w.alloc (.cells #[.int .i64 0, .bool false, .bool false, .int .i64 0, .int .i64 0, .bool false] 28)) := by
   unfold execOp
   rw [ho]
   kernel_rfl
  unfold Oper.wp
  rw [e]
  exact hK _ _ (h _ (Row.new _ _ _) ((Below.refl _ _).alloc (Nat.le_refl _) _))
theorem zLd (hgd : op.guard = none) (ho : op.op = .store 28 p q) (hx : a.eval p = .pointer (some ⟨g, 0, none⟩)) (hy : a.eval q = r.val) (hr : PRow w g r0)
  (h : ∀ w', PRow w' g r → Onto g w w' → wpList Tryz.prog ops Q rest (a.put op.dst undef) w') : wpList Tryz.prog ops Q (op :: rest) a w :=
 zBf hgd _ p q ho hx hy hr zU rfl (by simp [Value.oneCell']) (fun w' h1 h2 _ => h w' h1 h2)
theorem zEq (hgd : op.guard = none) (ho : op.op = .load 28 p) (hx : a.eval p = .pointer (some ⟨g, 0, none⟩)) (hr : PRow w g r) (h : wpList Tryz.prog ops Q rest (a.put op.dst r.val) w) : wpList Tryz.prog ops Q (op :: rest) a w :=
 zF9 hgd _ p ho hx hr Tryz.underlying28 rfl zU h
end
theorem zKf : Plain 28 := ⟨by decide, by decide⟩
def Arrd (base : Nat) (w w' : World) (e : Ending) (x y : Value) (s : St) : Prop := ∃ vo ve, e = .returned (s.val x y vo ve) ∧ So base w' x y vo ve s ∧ Mild base w w'
theorem zI9 (v x y vo ve : Value) (s : St) (m : M3) (w : World) (base : Nat) (hv : v = s.val x y vo ve) (h : So base w x y vo ve s) (h1 : m.k ≠ 1) (h2 : m.k ≠ 2) (h3 : m.k ≠ 3) :
  Calls Tryz.prog 224 #[v, m.val] w fun e w' => Arrd base w w' e x y s := by
 have hle := h.ow.le
 obtain ⟨vm, hvm⟩ : ∃ vm, vm = m.val := ⟨_, rfl⟩
 rw [← hvm]
 have b1 : (m.k == 1) = false := by simpa using h1
 have b2 : (m.k == 2) = false := by simpa using h2
 have b3 : (m.k == 3) = false := by simpa using h3
 clear h1 h2 h3
 go_enter Tryz.func224, Tryz.ntmps224
 go_wp2_with (first
  | (refine zEt rfl rfl hv ?_; intro w0 r0 hB0)
  | (refine xD rfl rfl hvm ?_; intro w1 m1 hB1)
  | (refine xV rfl rfl ?_; intro w2 z2 hB2; have hB3 := zD (zD hB0 hB1) hB2; have r2 := (r0.below hB1).below hB2; have m2 := m1.below hB2; have l0 := r0.lt; have l1 := m1.lt; have lz := z2.lt; have km : w2.cell? ⟨w0.heap.size, 1, none⟩ = some (.int .i64 m.k) := m2.cell 1)
  | (refine vP rfl rfl rfl r2 ?_)
  | (refine st_s rfl rfl rfl rfl z2 (zB h.ow.hx) (zB h.ow.hy) (h.o.one okM) (h.e.one okE) ?_; rintro w6 r6 o6 -))
 refine zDu rfl rfl r6 rfl ?_
 have hs := (h.below hB3).row o6 z2 zJ (by decide)
 exact ⟨vo, ve, rfl, hs, (Mild.of hB3).new o6 (by omega)⟩
theorem zJa (v x y vo ve : Value) (s : St) (m : M3) (w : World) (base : Nat) (hv : v = s.val x y vo ve) (h : So base w x y vo ve s) (h3 : m.k = 3) :
  Calls Tryz.prog 224 #[v, m.val] w fun e w' => Arrd base w w' e x y { s with m := { s.m with ky := m.v, fl := bits .or .i64 s.m.fl 4 } } := by
 have hle := h.ow.le
 obtain ⟨vm, hvm⟩ : ∃ vm, vm = m.val := ⟨_, rfl⟩
 rw [← hvm]
 go_enter Tryz.func224, Tryz.ntmps224
 go_wp2_with (first
  | (refine zEt rfl rfl hv ?_; intro w0 r0 hB0)
  | (refine xD rfl rfl hvm ?_; intro w1 m1 hB1)
  | (refine xV rfl rfl ?_; intro w2 z2 hB2; have hB3 := zD (zD hB0 hB1) hB2; have r2 := (r0.below hB1).below hB2; have m2 := m1.below hB2; have l0 := r0.lt; have l1 := m1.lt; have lz := z2.lt; have km : w2.cell? ⟨w0.heap.size, 1, none⟩ = some (.int .i64 m.k) := m2.cell 1; rw [h3] at km; have kv : w2.cell? ⟨w0.heap.size, 2, none⟩ = some (.int .i64 m.v) := m2.cell 2)
  | (refine zCd (s' := { s with m := { s.m with ky := m.v } }) rfl rfl rfl rfl r2 rfl rfl ?_; rintro w3 r3 o3 -; have z3 := z2.onto o3 (by omega); have hB4 := zA hB3 o3 (by omega); have kf : w3.cell? ⟨w.heap.size, 11, none⟩ = some (.int .i64 s.m.fl) := (sw r3).fl)
  | (refine zCd (s' := { s with m := { s.m with ky := m.v, fl := bits .or .i64 s.m.fl 4 } }) rfl rfl rfl rfl r3 rfl rfl ?_; rintro w4 r4 o4 -; have z4 := z3.onto o4 (by omega); have hB5 := zA hB4 o4 (by omega))
  | (refine vP rfl rfl rfl r4 ?_)
  | (refine st_s rfl rfl rfl rfl z4 (zB h.ow.hx) (zB h.ow.hy) (h.o.one okM) (h.e.one okE) ?_; rintro w6 r6 o6 -))
 refine zDu rfl rfl r6 rfl ?_
 have hs := ((h.below hB5).as (s' := { s with m := { s.m with ky := m.v, fl := bits .or .i64 s.m.fl 4 } }) rfl rfl rfl rfl).row o6 z4 zJ (by decide)
 exact ⟨vo, ve, rfl, hs, (Mild.of hB5).new o6 (by omega)⟩
theorem zG6 (v x y vo ve : Value) (s : St) (m : M3) (w : World) (base : Nat) (hv : v = s.val x y vo ve) (h : So base w x y vo ve s) (hk : m.k = 2) (X : Sr) (HX : Hid (s.m.p.answer m.v m.t = (X, false))) :
  Calls Tryz.prog 224 #[v, m.val] w fun e w' => Arrd base w w' e x y (s.port X) := by
 have hle := h.ow.le
 obtain ⟨vm, hvm⟩ : ∃ vm, vm = m.val := ⟨_, rfl⟩
 rw [← hvm]
 go_enter Tryz.func224, Tryz.ntmps224
 go_wp2_with (first
  | (refine zEt rfl rfl hv ?_; intro w0 r0 hB0)
  | (refine xD rfl rfl hvm ?_; intro w1 m1 hB1)
  | (refine xV rfl rfl ?_; intro w2 z2 hB2; have hB3 := zD (zD hB0 hB1) hB2; have r2 := (r0.below hB1).below hB2; have m2 := m1.below hB2; have l0 := r0.lt; have l1 := m1.lt; have lz := z2.lt; have km : w2.cell? ⟨w0.heap.size, 1, none⟩ = some (.int .i64 m.k) := m2.cell 1; rw [hk] at km; have kv : w2.cell? ⟨w0.heap.size, 2, none⟩ = some (.int .i64 m.v) := m2.cell 2; have kt : w2.cell? ⟨w0.heap.size, 0, none⟩ = some (.int .i64 m.t) := m2.cell 0)
  | (refine zH7 rfl rfl rfl r2 ?_)
  | (go_at_call 299; refine (zCo s.m.p m.v m.t _).mono ?_; rw [HX.out]; rintro e w3 ⟨rfl, hb3⟩; have r3 := r2.below hb3; have z3 := z2.below hb3; have m3 := m2.below hb3; have hB4 := zD hB3 hb3; clear km kv kt)
  | (refine zHm rfl rfl rfl rfl r3 ?_; rintro w4 r4 o4 -; have z4 := z3.onto o4 (by omega); have m4 := m3.onto o4 (by omega); have hB5 := zA hB4 o4 (by omega); have kt4 : w4.cell? ⟨w0.heap.size, 0, none⟩ = some (.int .i64 m.t) := m4.cell 0; have h5 := (h.below hB5).as (s' := s.port X) rfl rfl rfl rfl)
  | (refine vP rfl rfl rfl r4 ?_)
  | (refine st_s rfl rfl rfl rfl z4 (zB h.ow.hx) (zB h.ow.hy) (h.o.one okM) (h.e.one okE) ?_; rintro w6 r6 o6 -))
 refine zDu rfl rfl r6 rfl ?_
 exact ⟨vo, ve, rfl, h5.row o6 z4 zJ (by decide), (Mild.of hB5).new o6 (by omega)⟩
theorem zFl (v x y vo ve : Value) (s : St) (m : M3) (w : World) (base : Nat) (hv : v = s.val x y vo ve) (h : So base w x y vo ve s) (hk : m.k = 2) (X : Sr) (HX : Hid (s.m.p.answer m.v m.t = (X, true))) (hl : s.e.length ≤ 1000000) :
  Calls Tryz.prog 224 #[v, m.val] w fun e w' => Arrd base w w' e x y ((s.port X).through m.t) := by
 have hle := h.ow.le
 obtain ⟨vm, hvm⟩ : ∃ vm, vm = m.val := ⟨_, rfl⟩
 rw [← hvm]
 go_enter Tryz.func224, Tryz.ntmps224
 go_wp2_with (first
  | (refine zEt rfl rfl hv ?_; intro w0 r0 hB0)
  | (refine xD rfl rfl hvm ?_; intro w1 m1 hB1)
  | (refine xV rfl rfl ?_; intro w2 z2 hB2; have hB3 := zD (zD hB0 hB1) hB2; have r2 := (r0.below hB1).below hB2; have m2 := m1.below hB2; have l0 := r0.lt; have l1 := m1.lt; have lz := z2.lt; have km : w2.cell? ⟨w0.heap.size, 1, none⟩ = some (.int .i64 m.k) := m2.cell 1; rw [hk] at km; have kv : w2.cell? ⟨w0.heap.size, 2, none⟩ = some (.int .i64 m.v) := m2.cell 2; have kt : w2.cell? ⟨w0.heap.size, 0, none⟩ = some (.int .i64 m.t) := m2.cell 0)
  | (refine zH7 rfl rfl rfl r2 ?_)
  | (go_at_call 299; refine (zCo s.m.p m.v m.t _).mono ?_; rw [HX.out]; rintro e w3 ⟨rfl, hb3⟩; have r3 := r2.below hb3; have z3 := z2.below hb3; have m3 := m2.below hb3; have hB4 := zD hB3 hb3; clear km kv kt)
  | (refine zHm rfl rfl rfl rfl r3 ?_; rintro w4 r4 o4 -; have z4 := z3.onto o4 (by omega); have m4 := m3.onto o4 (by omega); have hB5 := zA hB4 o4 (by omega); have kt4 : w4.cell? ⟨w0.heap.size, 0, none⟩ = some (.int .i64 m.t) := m4.cell 0; have h5 := (h.below hB5).as (s' := s.port X) rfl rfl rfl rfl)
  | (refine vP rfl rfl rfl r4 ?_)
  | (go_at_call 300; refine (zD1 _ x y vo ve (s.port X) m.t _ base rfl h5 hl).mono ?_; rintro e w5 ⟨ve5, rfl, h6, t5⟩; have z5 := t5.row z4 zJ)
  | (refine st_s rfl rfl rfl rfl z5 (zB h6.ow.hx) (zB h6.ow.hy) (h6.o.one okM) (h6.e.one okE) ?_; rintro w6 r6 o6 -))
 refine zDu rfl rfl r6 rfl ?_
 exact ⟨vo, ve5, rfl, h6.row o6 z5 zJ (by decide), ((Mild.of hB5).trans t5).new o6 (by omega)⟩
theorem zJb (v x y vo ve : Value) (s : St) (m : M3) (w : World) (base : Nat) (hv : v = s.val x y vo ve) (h : So base w x y vo ve s) (hk : m.k = 1) (X : Sr) (B : Int) (HX : Hid (s.m.p.beat m.v = (X, B, false))) (hT : 0 ≤ m.t ∧ m.t ≤ 1000000100) (hlo : s.o.length ≤ 1000000) :
  Calls Tryz.prog 224 #[v, m.val] w fun e w' => Arrd base w w' e x y ((s.port X).sends ⟨m.t + 8, 2, B⟩) := by
 have hle := h.ow.le
 obtain ⟨vm, hvm⟩ : ∃ vm, vm = m.val := ⟨_, rfl⟩
 rw [← hvm]
 go_enter Tryz.func224, Tryz.ntmps224
 go_wp2_with (first
  | (refine zEt rfl rfl hv ?_; intro w0 r0 hB0)
  | (refine xD rfl rfl hvm ?_; intro w1 m1 hB1)
  | (refine xV rfl rfl ?_; intro w2 z2 hB2; have hB3 := zD (zD hB0 hB1) hB2; have r2 := (r0.below hB1).below hB2; have m2 := m1.below hB2; have l0 := r0.lt; have l1 := m1.lt; have lz := z2.lt; have km : w2.cell? ⟨w0.heap.size, 1, none⟩ = some (.int .i64 m.k) := m2.cell 1; rw [hk] at km; have kv : w2.cell? ⟨w0.heap.size, 2, none⟩ = some (.int .i64 m.v) := m2.cell 2; have kt : w2.cell? ⟨w0.heap.size, 0, none⟩ = some (.int .i64 m.t) := m2.cell 0)
  | (refine zH7 rfl rfl rfl r2 ?_)
  | (go_at_call 298; refine (zDm s.m.p m.v _).mono ?_; rw [HX.out]; rintro e w3 ⟨rfl, hb3⟩; have r3 := r2.below hb3; have z3 := z2.below hb3; have m3 := m2.below hb3; have hB4 := zD hB3 hb3; clear km kv kt)
  | (refine al_p rfl rfl ?_; intro w4 p4 hb4; have r4 := r3.below hb4; have z4 := z3.below hb4; have m4 := m3.below hb4; have lp := p4.lt; have hB5 := zD hB4 hb4; have s4 := hb4.size; have s3 := hb3.size)
  | (refine zLd rfl rfl rfl rfl p4 ?_; rintro w5 p5 o5; have r5 := r4.onto o5 (by have := r3.lt; omega); have z5 := z4.onto o5 (by have := z3.lt; omega); have m5 := m4.onto o5 (by have := m3.lt; omega); have hB6 := zA hB5 o5 (by have := hB4.size; omega))
  | (refine zEq rfl rfl rfl p5 ?_)
  | (refine zHm rfl rfl rfl rfl r5 ?_; rintro w6 r6 o6 -; have z6 := z5.onto o6 (by omega); have m6 := m5.onto o6 (by omega); have hB7 := zA hB6 o6 (by omega); have kt6 : w6.cell? ⟨w0.heap.size, 0, none⟩ = some (.int .i64 m.t) := m6.cell 0; have ko6 := (sw r6).o; have h6 := (h.below hB7).as (s' := s.port X) rfl rfl rfl rfl; have hal : Below w6.heap.size w6 (w6.alloc (.cells #[.int .i64 (m.t + 8), .int .i64 2, .int .i64 B] 40)) := (Below.refl _ _).alloc (Nat.le_refl _) _; have hlit := xO fM okM w6.heap.size w6 #[.int .i64 (m.t + 8), .int .i64 2, .int .i64 B] [⟨m.t + 8, 2, B⟩] rfl (by unfold maxLen; simp) (Nat.le_refl _); have h7 := h6.below hal)
  | (at_builtin; refine appF okM rfl (.tmp 30) (.tmp 36) rfl base s.o [⟨m.t + 8, 2, B⟩] h7.o (hlit.sl okM) (by simp; omega) (by have := h7.ow.le; omega) ?_; intro v8 w8 ho8 hg8; have t8 := Mild.grown zBi h7.o hg8; have r8 := t8.row (r6.below hal) zJ; have z8 := t8.row (z6.below hal) zJ; have h8 : So base w8 x y v8 ve ((s.port X).sends ⟨m.t + 8, 2, B⟩) := ⟨(t8.ow h7.ow).as rfl rfl, ho8, h7.e.grown hg8 (fun k hk e => (OwnF.apart h7.o h7.e (by decide)) k hk e)⟩; have T8 := ((Mild.of (base := base) hB7).trans (Mild.of hal)).trans t8; have kt8 : w8.cell? ⟨w0.heap.size, 0, none⟩ = some (.int .i64 m.t) := by have hm : jQ (w6.alloc (.cells #[.int .i64 (m.t + 8), .int .i64 2, .int .i64 B] 40)) w0.heap.size m := m6.below hal; have hq : w8.heap[w0.heap.size]? = _ := hg8.block w0.heap.size hm.lt (fun e => by have := (h.o.lt _ e.symm).2; omega); exact (World.cell?_of_block (a := ⟨w0.heap.size, 0, none⟩) hq).trans (hm.cell 0))
  | (refine zLc (l := s.o ++ [⟨m.t + 8, 2, B⟩]) rfl rfl rfl rfl r8 (ho8.one okM) ?_; rintro w9 r9 o9 -; have z9 := z8.onto o9 (by omega); have h9 := h8.row o9 r8 zJ (by decide); have T9 := T8.new o9 (by omega); have kt9 : w9.cell? ⟨w0.heap.size, 0, none⟩ = some (.int .i64 m.t) := (o9.cell (q := ⟨w0.heap.size, 0, none⟩) (by show w0.heap.size ≠ w.heap.size; omega) (zAs kt8)).trans kt8; clear kt8 kt6)
  | (refine vP rfl rfl rfl r9 ?_)
  | (refine st_s rfl rfl rfl rfl z9 (zB h9.ow.hx) (zB h9.ow.hy) (h9.o.one okM) (h9.e.one okE) ?_; rintro w10 r10 o10 -))
 refine zDu rfl rfl r10 rfl ?_
 exact ⟨v8, ve, rfl, h9.row o10 z9 zJ (by decide), T9.new o10 (by omega)⟩
theorem zG5 (v x y vo ve : Value) (s : St) (m : M3) (w : World) (base : Nat) (hv : v = s.val x y vo ve) (h : So base w x y vo ve s) (hk : m.k = 1) (X : Sr) (B : Int) (HX : Hid (s.m.p.beat m.v = (X, B, true))) (hT : 0 ≤ m.t ∧ m.t ≤ 1000000100) (hlo : s.o.length ≤ 1000000) (hl : s.e.length ≤ 1000000) :
  Calls Tryz.prog 224 #[v, m.val] w fun e w' => Arrd base w w' e x y (((s.port X).sends ⟨m.t + 8, 2, B⟩).through m.t) := by
 have hle := h.ow.le
 obtain ⟨vm, hvm⟩ : ∃ vm, vm = m.val := ⟨_, rfl⟩
 rw [← hvm]
 go_enter Tryz.func224, Tryz.ntmps224
 go_wp2_with (first
  | (refine zEt rfl rfl hv ?_; intro w0 r0 hB0)
  | (refine xD rfl rfl hvm ?_; intro w1 m1 hB1)
  | (refine xV rfl rfl ?_; intro w2 z2 hB2; have hB3 := zD (zD hB0 hB1) hB2; have r2 := (r0.below hB1).below hB2; have m2 := m1.below hB2; have l0 := r0.lt; have l1 := m1.lt; have lz := z2.lt; have km : w2.cell? ⟨w0.heap.size, 1, none⟩ = some (.int .i64 m.k) := m2.cell 1; rw [hk] at km; have kv : w2.cell? ⟨w0.heap.size, 2, none⟩ = some (.int .i64 m.v) := m2.cell 2; have kt : w2.cell? ⟨w0.heap.size, 0, none⟩ = some (.int .i64 m.t) := m2.cell 0)
  | (refine zH7 rfl rfl rfl r2 ?_)
  | (go_at_call 298; refine (zDm s.m.p m.v _).mono ?_; rw [HX.out]; rintro e w3 ⟨rfl, hb3⟩; have r3 := r2.below hb3; have z3 := z2.below hb3; have m3 := m2.below hb3; have hB4 := zD hB3 hb3; clear km kv kt)
  | (refine al_p rfl rfl ?_; intro w4 p4 hb4; have r4 := r3.below hb4; have z4 := z3.below hb4; have m4 := m3.below hb4; have lp := p4.lt; have hB5 := zD hB4 hb4; have s4 := hb4.size; have s3 := hb3.size)
  | (refine zLd rfl rfl rfl rfl p4 ?_; rintro w5 p5 o5; have r5 := r4.onto o5 (by have := r3.lt; omega); have z5 := z4.onto o5 (by have := z3.lt; omega); have m5 := m4.onto o5 (by have := m3.lt; omega); have hB6 := zA hB5 o5 (by have := hB4.size; omega))
  | (refine zEq rfl rfl rfl p5 ?_)
  | (refine zHm rfl rfl rfl rfl r5 ?_; rintro w6 r6 o6 -; have z6 := z5.onto o6 (by omega); have m6 := m5.onto o6 (by omega); have hB7 := zA hB6 o6 (by omega); have kt6 : w6.cell? ⟨w0.heap.size, 0, none⟩ = some (.int .i64 m.t) := m6.cell 0; have ko6 := (sw r6).o; have h6 := (h.below hB7).as (s' := s.port X) rfl rfl rfl rfl; have hal : Below w6.heap.size w6 (w6.alloc (.cells #[.int .i64 (m.t + 8), .int .i64 2, .int .i64 B] 40)) := (Below.refl _ _).alloc (Nat.le_refl _) _; have hlit := xO fM okM w6.heap.size w6 #[.int .i64 (m.t + 8), .int .i64 2, .int .i64 B] [⟨m.t + 8, 2, B⟩] rfl (by unfold maxLen; simp) (Nat.le_refl _); have h7 := h6.below hal)
  | (at_builtin; refine appF okM rfl (.tmp 30) (.tmp 36) rfl base s.o [⟨m.t + 8, 2, B⟩] h7.o (hlit.sl okM) (by simp; omega) (by have := h7.ow.le; omega) ?_; intro v8 w8 ho8 hg8; have t8 := Mild.grown zBi h7.o hg8; have r8 := t8.row (r6.below hal) zJ; have z8 := t8.row (z6.below hal) zJ; have h8 : So base w8 x y v8 ve ((s.port X).sends ⟨m.t + 8, 2, B⟩) := ⟨(t8.ow h7.ow).as rfl rfl, ho8, h7.e.grown hg8 (fun k hk e => (OwnF.apart h7.o h7.e (by decide)) k hk e)⟩; have T8 := ((Mild.of (base := base) hB7).trans (Mild.of hal)).trans t8; have kt8 : w8.cell? ⟨w0.heap.size, 0, none⟩ = some (.int .i64 m.t) := by have hm : jQ (w6.alloc (.cells #[.int .i64 (m.t + 8), .int .i64 2, .int .i64 B] 40)) w0.heap.size m := m6.below hal; have hq : w8.heap[w0.heap.size]? = _ := hg8.block w0.heap.size hm.lt (fun e => by have := (h.o.lt _ e.symm).2; omega); exact (World.cell?_of_block (a := ⟨w0.heap.size, 0, none⟩) hq).trans (hm.cell 0))
  | (refine zLc (l := s.o ++ [⟨m.t + 8, 2, B⟩]) rfl rfl rfl rfl r8 (ho8.one okM) ?_; rintro w9 r9 o9 -; have z9 := z8.onto o9 (by omega); have h9 := h8.row o9 r8 zJ (by decide); have T9 := T8.new o9 (by omega); have kt9 : w9.cell? ⟨w0.heap.size, 0, none⟩ = some (.int .i64 m.t) := (o9.cell (q := ⟨w0.heap.size, 0, none⟩) (by show w0.heap.size ≠ w.heap.size; omega) (zAs kt8)).trans kt8; clear kt8 kt6)
  | (refine vP rfl rfl rfl r9 ?_)
  | (go_at_call 300; refine (zD1 _ x y v8 ve ((s.port X).sends ⟨m.t + 8, 2, B⟩) m.t _ base rfl h9 hl).mono ?_; rintro e w10 ⟨ve10, rfl, h10, t10⟩; have z10 := t10.row z9 zJ)
  | (refine st_s rfl rfl rfl rfl z10 (zB h10.ow.hx) (zB h10.ow.hy) (h10.o.one okM) (h10.e.one okE) ?_; rintro w11 r11 o11 -))
 refine zDu rfl rfl r11 rfl ?_
 exact ⟨v8, ve10, rfl, h10.row o11 z10 zJ (by decide), (T9.trans t10).new o11 (by omega)⟩
theorem zC2 (v x y vo ve : Value) (s : St) (m : M3) (w : World) (base : Nat) (hv : v = s.val x y vo ve) (h : So base w x y vo ve s) (hT : 0 ≤ m.t ∧ m.t ≤ 1000000100) (hlo : s.o.length ≤ 1000000) (hl : s.e.length ≤ 1000000) :
  Calls Tryz.prog 224 #[v, m.val] w fun e w' => Arrd base w w' e x y (s.arrive m) := by
 by_cases h1 : m.k = 1
 ·obtain ⟨X, B, I, hX⟩ : ∃ X B I, s.m.p.beat m.v = (X, B, I) := ⟨_, _, _, rfl⟩
  unfold St.arrive
  rw [if_pos h1, hX]
  cases I
  ·exact zJb v x y vo ve s m w base hv h h1 X B hX hT hlo
  ·exact zG5 v x y vo ve s m w base hv h h1 X B hX hT hlo hl
 by_cases h2 : m.k = 2
 ·obtain ⟨X, I, hX⟩ : ∃ X I, s.m.p.answer m.v m.t = (X, I) := ⟨_, _, rfl⟩
  unfold St.arrive
  rw [if_neg h1, if_pos h2, hX]
  cases I
  ·exact zG6 v x y vo ve s m w base hv h h2 X hX
  ·exact zFl v x y vo ve s m w base hv h h2 X hX hl
 by_cases h3 : m.k = 3
 ·unfold St.arrive
  rw [if_neg h1, if_neg h2, if_pos h3]
  exact zJa v x y vo ve s m w base hv h h3
 ·unfold St.arrive
  rw [if_neg h1, if_neg h2, if_neg h3]
  exact zI9 v x y vo ve s m w base hv h h1 h2 h3
end Go.Proofs.YtamldhflkfbdnaaGreatDoor.Mem
namespace Go.Proofs.YtamldhflkfbdnaaGreatDoor.Tmr
open Go.ChangeShapes Go.WideShapes Go.RowKit Base Num Slc Rw Draw Reg

structure Gd (w : World) (p : Nat) (a : Option Addr) (len cap : Nat) (b5 b2 : Nat) (t : Tm) (W : World) : Prop where
 cur : jR W p a len cap
 r5 : Row W b5 #[.int .i64 t.c, .int .i64 t.v, .int .i64 t.s, .int .i64 t.m] 26
 r2 : ∃ u : Tm, Row W b2 #[.int .i64 u.c, .int .i64 u.v, .int .i64 u.s, .int .i64 u.m] 26
 bel : Below w.heap.size w W
structure Gp (w : World) (p : Nat) (a : Option Addr) (len : Nat) (b5 b2 : Nat) : Prop where
 np : w.heap.size ≤ p
 n2 : w.heap.size ≤ b2
 p2 : p ≠ b2
 p5 : p ≠ b5
 d52 : b5 ≠ b2
 old : 0 < len → ∀ x, a = some x → x.block < w.heap.size
theorem Gd.onto {w W W' : World} {p b5 b2 : Nat} {a : Option Addr} {len cap : Nat} {t : Tm} (h : Gd w p a len cap b5 b2 t W) (hp : Gp w p a len b5 b2) (ho : Onto p W W') (hc : jR W' p a len cap) : Gd w p a len cap b5 b2 t W' :=
 ⟨hc, h.r5.onto ho (Ne.symm hp.p5), h.r2.imp fun _ r => r.onto ho (Ne.symm hp.p2), zA h.bel ho hp.np⟩
theorem Gd.drew {w W : World} {p b5 b2 : Nat} {a : Option Addr} {len cap : Nat} {t : Tm} (h : Gd w p a len cap b5 b2 t W) : Gd w p a len cap b5 b2 t W.drew :=
 ⟨h.cur.drewN 1, h.r5.drewN 1, h.r2.imp fun _ r => r.drewN 1, h.bel.drew⟩
theorem Gd.store {w W : World} {p b5 b2 : Nat} {a : Option Addr} {len cap : Nat} {t : Tm} (h : Gd w p a len cap b5 b2 t W) (hp : Gp w p a len b5 b2) (u : Tm) : Gd w p a len cap b5 b2 t (W.setRow b2 #[.int .i64 u.c, .int .i64 u.v, .int .i64 u.s, .int .i64 u.m]) := by
 obtain ⟨q, hr⟩ := h.r2
 have ho : Onto b2 W (W.setRow b2 #[.int .i64 u.c, .int .i64 u.v, .int .i64 u.s, .int .i64 u.m]) := ⟨rfl, rfl, rfl, by simp, fun k hk _ => setRow_other W _ k _ hk⟩
 exact ⟨h.cur.onto ho hp.p2 (fun h0 x e => by have := hp.old h0 x e; have := hp.n2; omega), h.r5.onto ho hp.d52, ⟨u, Row.of (setRow_heap W _ _ _ _ _ hr.row)⟩, zA h.bel ho hp.n2⟩
theorem Tm.may_mk {t : Tm} {n : Int} (h : t.ok = true) (h0 : 0 ≤ n) (h1 : n ≤ 100000) (h2 : t.c + n ≤ 1000000000) : t.may n = true := by
 simp [Tm.may, h, inn, h0, h1, h2]
theorem Tm.after_yes {t : Tm} {n : Int} (h : t.may n = true) : t.after n = (⟨t.c + n, (jU t.s (jV t.c n (rate t.m)).toNat (t.v, 0)).1, t.s, t.m⟩, (jU t.s (jV t.c n (rate t.m)).toNat (t.v, 0)).2) := by simp [Tm.after, h]
theorem Tm.after_ok {t : Tm} {n : Int} (h : t.may n = true) : (t.after n).1.ok = true := by
 obtain ⟨hok, hn, hcn⟩ := Tm.may_true h
 obtain ⟨hc, hv, hs, hm⟩ := Tm.ok_true hok
 rw [Tm.after_yes h]
 exact Tm.ok_mk (by simp; omega) (zHj t.s hs _ _ _ hv) hs hm
end Go.Proofs.YtamldhflkfbdnaaGreatDoor.Tmr
