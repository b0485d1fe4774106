/-
  What the program reads at a place.
-/
import Derived.Test.YtocofjimkfffeaaGreatDoorMcRead
import Derived.Test.YtocofjimkfffeaaGreatDoorMcOkI
import Derived.Test.YtocofjimkfffeaaGreatDoorPorts
namespace Go.Proofs.YtocofjimkfffeaaGreatDoor.Mem
open Go.ChangeShapes Go.WideShapes Go.RowKit Base Num Slc Rw Tmr Srl Rom RomOf Mp
set_option linter.unusedVariables false
set_option linter.unusedSimpArgs false

theorem inRam_impl (q : Int) (w : World) :
    Calls Tryz.prog 65 #[.int .i64 q] w fun e w' => e = .returned (.bool (decide (128 ≤ q) && decide (q < 192))) ∧ w' = w := by
  by_cases h0 : 128 ≤ q
  · go_enter Tryz.func65, Tryz.ntmps65
    go_wp2
    go_ret
    exact ⟨ret_bool (by simp [h0]), rfl⟩
  · go_enter Tryz.func65, Tryz.ntmps65
    go_wp2
    go_ret
    exact ⟨ret_bool (by have : decide (128 ≤ q) = false := by simpa using h0
                        rw [this]; rfl), rfl⟩
theorem zero64 (w : World) : (zeroValue 2).run Tryz.prog w = .ok (.int .i64 0) w := by simp [go_sem]
theorem PortsAt.below {w w' : World} {b : Nat} {f : Int → Option Int} (h : PortsAt w b f) (hb : Below w.heap.size w w') : PortsAt w' b f := by
  obtain ⟨L, h1, h2⟩ := h
  exact ⟨L, h1.below hb, h2⟩
theorem PortsAt.onto {w w' : World} {b p : Nat} {f : Int → Option Int} (h : PortsAt w b f) (ho : Onto p w w') (hp : b ≠ p) : PortsAt w' b f := by
  obtain ⟨L, h1, h2⟩ := h
  exact ⟨L, h1.onto ho hp, h2⟩
theorem PortsAt.lt {w : World} {b : Nat} {f : Int → Option Int} (h : PortsAt w b f) : b < w.heap.size := by
  obtain ⟨L, h1, h2⟩ := h
  exact h1.lt
section
variable {ops : Array Oper} {rest : List Oper} {o : Oper} {a : Act} {w : World} {Q : Exit → Act → World → Prop} {x y z : Operand} {b : Nat} {q n : Int} {f : Int → Option Int}
theorem lk_ok (hgd : o.guard = none) (ho : o.op = .lookup 85 x y true) (hx : a.eval x = .map (some b)) (hy : a.eval y = .int .i64 q) (hM : PortsAt w b f)
    (h : wpList Tryz.prog ops Q rest (a.put o.dst (.tuple #[.int .i64 ((f q).getD 0), .bool (f q).isSome])) w) : wpList Tryz.prog ops Q (o :: rest) a w :=
  wpList_plain hgd fun _ hK => by
    obtain ⟨L, h1, _, h3⟩ := hM
    have e := (run_get (P := Tryz.prog) und_map Tryz.underlying2 (zero64 w) h1 q).2
    rw [h3] at e
    unfold Oper.wp execOp
    simp only [ho, hx, hy, Sem.run_bind, Result.andThen_ok, e]
    exact hK _ _ h
theorem lk_at (hgd : o.guard = none) (ho : o.op = .lookup 85 x y false) (hx : a.eval x = .map (some b)) (hy : a.eval y = .int .i64 q) (hM : PortsAt w b f)
    (h : wpList Tryz.prog ops Q rest (a.put o.dst (.int .i64 ((f q).getD 0))) w) : wpList Tryz.prog ops Q (o :: rest) a w :=
  wpList_plain hgd fun _ hK => by
    obtain ⟨L, h1, _, h3⟩ := hM
    have e := (run_get (P := Tryz.prog) und_map Tryz.underlying2 (zero64 w) h1 q).1
    rw [h3] at e
    unfold Oper.wp execOp
    simp only [ho, hx, hy, Sem.run_bind, Result.andThen_ok, e]
    exact hK _ _ h
theorem put_at (hgd : o.guard = none) (ho : o.op = .mapUpdate 85 x y z) (hx : a.eval x = .map (some b)) (hy : a.eval y = .int .i64 q) (hz : a.eval z = .int .i64 n) (hM : PortsAt w b f)
    (h : ∀ w', PortsAt w' b (fun k => if k = q then some n else f k) → Onto b w w' → wpList Tryz.prog ops Q rest (a.put o.dst undef) w') : wpList Tryz.prog ops Q (o :: rest) a w :=
  wpList_plain hgd fun _ hK => by
    obtain ⟨L, h1, h2, h3⟩ := hM
    obtain ⟨w', hr, m1, m2, m3⟩ := run_put (P := Tryz.prog) und_map Tryz.underlying2 h1 q n
    unfold Oper.wp execOp
    simp only [ho, hx, hy, hz, Sem.run_bind, Result.andThen_ok, hr]
    exact hK _ _ (h _ ⟨_, m1, Reg.mput_one L q n h2, fun k => by rw [mget_mput, h3]⟩ m2)
end
theorem read_port {m : Mc} {q : Int} (hR : Right m) (h1 : ¬ q < m.rom.length) (h2 : ¬ (128 ≤ q ∧ q < 192)) (h0 : 0 ≤ q) : m.read q = (m.port q).getD 255 := by
  have := hR.rom
  by_cases h : q < 128
  · have e : m.port q = none := by
      unfold Mc.port
      rw [if_neg (by omega), if_neg (by omega), if_neg (by omega), if_neg (by omega), if_neg (by omega), if_neg (by omega), if_neg (by omega), if_neg (by omega), if_neg (by omega)]
    rw [e]
    simp [Mc.read, h, h1]
  · have h3 : ¬ q < 192 := by omega
    simp only [Mc.read, h, h3, if_false, Mc.port]
    by_cases e0 : q = 240
    · simp [e0]
    by_cases e1 : q = 241
    · simp [e1, cable]
    by_cases e2 : q = 242
    · simp [e2]
    by_cases e3 : q = 243
    · simp [e3]
    by_cases e4 : q = 244
    · simp [e4]
    by_cases e5 : q = 245
    · simp [e5]
    by_cases e6 : q = 246
    · simp [e6]
    by_cases e7 : q = 247
    · simp [e7]
    by_cases e8 : q = 248
    · simp [e8]
    simp [e0, e1, e2, e3, e4, e5, e6, e7, e8]
set_option maxHeartbeats 1000000 in
theorem readAt_impl (v : Value) (m : Mc) (q : Int) (w : World) (hm : MSl w v m) :
    Calls Tryz.prog 31 #[v, .int .i64 q] w fun e w' => e = .returned (.int .i64 (m.readAt q)) ∧ Below w.heap.size w w' := by
  obtain ⟨vr, va, hv, ⟨ar, cr, rfl, hir, hlr, hcr, hnr⟩, ⟨aa, ca, rfl, hia, hla, hca, hna⟩⟩ := hm
  have hr : Sl w (.slice ar m.rom.length cr) m.rom := ⟨ar, cr, rfl, hir, hlr, hcr, hnr⟩
  have ha : Sl w (.slice aa m.ram.length ca) m.ram := ⟨aa, ca, rfl, hia, hla, hca, hna⟩
  unfold maxLen at hcr hca
  clear hnr hna
  cases hok : m.ok
  · have e : m.readAt q = -1 := by simp [Mc.readAt, hok]
    rw [e]
    go_enter Tryz.func31, Tryz.ntmps31
    go_wp2_with (first
      | (refine box_m rfl rfl hv ?_; intro w0 r0 hB0)
      | (refine ld_mc rfl rfl rfl r0 ?_)
      | (go_at_call 14; refine (machineOk_impl _ m _ ⟨_, _, rfl, hr.below hB0, ha.below hB0⟩).mono ?_; rintro e w1 ⟨rfl, hb1⟩; rw [hok]; have hB1 := hB0.trans (hb1.mono hB0.size)))
    go_ret
    exact ⟨rfl, hB1⟩
  cases hb : bok q
  · have e : m.readAt q = -1 := by simp [Mc.readAt, hb]
    rw [e]
    go_enter Tryz.func31, Tryz.ntmps31
    go_wp2_with (first
      | (refine box_m rfl rfl hv ?_; intro w0 r0 hB0)
      | (refine ld_mc rfl rfl rfl r0 ?_)
      | (go_at_call 14; refine (machineOk_impl _ m _ ⟨_, _, rfl, hr.below hB0, ha.below hB0⟩).mono ?_; rintro e w1 ⟨rfl, hb1⟩; rw [hok]; have hB1 := hB0.trans (hb1.mono hB0.size))
      | (go_at_call 48; refine (byteOk_impl _ _).mono ?_; rintro e w2 ⟨rfl, rfl⟩; rw [hb]))
    go_ret
    exact ⟨rfl, hB1⟩
  have e : m.readAt q = m.read q := by simp [Mc.readAt, hok, hb]
  rw [e]
  clear e
  have hq := bok_true hb
  have hR := Mc.right hok
  have hR1 := hR.rom
  have hR2 := hR.ram
  have hR3 := hR.tim
  by_cases hl : q < (m.rom.length : Int)
  · obtain ⟨k, rfl⟩ : ∃ k : Nat, q = (k : Int) := ⟨q.toNat, by omega⟩
    have e : m.read (k : Int) = m.rom.getD k 0 := by
      have : (k : Int) < 128 := by omega
      simp [Mc.read, this, hl]
    rw [e]
    have hkl : k < m.rom.length := by omega
    rcases hir.2 with h0 | ⟨b, off, rfl, hbl, hcell⟩
    · omega
    have hz := hcell k hkl
    generalize m.rom.getD k 0 = z at hz ⊢
    clear hcell hir hR2 e
    go_enter Tryz.func31, Tryz.ntmps31
    go_wp2_with (first
      | (refine box_m rfl rfl hv ?_; intro w0 r0 hB0)
      | (refine ld_mc rfl rfl rfl r0 ?_)
      | (go_at_call 14; refine (machineOk_impl _ m _ ⟨_, _, rfl, hr.below hB0, ha.below hB0⟩).mono ?_; rintro e w1 ⟨rfl, hb1⟩; rw [hok]; have hB1 := hB0.trans (hb1.mono hB0.size); replace r0 := r0.below hb1; have k0 := (cw r0).vr; have hz0 : w1.cell? ⟨b, off + k, none⟩ = some (.int .i64 z) := (hB1.cell (p := ⟨b, off + k, none⟩) hbl).trans hz)
      | (go_at_call 48; refine (byteOk_impl _ _).mono ?_; rintro e w2 ⟨rfl, rfl⟩; rw [hb]))
    go_ret
    exact ⟨rfl, hB1⟩
  by_cases hin : 128 ≤ q ∧ q < 192
  · obtain ⟨k, rfl⟩ : ∃ k : Nat, q = 128 + (k : Int) := ⟨(q - 128).toNat, by omega⟩
    have e : m.read (128 + (k : Int)) = m.ram.getD k 0 := by
      have h1 : ¬ (128 + (k : Int)) < 128 := by omega
      have h2 : (128 + (k : Int) - 128).toNat = k := by omega
      simp only [Mc.read, h1, hin.2, if_true, if_false, h2]
    rw [e]
    have hkl : k < m.ram.length := by omega
    rcases hia.2 with h0 | ⟨b, off, rfl, hbl, hcell⟩
    · omega
    have hz := hcell k hkl
    have hs : 128 + (k : Int) - 128 = (k : Int) := by omega
    have hi : (decide (128 ≤ 128 + (k : Int)) && decide (128 + (k : Int) < 192)) = true := by simp; omega
    generalize m.ram.getD k 0 = z at hz ⊢
    clear hcell hir e hR2 hia
    go_enter Tryz.func31, Tryz.ntmps31
    go_wp2_with (first
      | (refine box_m rfl rfl hv ?_; intro w0 r0 hB0)
      | (refine ld_mc rfl rfl rfl r0 ?_)
      | (go_at_call 14; refine (machineOk_impl _ m _ ⟨_, _, rfl, hr.below hB0, ha.below hB0⟩).mono ?_; rintro e w1 ⟨rfl, hb1⟩; rw [hok]; have hB1 := hB0.trans (hb1.mono hB0.size); replace r0 := r0.below hb1; have k0 := (cw r0).vr; have k1 := (cw r0).va; have hz0 : w1.cell? ⟨b, off + k, none⟩ = some (.int .i64 z) := (hB1.cell (p := ⟨b, off + k, none⟩) hbl).trans hz)
      | (go_at_call 48; refine (byteOk_impl _ _).mono ?_; rintro e w2 ⟨rfl, rfl⟩; rw [hb])
      | (go_at_call 65; refine (inRam_impl _ _).mono ?_; rintro e w2 ⟨rfl, rfl⟩; rw [hi]))
    go_ret
    exact ⟨rfl, hB1⟩
  have hi : (decide (128 ≤ q) && decide (q < 192)) = false := by simp; omega
  rw [read_port hR hl hin hq.1]
  have HP : Hid (Right m) := hR
  clear hir hia hR2
  cases hp : m.port q with
  | none =>
    go_enter Tryz.func31, Tryz.ntmps31
    go_wp2_with (first
      | (refine box_m rfl rfl hv ?_; intro w0 r0 hB0)
      | (refine ld_mc rfl rfl rfl r0 ?_)
      | (go_at_call 14; refine (machineOk_impl _ m _ ⟨_, _, rfl, hr.below hB0, ha.below hB0⟩).mono ?_; rintro e w1 ⟨rfl, hb1⟩; rw [hok]; have hB1 := hB0.trans (hb1.mono hB0.size); replace r0 := r0.below hb1; have k0 := (cw r0).vr)
      | (go_at_call 48; refine (byteOk_impl _ _).mono ?_; rintro e w2 ⟨rfl, rfl⟩; rw [hb])
      | (go_at_call 65; refine (inRam_impl _ _).mono ?_; rintro e w2 ⟨rfl, rfl⟩; rw [hi])
      | (go_at_call 66; refine (portsOf_impl _ m _ ⟨_, _, rfl, hr.below hB1, ha.below hB1⟩ hR3.1 hR3.2).mono ?_; rintro e w3 ⟨b3, rfl, hb3, hM3, hbe3⟩; have hB3 := hB1.trans (hbe3.mono hB1.size))
      | (refine lk_ok rfl rfl rfl rfl hM3 ?_; rw [hp]))
    go_ret
    exact ⟨rfl, hB3⟩
  | some n =>
    go_enter Tryz.func31, Tryz.ntmps31
    go_wp2_with (first
      | (refine box_m rfl rfl hv ?_; intro w0 r0 hB0)
      | (refine ld_mc rfl rfl rfl r0 ?_)
      | (go_at_call 14; refine (machineOk_impl _ m _ ⟨_, _, rfl, hr.below hB0, ha.below hB0⟩).mono ?_; rintro e w1 ⟨rfl, hb1⟩; rw [hok]; have hB1 := hB0.trans (hb1.mono hB0.size); replace r0 := r0.below hb1; have k0 := (cw r0).vr)
      | (go_at_call 48; refine (byteOk_impl _ _).mono ?_; rintro e w2 ⟨rfl, rfl⟩; rw [hb])
      | (go_at_call 65; refine (inRam_impl _ _).mono ?_; rintro e w2 ⟨rfl, rfl⟩; rw [hi])
      | (go_at_call 66; refine (portsOf_impl _ m _ ⟨_, _, rfl, hr.below hB1, ha.below hB1⟩ hR3.1 hR3.2).mono ?_; rintro e w3 ⟨b3, rfl, hb3, hM3, hbe3⟩; have hB3 := hB1.trans (hbe3.mono hB1.size))
      | (refine lk_ok rfl rfl rfl rfl hM3 ?_; rw [hp]))
    go_ret
    exact ⟨rfl, hB3⟩
end Go.Proofs.YtocofjimkfffeaaGreatDoor.Mem
