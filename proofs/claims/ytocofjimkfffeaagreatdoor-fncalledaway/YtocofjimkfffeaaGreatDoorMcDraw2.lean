/-
  The frame behind a drawn region: as it was, but for the slots that the region fills. Lists of byte numbers that the draws write out, in drawn regions. What the draws of codes give: short lists of byte numbers. What stands while a machine is drawn.
-/
import Derived.Test.YtocofjimkfffeaaGreatDoorRegs
import Derived.Test.YtocofjimkfffeaaGreatDoorMcNew
import Derived.Test.YtocofjimkfffeaaGreatDoorMcRead
import Derived.Test.YtocofjimkfffeaaGreatDoorDraw
import Derived.Test.YtocofjimkfffeaaGreatDoorOp
import Derived.Laws.AppendOwn
import Derived.Test.YtocofjimkfffeaaGreatDoorDrawRom
import Derived.Test.YtocofjimkfffeaaGreatDoorTmrDraw
import Derived.Test.YtocofjimkfffeaaGreatDoorSrlDraw
namespace Go.Proofs.YtocofjimkfffeaaGreatDoor.Mem
open Go.ChangeShapes Go.WideShapes Go.RowKit Base Draw Slc Num Rw Tmr Srl Rom RomOf Reg
set_option linter.unusedVariables false
set_option linter.unusedSimpArgs false

/-- A new list of n byte numbers, apart from v. -/
def LB (base : Nat) (v : Value) (n : Nat) (x : Value) (W : World) : Prop := ∃ l : List Int, l.length = n ∧ l.all bok = true ∧ Own base W x l ∧ Apart v x
/-- The place of a byte number in such a list. -/
def PB (base : Nat) (v : Value) (x : Value) (W : World) : Prop := ∃ (b r : Nat) (z : Int), x = .pointer (some ⟨b, r, none⟩) ∧ W.cell? ⟨b, r, none⟩ = some (.int .i64 z) ∧ 0 ≤ z ∧ z ≤ 255 ∧ base ≤ b ∧ v.ownBlock ≠ some b
def BY (x : Value) : Prop := ∃ z : Int, x = .int .i64 z ∧ 0 ≤ z ∧ z ≤ 255
def IX (n : Int) (x : Value) : Prop := ∃ r : Nat, x = .int .i64 (r : Int) ∧ (r : Int) < n
theorem LB.onto {base p n : Nat} {v x : Value} {W W' : World} (h : LB base v n x W) (ho : Onto p W W') (hp : p < base) : LB base v n x W' := by
  obtain ⟨l, h1, h2, h3, h4⟩ := h
  exact ⟨l, h1, h2, h3.onto ho (fun e => by have := (h3.lt _ e).1; omega), h4⟩
theorem LB.grown {base n : Nat} {v x : Value} {W W' : World} (h : LB base v n x W) (hg : W.grownBy W' v.ownBlock) : LB base v n x W' := by
  obtain ⟨l, h1, h2, h3, h4⟩ := h
  exact ⟨l, h1, h2, h3.grown hg (fun k hk => h4 k hk), h4⟩
theorem PB.onto {base p : Nat} {v x : Value} {W W' : World} (h : PB base v x W) (ho : Onto p W W') (hp : p < base) : PB base v x W' := by
  obtain ⟨b, r, z, h1, h2, h3⟩ := h
  exact ⟨b, r, z, h1, by rw [ho.cell (q := ⟨b, r, none⟩) (by show b ≠ p; omega) (cell_lt h2)]; exact h2, h3⟩
theorem PB.grown {base : Nat} {v x : Value} {W W' : World} (h : PB base v x W) (hg : W.grownBy W' v.ownBlock) : PB base v x W' := by
  obtain ⟨b, r, z, h1, h2, h3, h4, h5, h6⟩ := h
  exact ⟨b, r, z, h1, by rw [World.cell?_of_block (w := W) (a := ⟨b, r, none⟩) (hg.block b (cell_lt h2) (fun e => h6 e.symm))]; exact h2, h3, h4, h5, h6⟩
theorem LB.at {base n : Nat} {v x : Value} {W : World} (h : LB base v n x W) {r : Nat} (hr : r < n) : ∃ b c, x = .slice (some ⟨b, 0, none⟩) n c ∧ PB base v (.pointer (some ⟨b, r, none⟩)) W := by
  obtain ⟨l, h1, h2, h3, h4⟩ := h
  obtain ⟨g, cap, rfl, hg1, hg2, hg3, hg4⟩ := h3.block (by omega)
  refine ⟨g, cap, by rw [h1], g, r, l.getD r 0, rfl, h3.cellAt (by omega), (bytes_at h2 r (by omega)).1, (bytes_at h2 r (by omega)).2, hg1, fun e => h4 g e rfl⟩
theorem lb_lit {base : Nat} {v : Value} {W : World} (cs : Array Value) (l : List Int) (hc : cs.toList = l.map (Value.int .i64)) (hb : l.all bok = true) (hl : l.length ≤ maxLen) (hbase : base ≤ W.heap.size) (hv : ∀ k, v.ownBlock = some k → k < W.heap.size) :
    LB base v l.length (.slice (some ⟨W.heap.size, 0, none⟩) l.length l.length) (W.alloc (.cells cs 2)) :=
  ⟨l, rfl, hb, own_lit base W cs l hc hl hbase, fun k hk e => by have := hv k hk; simp [Value.ownBlock] at e; omega⟩
theorem below_onto_p {p : Nat} {W W' : World} (h : Below W.heap.size W W') : Onto p W W' := ⟨h.os, h.tape, h.output, h.size, fun k _ hk => h.block k hk⟩
theorem wp_app {o : Oper} {a : Act} {w : World} {K : Act → World → Prop} {Q : Exit → Act → World → Prop} (s x : Operand)
    (ho : o.op = .call { callee := .builtin .append, args := #[s, x], argTypes := #[24, 24] })
    (base : Nat) (l news : List Int) (hown : Own base w (a.eval s) l) (hn : Sl w (a.eval x) news) (hne : 0 < news.length) (hbd : l.length + news.length ≤ 17592186044416) (hbase : base ≤ w.heap.size)
    (h : ∀ v' w', Own base w' v' (l ++ news) → w.grownBy w' (a.eval s).ownBlock → K (a.put o.dst v') w') : o.wp Tryz.prog a w K Q := by
  obtain ⟨i0, hi, hz0, hz1, hz2⟩ := info_parts info64
  obtain ⟨ao, cap, hx, hat, hlc, hcm, hnil⟩ := hn
  rcases hat.2 with h0 | ⟨b, off, rfl, hbs, hc⟩
  · omega
  refine wp_append_own w s x 24 ho base 2 i0 (.int .i64 0) 1 8 und64 hi hz0 hz1 hz2 rfl (by decide) (a.eval s) l.length (l.map (Value.int .i64)) rfl hown ⟨b, off, none⟩ news.length cap (news.map (Value.int .i64)) hx (by simp) ?_ (ints_oneCell _ _) (by unfold maxLen; omega) (by omega) hbase ?_
  · intro j u hj
    have hjl : j < news.length := by
      have := (List.getElem?_eq_some_iff.1 hj).1
      simpa using this
    have hcj := hc j hjl
    have e : (⟨b, off, none⟩ : Addr).add j = ⟨b, off + j, none⟩ := by
      by_cases hi0 : j = 0 <;> simp [Addr.add, hi0]
    rw [e, hcj]
    simp [List.getElem?_eq_getElem hjl] at hj
    rw [← hj, List.getD_eq_getElem?_getD, List.getElem?_eq_getElem hjl]
    rfl
  · intro v' w' h2 h3 _
    refine h v' w' ?_ h3
    unfold Own
    rw [List.length_append, List.map_append]
    exact h2
end Go.Proofs.YtocofjimkfffeaaGreatDoor.Mem
namespace Go.Proofs.YtocofjimkfffeaaGreatDoor.Mem
open Go.ChangeShapes Go.WideShapes Go.RowKit Base Draw Slc Num Rw Tmr Srl Rom RomOf Reg
set_option linter.unusedVariables false
set_option linter.unusedSimpArgs false

/-- A step of the region that appends: the append alone may turn the list's block. -/
def RC (s : Nat) (p : Nat) (v : Value) (i : Nat) (W W' : World) : Prop := if i = s then W.grownBy W' v.ownBlock else Onto p W W'
theorem RC.onto {s p i : Nat} {v : Value} {W W' : World} (hi : i ≠ s) (h : Onto p W W') : RC s p v i W W' := by unfold RC; rw [if_neg hi]; exact h
theorem RC.app {s p : Nat} {v : Value} {W W' : World} (h : W.grownBy W' v.ownBlock) : RC s p v s W W' := by unfold RC; rw [if_pos rfl]; exact h
theorem RC.cases {s p i : Nat} {v : Value} {W W' : World} (h : RC s p v i W W') : Onto p W W' ∨ (W.grownBy W' v.ownBlock ∧ i = s) := by
  unfold RC at h
  split at h
  · exact .inr ⟨h, by assumption⟩
  · exact .inl h
def TCode (base p : Nat) (v : Value) (l : List Int) (j : Nat) (f : Nat → Value) (W : World) : Prop :=
  if j = 0 then (f 18) = v
  else if j = 1 then (f 19) = .pointer (some ⟨p, 0, none⟩)
  else if j = 2 then IX 256 (f 20)
  else if j = 3 then LB base v 3 (f 21) W
  else if j = 4 then (f 22) = .pointer (some ⟨p, 0, none⟩)
  else if j = 5 then IX 3 (f 23)
  else if j = 6 then PB base v (f 24) W
  else if j = 7 then BY (f 25)
  else if j = 8 then LB base v 5 (f 26) W
  else if j = 9 then (f 27) = .pointer (some ⟨p, 0, none⟩)
  else if j = 10 then IX 5 (f 28)
  else if j = 11 then PB base v (f 29) W
  else if j = 12 then BY (f 30)
  else if j = 13 then LB base v 4 (f 31) W
  else if j = 14 then ∃ l2 : List Int, Own base W (f 32) l2 ∧ l2.length = l.length + 4 ∧ l2.all bok = true
  else if j = 15 then (f 3) = (f 32)
  else True
def RCode (base p : Nat) (v : Value) (l : List Int) (i : Nat) (f' : Nat → Value) (W W' : World) : Prop := RC 14 p v i W W'
theorem monoCode (base p : Nat) (v : Value) (l : List Int) {ops : Array Oper} (hp : p < base) (hS : supOkX ops [[18], [19], [20], [21], [22], [23], [24], [25], [26], [27], [28], [29], [30], [31], [32], [3, 32]] (fun i j => false) = true) : MonoF ops (TCode base p v l) (RCode base p v l) := by
  refine mono_supF hS (fun i j f f' W W' hij hx hf hT hR => ?_) (fun i j f f' W W' oi hij hx hoi hf hT hR => ?_)
  · rcases j with _ | _ | _ | _ | _ | _ | _ | _ | _ | _ | _ | _ | _ | _ | _ | _ | j
    · have hT : (f 18) = v := hT
      show (f' 18) = v
      rw [hf 18 (by simp)]
      exact hT
    · have hT : (f 19) = .pointer (some ⟨p, 0, none⟩) := hT
      show (f' 19) = .pointer (some ⟨p, 0, none⟩)
      rw [hf 19 (by simp)]
      exact hT
    · have hT : IX 256 (f 20) := hT
      show IX 256 (f' 20)
      rw [hf 20 (by simp)]
      exact hT
    · have hT : LB base v 3 (f 21) W := hT
      show LB base v 3 (f' 21) W'
      rw [hf 21 (by simp)]
      rcases RC.cases hR with h | h; exact hT.onto h hp; exact hT.grown h.1
    · have hT : (f 22) = .pointer (some ⟨p, 0, none⟩) := hT
      show (f' 22) = .pointer (some ⟨p, 0, none⟩)
      rw [hf 22 (by simp)]
      exact hT
    · have hT : IX 3 (f 23) := hT
      show IX 3 (f' 23)
      rw [hf 23 (by simp)]
      exact hT
    · have hT : PB base v (f 24) W := hT
      show PB base v (f' 24) W'
      rw [hf 24 (by simp)]
      rcases RC.cases hR with h | h; exact hT.onto h hp; exact hT.grown h.1
    · have hT : BY (f 25) := hT
      show BY (f' 25)
      rw [hf 25 (by simp)]
      exact hT
    · have hT : LB base v 5 (f 26) W := hT
      show LB base v 5 (f' 26) W'
      rw [hf 26 (by simp)]
      rcases RC.cases hR with h | h; exact hT.onto h hp; exact hT.grown h.1
    · have hT : (f 27) = .pointer (some ⟨p, 0, none⟩) := hT
      show (f' 27) = .pointer (some ⟨p, 0, none⟩)
      rw [hf 27 (by simp)]
      exact hT
    · have hT : IX 5 (f 28) := hT
      show IX 5 (f' 28)
      rw [hf 28 (by simp)]
      exact hT
    · have hT : PB base v (f 29) W := hT
      show PB base v (f' 29) W'
      rw [hf 29 (by simp)]
      rcases RC.cases hR with h | h; exact hT.onto h hp; exact hT.grown h.1
    · have hT : BY (f 30) := hT
      show BY (f' 30)
      rw [hf 30 (by simp)]
      exact hT
    · have hT : LB base v 4 (f 31) W := hT
      show LB base v 4 (f' 31) W'
      rw [hf 31 (by simp)]
      rcases RC.cases hR with h | h; exact hT.onto h hp; exact hT.grown h.1
    · have hT : ∃ l2 : List Int, Own base W (f 32) l2 ∧ l2.length = l.length + 4 ∧ l2.all bok = true := hT
      show ∃ l2 : List Int, Own base W' (f' 32) l2 ∧ l2.length = l.length + 4 ∧ l2.all bok = true
      rw [hf 32 (by simp)]
      obtain ⟨l2, h1, h2⟩ := hT; rcases RC.cases hR with h | h; exact ⟨l2, h1.onto h (fun e => by have := (h1.lt _ e).1; omega), h2⟩; exact absurd h.2 hij
    · have hT : (f 3) = (f 32) := hT
      show (f' 3) = (f' 32)
      rw [hf 3 (by simp), hf 32 (by simp)]
      exact hT
    · simp [TCode]
  · simp at hx
/-- The cursor stands, a new block turned. -/
theorem drawn_grown' {w0 w w' : World} {p : Nat} {a : Option Addr} {len cap : Nat} {row : Option Nat} (h : Drawn p a len cap w0 w) (ho : DrawRom.Old w0 p a len) (hg : w.grownBy w' row) (hr : ∀ k, row = some k → w0.heap.size ≤ k) : Drawn p a len cap w0 w' := DrawRom.drawn_grown h ho hg hr
set_option maxRecDepth 100000 in
set_option maxHeartbeats 4000000 in
theorem l6DrawCode_any {w0 : World} {p : Nat} {a : Option Addr} {len cap : Nat} (w : World) (h0 : Drawn p a len cap w0 w) :
    Calls Tryz.prog 124 #[.pointer (some ⟨p, 0, none⟩)] w fun e w' => ∃ v l, e = .returned v ∧ Own w.heap.size w' v l ∧ 1 ≤ l.length ∧ l.length ≤ 70 ∧ l.all bok = true ∧ Onto p w w' ∧ Drawn p a len cap w0 w' := by
  have hend : ∀ w', Drawn p a len cap w w' → Onto p w w' ∧ Drawn p a len cap w0 w' := fun w' hd => ⟨hd.onto, h0.onto.trans hd.onto, hd.cur⟩
  have h := h0.cur.drawn
  have hOld := DrawRom.old_of h0.cur
  obtain ⟨base, hbase⟩ : ∃ base, base = w.heap.size := ⟨_, rfl⟩
  have hpb : p < base := by rw [hbase]; exact hOld.1
  rw [← hbase]
  have HB : Hid (base = w.heap.size) := hbase
  clear hbase
  have hbs : ∀ W, Drawn p a len cap w W → base ≤ W.heap.size := fun W hd => by have := hd.onto.size; have := HB.out; omega
  have ho0 := own_lit base w #[] [] rfl (by decide) (by have := HB.out; omega)
  go_enter Tryz.func124, Tryz.ntmps124
  go_wp2_with fail
  go_at_call 28
  refine (Draw.below_any 14 _ (h.alloc _) (by omega)).mono ?_
  rintro e w1 ⟨r1, rfl, hr1, hon1, hd1⟩
  have ho1 := ho0.onto hon1 (fun e => by have := (ho0.lt _ e).1; omega)
  go_wp2_with fail
  go_loopw [3, 4] (fun v n wr => ∃ (l : List Int) (k : Nat), n = .int .i64 k ∧ k ≤ 16 ∧ l.length + 4 * k ≤ 64 ∧ (3 ≤ k ∨ 1 ≤ l.length) ∧ l.all bok = true ∧ Own base wr v l ∧ Drawn p a len cap w wr) (fun _ n _ => (intOf n).toNat)
  case atStart => exact ⟨[], 3 + r1, by go_num, by omega, by simp; omega, .inl (by omega), rfl, ho1, hd1⟩
  case round =>
    clear hd1 ho1 hon1 ho0 h
    obtain ⟨l, k, rfl, hk16, hlk, hne, hall, ho, hd⟩ := hrel
    by_cases hk : 0 < k
    · go_wp2_with fail
      go_at_call 28
      refine (Draw.below_any 31 _ hd (by omega)).mono ?_
      rintro e w2 ⟨r2, rfl, hr2, hon2, hd2⟩
      have ho2 := ho.onto hon2 (fun e => by have := (ho.lt _ e).1; omega)
      clear ho hd
      go_wp2_with fail
      go_at_call 27
      refine (Draw.once_any 3 _ hd2 (by omega)).mono ?_
      rintro e w3 ⟨r3, rfl, hon3, hd3⟩
      have ho3 := ho2.onto hon3 (fun e => by have := (ho2.lt _ e).1; omega)
      clear ho2 hd2
      cases r3
      · go_wp2_with (first
          | (at_builtin; refine app rfl (.tmp 33) (.tmp 35) rfl base l [(r2 : Int)] (ho3.below ((Below.refl _ _).alloc (Nat.le_refl _) _)) (sl_lit _ _ [(r2 : Int)] rfl (by simp [maxLen])) (by simp; omega) (by have := hbs _ hd3; simp; omega) ?_; intro v4 w4 ho4 hg4; have hd4 := drawn_grown' (hd3.alloc (.cells #[.int .i64 (r2 : Int)] 2)) hOld hg4 (fun j hj => by have := (ho3.lt j hj).1; have := HB.out; omega); clear ho3 hd3))
        go_at_call 109
        refine (Opl.sizeOf_spec _ _).mono ?_
        rintro e w5 ⟨rfl, hb5⟩
        have hd5 := hd4.below hb5
        have ho5 := ho4.below hb5
        have hall4 : (l ++ [(r2 : Int)]).all bok = true := by rw [List.all_append, hall]; simp [bok]; omega
        clear hd4 ho4 hg4 hb5
        generalize (Opl.line (r2 : Int)).2.1 = sz
        by_cases hs2 : sz = 2
        · subst hs2
          go_wp2_with fail
          go_at_call 28
          refine (Draw.below_any 20 _ hd5 (by omega)).mono ?_
          rintro e w6 ⟨r6, rfl, hr6, hon6, hd6⟩
          have ho6 := ho5.onto hon6 (fun e => by have := (ho5.lt _ e).1; omega)
          clear ho5 hd5
          go_wp2_with fail
          go_at_call 28
          refine (Draw.below_any 8 _ hd6 (by omega)).mono ?_
          rintro e w7 ⟨r7, rfl, hr7, hon7, hd7⟩
          have ho7 := ho6.onto hon7 (fun e => by have := (ho6.lt _ e).1; omega)
          clear ho6 hd6
          go_wp2_with fail
          go_at_call 28
          refine (Draw.below_any 10 _ hd7 (by omega)).mono ?_
          rintro e w8 ⟨r8, rfl, hr8, hon8, hd8⟩
          have ho8 := ho7.onto hon8 (fun e => by have := (ho7.lt _ e).1; omega)
          clear ho7 hd7
          go_wp2_with fail
          go_at_call 28
          refine (Draw.below_any 256 _ hd8 (by omega)).mono ?_
          rintro e w9 ⟨r9, rfl, hr9, hon9, hd9⟩
          have ho9 := ho8.onto hon9 (fun e => by have := (ho8.lt _ e).1; omega)
          clear ho8 hd8
          have hb9 := hbs _ hd9
          have hlit := own_lit base w9 #[.int .i64 (r6 : Int), .int .i64 (128 + (r7 : Int)), .int .i64 (240 + (r8 : Int)), .int .i64 (r9 : Int)] [(r6 : Int), 128 + (r7 : Int), 240 + (r8 : Int), (r9 : Int)] rfl (by simp [maxLen]) hb9
          have hdl := hd9.alloc (.cells #[.int .i64 (r6 : Int), .int .i64 (128 + (r7 : Int)), .int .i64 (240 + (r8 : Int)), .int .i64 (r9 : Int)] 2)
          have hol := ho9.below ((Below.refl _ _).alloc (Nat.le_refl _) (.cells #[.int .i64 (r6 : Int), .int .i64 (128 + (r7 : Int)), .int .i64 (240 + (r8 : Int)), .int .i64 (r9 : Int)] 2))
          go_wp2_with fail
          go_at_call 28
          refine (Draw.below_any 4 _ hdl (by omega)).mono ?_
          rintro e w10 ⟨r10, rfl, hr10, hon10, hd10⟩
          have ho10 := hol.onto hon10 (fun e => by have := (hol.lt _ e).1; omega)
          have hlit10 := hlit.onto hon10 (fun e => by have := (hlit.lt _ e).1; omega)
          obtain ⟨z, hz, hzb⟩ : ∃ z : Int, w10.cell? ⟨w9.heap.size, r10, none⟩ = some (.int .i64 z) ∧ bok z = true := by
            refine ⟨_, hlit10.cellAt (j := r10) (by simp; omega), ?_⟩
            have h4 : r10 = 0 ∨ r10 = 1 ∨ r10 = 2 ∨ r10 = 3 := by omega
            rcases h4 with rfl | rfl | rfl | rfl <;> simp [bok] <;> omega
          have hzb' := bok_true hzb
          have hr10' : r10 < 4 := by omega
          clear hol hdl hlit hlit10 ho9 hd9
          go_wp2_with (first
            | (at_builtin; refine app rfl (.tmp 40) (.tmp 56) rfl base (l ++ [(r2 : Int)]) [z] (ho10.below ((Below.refl _ _).alloc (Nat.le_refl _) _)) (sl_lit _ _ [z] rfl (by simp [maxLen])) (by simp; omega) (by have := hbs _ hd10; simp; omega) ?_; intro v11 w11 ho11 hg11; have hd11 := drawn_grown' (hd10.alloc (.cells #[.int .i64 z] 2)) hOld hg11 (fun j hj => by have := (ho10.lt j hj).1; have := HB.out; omega)))
          go_roundw
          case rel => exact ⟨_, k - 1, by go_num, by omega, by simp; omega, .inr (by simp), by rw [List.all_append, hall4]; simp [hzb], ho11, hd11⟩
          case measure => simp [intOf]; omega
        · go_wp2_with fail
          go_roundw
          case rel => exact ⟨_, k - 1, by go_num, by omega, by simp; omega, .inr (by simp), hall4, ho5, hd5⟩
          case measure => simp [intOf]; omega
      · go_wp2_with fail
        refine region_genS (by kernel_rfl) (by kernel_rfl) 14 (by decide) (fun bb W => Drawn p a len cap w W ∧ (∀ k, u3.ownBlock = some k → k < W.heap.size) ∧ (bb = false → Own base W u3 l)) (TCode base p u3 l) (RCode base p u3 l) (monoCode base p u3 l hpb (by kernel_rfl)) ⟨hd3.drewN 1, fun q hq => (ho3.lt q hq).2, fun _ => ho3⟩ ?step ?done
        case step =>
          intro L ix o A W hi hI hL hd
          have hin : ix < 16 := by
            by_cases hl : ix < 16
            · exact hl
            · simp [hl] at hi
          have hsz : A.tmps.size = 66 := hI.size
          have hg := hI.g
          rcases ix with _ | ix
          · obtain rfl := (Option.some.inj hi).symm
            have e : A.eval (.tmp 3) = u3 := hI.rest 3 (fun j hj e => by
              rcases j with _ | _ | _ | _ | _ | _ | _ | _ | _ | _ | _ | _ | _ | _ | _ | _ | j
              · exact absurd e (by simp)
              · exact absurd e (by simp)
              · exact absurd e (by simp)
              · exact absurd e (by simp)
              · exact absurd e (by simp)
              · exact absurd e (by simp)
              · exact absurd e (by simp)
              · exact absurd e (by simp)
              · exact absurd e (by simp)
              · exact absurd e (by simp)
              · exact absurd e (by simp)
              · exact absurd e (by simp)
              · exact absurd e (by simp)
              · exact absurd e (by simp)
              · exact absurd e (by simp)
              · have h0 := hI.closed 15 _ 0 rfl hj (List.contains_iff_mem.1 (by kernel_rfl))
                exact absurd (hL.symm.trans h0) (by simp)
              · exact absurd e (by simp))
            exact at_op rfl rfl (move_op rfl ⟨_, rfl, (getD_put_same _ _ _ (by omega)).trans e, ⟨hg.1, hg.2.1, fun e => (id (hg.2.2 (by simpa using e)))⟩, RC.onto (by omega) (Onto.refl _ _)⟩)
          rcases ix with _ | ix
          · obtain rfl := (Option.some.inj hi).symm
            have e : A.eval (.tmp 0) = .pointer (some ⟨p, 0, none⟩) := (hI.old 0 (by kernel_rfl))
            exact at_op rfl rfl (move_op rfl ⟨_, rfl, (getD_put_same _ _ _ (by omega)).trans e, ⟨hg.1, hg.2.1, fun e => (id (hg.2.2 (by simpa using e)))⟩, RC.onto (by omega) (Onto.refl _ _)⟩)
          rcases ix with _ | ix
          · obtain rfl := (Option.some.inj hi).symm
            have e0 : A.eval (.tmp 19) = .pointer (some ⟨p, 0, none⟩) := (show (at_ A 19) = .pointer (some ⟨p, 0, none⟩) from hI.get hd 1 rfl (by kernel_rfl))
            refine at_op rfl rfl (call_op rfl Tryz.func28 (by kernel_rfl) (by kernel_rfl) ?_)
            simp only [List.map_cons, List.map_nil, e0]
            refine (Draw.below_any 256 W hg.1 (by omega)).mono ?_
            rintro e w5 ⟨r, rfl, hr5, ho5, hdr5⟩
            exact ⟨_, rfl, _, rfl, ⟨r, getD_put_same _ _ _ (by omega), hr5⟩, ⟨hdr5, fun q hq => Nat.lt_of_lt_of_le (hg.2.1 q hq) ho5.size, fun e => ((fun (x : Own base W u3 l) => x.onto ho5 (fun e => by have := (x.lt _ e).1; omega)) (hg.2.2 (by simpa using e)))⟩, RC.onto (by omega) ho5⟩
          rcases ix with _ | ix
          · obtain rfl := (Option.some.inj hi).symm
            obtain ⟨r2, er2, hr2⟩ := (show IX 256 (at_ A 20) from hI.get hd 2 rfl (by kernel_rfl))
            have ev2 : A.eval (.tmp 20) = .int .i64 (r2 : Int) := er2
            refine at_op rfl rfl (lit_op (parts := [(0, .const (.int .i64 128)), (1, .const (.int .i64 129)), (2, .tmp 20)]) (vals := [(0, .int .i64 128), (1, .int .i64 129), (2, .int .i64 (r2 : Int))]) (cs := #[.int .i64 128, .int .i64 129, .int .i64 (r2 : Int)]) rfl und64 info64 (by simp only [List.map_cons, List.map_nil, ev2]; rfl) (by omega) (by omega) (by kernel_rfl) ⟨_, rfl, ?_, ⟨hg.1.alloc _, fun q hq => by have := hg.2.1 q hq; simp; omega, fun e => ((fun (x : Own base W u3 l) => x.below ((Below.refl _ _).alloc (Nat.le_refl _) _)) (hg.2.2 (by simpa using e)))⟩, RC.onto (by omega) ((Onto.refl _ _).alloc _)⟩)
            have e' : ∀ q, at_ (A.put (some 21) q) 21 = q := fun q => getD_put_same _ _ _ (by omega)
            show LB base u3 3 (at_ (A.put (some 21) _) 21) _
            rw [e']
            have hsb := hbs W hg.1
            exact lb_lit #[.int .i64 128, .int .i64 129, .int .i64 (r2 : Int)] [128, 129, (r2 : Int)] rfl (by simp [bok]; omega) (by simp [maxLen]) (by omega) hg.2.1
          rcases ix with _ | ix
          · obtain rfl := (Option.some.inj hi).symm
            have e : A.eval (.tmp 0) = .pointer (some ⟨p, 0, none⟩) := (hI.old 0 (by kernel_rfl))
            exact at_op rfl rfl (move_op rfl ⟨_, rfl, (getD_put_same _ _ _ (by omega)).trans e, ⟨hg.1, hg.2.1, fun e => (id (hg.2.2 (by simpa using e)))⟩, RC.onto (by omega) (Onto.refl _ _)⟩)
          rcases ix with _ | ix
          · obtain rfl := (Option.some.inj hi).symm
            have e0 : A.eval (.tmp 22) = .pointer (some ⟨p, 0, none⟩) := (show (at_ A 22) = .pointer (some ⟨p, 0, none⟩) from hI.get hd 4 rfl (by kernel_rfl))
            refine at_op rfl rfl (call_op rfl Tryz.func28 (by kernel_rfl) (by kernel_rfl) ?_)
            simp only [List.map_cons, List.map_nil, e0]
            refine (Draw.below_any 3 W hg.1 (by omega)).mono ?_
            rintro e w5 ⟨r, rfl, hr5, ho5, hdr5⟩
            exact ⟨_, rfl, _, rfl, ⟨r, getD_put_same _ _ _ (by omega), hr5⟩, ⟨hdr5, fun q hq => Nat.lt_of_lt_of_le (hg.2.1 q hq) ho5.size, fun e => ((fun (x : Own base W u3 l) => x.onto ho5 (fun e => by have := (x.lt _ e).1; omega)) (hg.2.2 (by simpa using e)))⟩, RC.onto (by omega) ho5⟩
          rcases ix with _ | ix
          · obtain rfl := (Option.some.inj hi).symm
            obtain ⟨r, er, hr⟩ := (show IX 3 (at_ A 23) from hI.get hd 5 rfl (by kernel_rfl))
            obtain ⟨b, c, eb, hpb⟩ := ((show LB base u3 3 (at_ A 21) W from hI.get hd 3 rfl (by kernel_rfl))).at (r := r) (by omega)
            refine at_op rfl rfl (index_op rfl und64 info_i (show A.eval (.tmp 21) = _ from eb) (show A.eval (.tmp 23) = _ from er) (by omega) ⟨_, rfl, ?_, ⟨hg.1, hg.2.1, fun e => (id (hg.2.2 (by simpa using e)))⟩, RC.onto (by omega) (Onto.refl _ _)⟩)
            have e' : ∀ q, at_ (A.put (some 24) q) 24 = q := fun q => getD_put_same _ _ _ (by omega)
            show PB base u3 (at_ (A.put (some 24) _) 24) _
            rw [e']
            exact hpb
          rcases ix with _ | ix
          · obtain rfl := (Option.some.inj hi).symm
            obtain ⟨b, r, z, eb, hc, hz0, hz1, _⟩ := (show PB base u3 (at_ A 24) W from hI.get hd 6 rfl (by kernel_rfl))
            exact at_op rfl rfl (load_op rfl Tryz.underlying2 (show A.eval (.tmp 24) = _ from eb) hc ⟨_, rfl, ⟨z, getD_put_same _ _ _ (by omega), hz0, hz1⟩, ⟨hg.1, hg.2.1, fun e => (id (hg.2.2 (by simpa using e)))⟩, RC.onto (by omega) (Onto.refl _ _)⟩)
          rcases ix with _ | ix
          · obtain rfl := (Option.some.inj hi).symm
            refine at_op rfl rfl (lit_op (parts := [(0, .const (.int .i64 240)), (1, .const (.int .i64 241)), (2, .const (.int .i64 245)), (3, .const (.int .i64 247)), (4, .const (.int .i64 249))]) (vals := [(0, .int .i64 240), (1, .int .i64 241), (2, .int .i64 245), (3, .int .i64 247), (4, .int .i64 249)]) (cs := #[.int .i64 240, .int .i64 241, .int .i64 245, .int .i64 247, .int .i64 249]) rfl und64 info64 (by simp only [List.map_cons, List.map_nil]; rfl) (by omega) (by omega) (by kernel_rfl) ⟨_, rfl, ?_, ⟨hg.1.alloc _, fun q hq => by have := hg.2.1 q hq; simp; omega, fun e => ((fun (x : Own base W u3 l) => x.below ((Below.refl _ _).alloc (Nat.le_refl _) _)) (hg.2.2 (by simpa using e)))⟩, RC.onto (by omega) ((Onto.refl _ _).alloc _)⟩)
            have e' : ∀ q, at_ (A.put (some 26) q) 26 = q := fun q => getD_put_same _ _ _ (by omega)
            show LB base u3 5 (at_ (A.put (some 26) _) 26) _
            rw [e']
            have hsb := hbs W hg.1
            exact lb_lit #[.int .i64 240, .int .i64 241, .int .i64 245, .int .i64 247, .int .i64 249] [240, 241, 245, 247, 249] rfl (by simp [bok]) (by simp [maxLen]) (by omega) hg.2.1
          rcases ix with _ | ix
          · obtain rfl := (Option.some.inj hi).symm
            have e : A.eval (.tmp 0) = .pointer (some ⟨p, 0, none⟩) := (hI.old 0 (by kernel_rfl))
            exact at_op rfl rfl (move_op rfl ⟨_, rfl, (getD_put_same _ _ _ (by omega)).trans e, ⟨hg.1, hg.2.1, fun e => (id (hg.2.2 (by simpa using e)))⟩, RC.onto (by omega) (Onto.refl _ _)⟩)
          rcases ix with _ | ix
          · obtain rfl := (Option.some.inj hi).symm
            have e0 : A.eval (.tmp 27) = .pointer (some ⟨p, 0, none⟩) := (show (at_ A 27) = .pointer (some ⟨p, 0, none⟩) from hI.get hd 9 rfl (by kernel_rfl))
            refine at_op rfl rfl (call_op rfl Tryz.func28 (by kernel_rfl) (by kernel_rfl) ?_)
            simp only [List.map_cons, List.map_nil, e0]
            refine (Draw.below_any 5 W hg.1 (by omega)).mono ?_
            rintro e w5 ⟨r, rfl, hr5, ho5, hdr5⟩
            exact ⟨_, rfl, _, rfl, ⟨r, getD_put_same _ _ _ (by omega), hr5⟩, ⟨hdr5, fun q hq => Nat.lt_of_lt_of_le (hg.2.1 q hq) ho5.size, fun e => ((fun (x : Own base W u3 l) => x.onto ho5 (fun e => by have := (x.lt _ e).1; omega)) (hg.2.2 (by simpa using e)))⟩, RC.onto (by omega) ho5⟩
          rcases ix with _ | ix
          · obtain rfl := (Option.some.inj hi).symm
            obtain ⟨r, er, hr⟩ := (show IX 5 (at_ A 28) from hI.get hd 10 rfl (by kernel_rfl))
            obtain ⟨b, c, eb, hpb⟩ := ((show LB base u3 5 (at_ A 26) W from hI.get hd 8 rfl (by kernel_rfl))).at (r := r) (by omega)
            refine at_op rfl rfl (index_op rfl und64 info_i (show A.eval (.tmp 26) = _ from eb) (show A.eval (.tmp 28) = _ from er) (by omega) ⟨_, rfl, ?_, ⟨hg.1, hg.2.1, fun e => (id (hg.2.2 (by simpa using e)))⟩, RC.onto (by omega) (Onto.refl _ _)⟩)
            have e' : ∀ q, at_ (A.put (some 29) q) 29 = q := fun q => getD_put_same _ _ _ (by omega)
            show PB base u3 (at_ (A.put (some 29) _) 29) _
            rw [e']
            exact hpb
          rcases ix with _ | ix
          · obtain rfl := (Option.some.inj hi).symm
            obtain ⟨b, r, z, eb, hc, hz0, hz1, _⟩ := (show PB base u3 (at_ A 29) W from hI.get hd 11 rfl (by kernel_rfl))
            exact at_op rfl rfl (load_op rfl Tryz.underlying2 (show A.eval (.tmp 29) = _ from eb) hc ⟨_, rfl, ⟨z, getD_put_same _ _ _ (by omega), hz0, hz1⟩, ⟨hg.1, hg.2.1, fun e => (id (hg.2.2 (by simpa using e)))⟩, RC.onto (by omega) (Onto.refl _ _)⟩)
          rcases ix with _ | ix
          · obtain rfl := (Option.some.inj hi).symm
            obtain ⟨r1, er1, hr1, hs1⟩ := (show BY (at_ A 25) from hI.get hd 7 rfl (by kernel_rfl))
            have ev1 : A.eval (.tmp 25) = .int .i64 r1 := er1
            obtain ⟨r3, er3, hr3, hs3⟩ := (show BY (at_ A 30) from hI.get hd 12 rfl (by kernel_rfl))
            have ev3 : A.eval (.tmp 30) = .int .i64 r3 := er3
            refine at_op rfl rfl (lit_op (parts := [(0, .const (.int .i64 1)), (1, .tmp 25), (2, .const (.int .i64 6)), (3, .tmp 30)]) (vals := [(0, .int .i64 1), (1, .int .i64 r1), (2, .int .i64 6), (3, .int .i64 r3)]) (cs := #[.int .i64 1, .int .i64 r1, .int .i64 6, .int .i64 r3]) rfl und64 info64 (by simp only [List.map_cons, List.map_nil, ev1, ev3]; rfl) (by omega) (by omega) (by kernel_rfl) ⟨_, rfl, ?_, ⟨hg.1.alloc _, fun q hq => by have := hg.2.1 q hq; simp; omega, fun e => ((fun (x : Own base W u3 l) => x.below ((Below.refl _ _).alloc (Nat.le_refl _) _)) (hg.2.2 (by simpa using e)))⟩, RC.onto (by omega) ((Onto.refl _ _).alloc _)⟩)
            have e' : ∀ q, at_ (A.put (some 31) q) 31 = q := fun q => getD_put_same _ _ _ (by omega)
            show LB base u3 4 (at_ (A.put (some 31) _) 31) _
            rw [e']
            have hsb := hbs W hg.1
            exact lb_lit #[.int .i64 1, .int .i64 r1, .int .i64 6, .int .i64 r3] [1, r1, 6, r3] rfl (by simp [bok]; omega) (by simp [maxLen]) (by omega) hg.2.1
          rcases ix with _ | ix
          · obtain rfl := (Option.some.inj hi).symm
            have e18 : A.eval (.tmp 18) = u3 := (show (at_ A 18) = u3 from hI.get hd 0 rfl (by kernel_rfl))
            obtain ⟨l4, h41, h42, h43, h44⟩ := (show LB base u3 4 (at_ A 31) W from hI.get hd 13 rfl (by kernel_rfl))
            have hown := hg.2.2 hL
            have hsb := hbs W hg.1
            refine at_op rfl rfl (wp_app (.tmp 18) (.tmp 31) rfl base l l4 (by rw [e18]; exact hown) h43.sl (by omega) (by omega) (hbs W hg.1) ?_)
            intro u3' W' ho' hg'
            rw [e18] at hg'
            have e' : at_ (A.put (some 32) u3') 32 = u3' := getD_put_same _ _ _ (by omega)
            refine ⟨_, rfl, ?_, ⟨?_, fun q hq => Nat.lt_of_lt_of_le (hg.2.1 q hq) hg'.size, ?_⟩, RC.app hg'⟩
            · refine ⟨l ++ l4, ?_, by simp [h41], by rw [List.all_append, hall, h42]; rfl⟩
              show Own base W' (at_ (A.put (some 32) u3') 32) _
              rw [e']; exact ho'
            · exact drawn_grown' hg.1 hOld hg' (fun k hk => by have := (hown.lt k hk).1; have := HB.out; omega)
            · intro e; simp at e
          rcases ix with _ | ix
          · obtain rfl := (Option.some.inj hi).symm
            exact at_op rfl rfl (assign_op rfl ⟨_, rfl, (getD_put_same _ _ _ (by omega)).trans (show at_ A 32 = at_ (A.put (some 3) _) 32 from (getD_put _ _ _ _ (by simp)).symm), ⟨hg.1, hg.2.1, fun e => (id (hg.2.2 (by simpa using e)))⟩, RC.onto (by omega) (Onto.refl _ _)⟩)
          omega
        case done =>
          intro A W hI
          have hg := hI.g
          have t14 : ∃ l2 : List Int, Own base W (at_ A 32) l2 ∧ l2.length = l.length + 4 ∧ l2.all bok = true := hI.told 14 _ rfl rfl
          have t15 : (at_ A 3) = (at_ A 32) := hI.told 15 _ rfl rfl
          have e0 : A.tmps.getD 0 undef = .pointer (some ⟨p, 0, none⟩) := hI.old 0 (by kernel_rfl)
          have e1 : A.tmps.getD 1 undef = undef := hI.old 1 (by kernel_rfl)
          have e2 : A.tmps.getD 2 undef = .slice none 0 0 := hI.old 2 (by kernel_rfl)
          have e4 : A.tmps.getD 4 undef = .int .i64 (k : Int) := hI.old 4 (by kernel_rfl)
          have e6 : A.tmps.getD 6 undef = .slice (some ⟨w.heap.size, 0, none⟩) 0 0 := hI.old 6 (by kernel_rfl)
          have e7 : A.tmps.getD 7 undef = .pointer (some ⟨p, 0, none⟩) := hI.old 7 (by kernel_rfl)
          have e8 : A.tmps.getD 8 undef = .int .i64 (r1 : Int) := hI.old 8 (by kernel_rfl)
          have e9 : A.tmps.getD 9 undef = .int .i64 (3 + (r1 : Int)) := hI.old 9 (by kernel_rfl)
          have e58 : A.tmps.getD 58 undef = undef := hI.old 58 (by kernel_rfl)
          have e59 : A.tmps.getD 59 undef = undef := hI.old 59 (by kernel_rfl)
          have e60 : A.tmps.getD 60 undef = undef := hI.old 60 (by kernel_rfl)
          have e61 : A.tmps.getD 61 undef = undef := hI.old 61 (by kernel_rfl)
          have e62 : A.tmps.getD 62 undef = undef := hI.old 62 (by kernel_rfl)
          have e63 : A.tmps.getD 63 undef = undef := hI.old 63 (by kernel_rfl)
          have e64 : A.tmps.getD 64 undef = undef := hI.old 64 (by kernel_rfl)
          have e65 : A.tmps.getD 65 undef = undef := hI.old 65 (by kernel_rfl)
          obtain ⟨l2, ho2, hl2, hb2⟩ := t14
          have e3 : A.tmps.getD 3 undef = at_ A 3 := rfl
          have ho4 : Own base W (at_ A 3) l2 := by rw [show at_ A 3 = at_ A 32 from t15]; exact ho2
          clear t15 ho2
          generalize at_ A 3 = v3 at ho4 e3
          have hA := frame_lit A 66 hI.size
          have hde : A.defers = [] := hI.defers
          rw [hde, show List.range 66 = [0, 1, 2, 3, 4, 5, 6, 7, 8, 9, 10, 11, 12, 13, 14, 15, 16, 17, 18, 19, 20, 21, 22, 23, 24, 25, 26, 27, 28, 29, 30, 31, 32, 33, 34, 35, 36, 37, 38, 39, 40, 41, 42, 43, 44, 45, 46, 47, 48, 49, 50, 51, 52, 53, 54, 55, 56, 57, 58, 59, 60, 61, 62, 63, 64, 65] from rfl] at hA
          simp only [List.map_cons, List.map_nil, e0, e1, e2, e4, e6, e7, e8, e9, e58, e59, e60, e61, e62, e63, e64, e65, e3] at hA
          rw [hA]
          clear hA e0 e1 e2 e4 e6 e7 e8 e9 e58 e59 e60 e61 e62 e63 e64 e65 e3 hI hde
          have hdr := hg.1
          clear hg
          go_wp2_with fail
          go_roundw
          case rel => exact ⟨l2, k - 1, by go_num, by omega, by omega, .inr (by omega), hb2, ho4, hdr⟩
          case measure => simp [intOf]; omega
    · have hl1 : 1 ≤ l.length := by omega
      go_wp2_with fail
      go_at_call 27
      refine (Draw.once_any 2 _ hd (by omega)).mono ?_
      rintro e w3 ⟨r3, rfl, hon3, hd3⟩
      have ho3 := ho.onto hon3 (fun e => by have := (ho.lt _ e).1; omega)
      clear ho hd
      cases r3
      · go_wp2_with fail
        go_ret
        exact ⟨_, _, rfl, ho3, hl1, by omega, hall, hend _ hd3⟩
      · go_wp2_with fail
        go_at_call 28
        refine (Draw.below_any 6 _ hd3 (by omega)).mono ?_
        rintro e w4 ⟨r4, rfl, hr4, hon4, hd4⟩
        have ho4 := ho3.onto hon4 (fun e => by have := (ho3.lt _ e).1; omega)
        clear ho3 hd3
        go_wp2_with (first
          | (at_builtin; refine app rfl (.tmp 60) (.tmp 63) rfl base l [19, (r4 : Int)] (ho4.below ((Below.refl _ _).alloc (Nat.le_refl _) _)) (sl_lit _ _ [19, (r4 : Int)] rfl (by simp [maxLen])) (by simp; omega) (by have := hbs _ hd4; simp; omega) ?_; intro v5 w5 ho5 hg5; have hd5 := drawn_grown' (hd4.alloc (.cells #[.int .i64 19, .int .i64 (r4 : Int)] 2)) hOld hg5 (fun j hj => by have := (ho4.lt j hj).1; have := HB.out; omega)))
        go_ret
        exact ⟨_, _, rfl, ho5, by simp, by simp; omega, by rw [List.all_append, hall]; simp [bok]; omega, hend _ hd5⟩
end Go.Proofs.YtocofjimkfffeaaGreatDoor.Mem
namespace Go.Proofs.YtocofjimkfffeaaGreatDoor.Mem
open Go.ChangeShapes Go.WideShapes Go.RowKit Base Draw Slc Num Rw Tmr Srl Rom RomOf Reg
set_option linter.unusedVariables false
set_option linter.unusedSimpArgs false

def intAt (k : Nat) : Bool := [2, 3, 4, 5, 11, 12, 13, 14, 15, 16, 17, 18, 21, 22, 24].contains k
def boolAt (k : Nat) : Bool := [6, 7, 8, 9, 10].contains k
theorem set_int (M : Mc) (x y : Value) (k : Nat) (z : Int) (hk : intAt k = true) : ∃ M' : Mc, (M.cells x y).setIfInBounds k (.int .i64 z) = M'.cells x y ∧ (0 ≤ M.pc ∧ M.pc ≤ 255 → (k = 4 → 0 ≤ z ∧ z ≤ 255) → 0 ≤ M'.pc ∧ M'.pc ≤ 255) := by
  simp [intAt] at hk
  rcases hk with rfl | rfl | rfl | rfl | rfl | rfl | rfl | rfl | rfl | rfl | rfl | rfl | rfl | rfl | rfl
  · exact ⟨{ M with a := z }, rfl, fun h _ => h⟩
  · exact ⟨{ M with b := z }, rfl, fun h _ => h⟩
  · exact ⟨{ M with pc := z }, rfl, fun _ h => h rfl⟩
  · exact ⟨{ M with sp := z }, rfl, fun h _ => h⟩
  · exact ⟨{ M with fl := z }, rfl, fun h _ => h⟩
  · exact ⟨{ M with ms := z }, rfl, fun h _ => h⟩
  · exact ⟨{ M with ky := z }, rfl, fun h _ => h⟩
  · exact ⟨{ M with t := { M.t with c := z } }, rfl, fun h _ => h⟩
  · exact ⟨{ M with t := { M.t with v := z } }, rfl, fun h _ => h⟩
  · exact ⟨{ M with t := { M.t with s := z } }, rfl, fun h _ => h⟩
  · exact ⟨{ M with t := { M.t with m := z } }, rfl, fun h _ => h⟩
  · exact ⟨{ M with p := { M.p with d := z } }, rfl, fun h _ => h⟩
  · exact ⟨{ M with p := { M.p with n := z } }, rfl, fun h _ => h⟩
  · exact ⟨{ M with p := { M.p with x := z } }, rfl, fun h _ => h⟩
  · exact ⟨{ M with k := z }, rfl, fun h _ => h⟩
theorem set_bool (M : Mc) (x y : Value) (k : Nat) (z : Bool) (hk : boolAt k = true) : ∃ M' : Mc, (M.cells x y).setIfInBounds k (.bool z) = M'.cells x y ∧ M'.pc = M.pc := by
  simp [boolAt] at hk
  rcases hk with rfl | rfl | rfl | rfl | rfl
  · exact ⟨{ M with z := z }, rfl, rfl⟩
  · exact ⟨{ M with c := z }, rfl, rfl⟩
  · exact ⟨{ M with e := z }, rfl, rfl⟩
  · exact ⟨{ M with h := z }, rfl, rfl⟩
  · exact ⟨{ M with s := z }, rfl, rfl⟩
theorem get_int (M : Mc) (x y : Value) (k : Nat) (hk : intAt k = true) : ∃ z : Int, (M.cells x y)[k]? = some (.int .i64 z) := by
  simp [intAt] at hk
  rcases hk with rfl | rfl | rfl | rfl | rfl | rfl | rfl | rfl | rfl | rfl | rfl | rfl | rfl | rfl | rfl <;> exact ⟨_, rfl⟩
theorem intAt_lt {k : Nat} (hk : intAt k = true) : decide (k < 25) = true := by
  simp [intAt] at hk
  rcases hk with rfl | rfl | rfl | rfl | rfl | rfl | rfl | rfl | rfl | rfl | rfl | rfl | rfl | rfl | rfl <;> decide
theorem boolAt_lt {k : Nat} (hk : boolAt k = true) : decide (k < 25) = true := by
  simp [boolAt] at hk
  rcases hk with rfl | rfl | rfl | rfl | rfl <;> decide
/-- A machine, whatever stands in its fields. -/
abbrev MAny (w : World) (g : Nat) (x y : Value) : Prop := ∃ M : Mc, MRow w g x y M ∧ 0 ≤ M.pc ∧ M.pc ≤ 255
section
variable {ops : Array Oper} {rest : List Oper} {o : Oper} {a : Act} {w : World} {Q : Exit → Act → World → Prop} {x y : Operand} {g k : Nat} {vr va : Value}
theorem st_numA {z : Int} (hgd : o.guard = none) (ho : o.op = .store 2 x y) (hx : a.eval x = .pointer (some ⟨g, k, none⟩)) (hy : a.eval y = .int .i64 z) (hr : MAny w g vr va) (hk : intAt k = true) (hz : k = 4 → 0 ≤ z ∧ z ≤ 255)
    (h : ∀ w', MAny w' g vr va → Onto g w w' → wpList Tryz.prog ops Q rest (a.put o.dst undef) w') : wpList Tryz.prog ops Q (o :: rest) a w := by
  obtain ⟨M, hM, hp⟩ := hr
  obtain ⟨M', e, hp'⟩ := set_int M vr va k z hk
  exact st_num hgd ho hx hy hM (intAt_lt hk) e (fun w' r o _ => h w' ⟨M', r, hp' hp hz⟩ o)
theorem st_yesA {z : Bool} (hgd : o.guard = none) (ho : o.op = .store 4 x y) (hx : a.eval x = .pointer (some ⟨g, k, none⟩)) (hy : a.eval y = .bool z) (hr : MAny w g vr va) (hk : boolAt k = true)
    (h : ∀ w', MAny w' g vr va → Onto g w w' → wpList Tryz.prog ops Q rest (a.put o.dst undef) w') : wpList Tryz.prog ops Q (o :: rest) a w := by
  obtain ⟨M, hM, hp⟩ := hr
  obtain ⟨M', e, hp'⟩ := set_bool M vr va k z hk
  exact st_yes hgd ho hx hy hM (boolAt_lt hk) e (fun w' r o _ => h w' ⟨M', r, by omega⟩ o)
theorem st_timeA {t : Tm} (hgd : o.guard = none) (ho : o.op = .store 26 x y) (hx : a.eval x = .pointer (some ⟨g, 14, none⟩)) (hy : a.eval y = t.val) (hr : MAny w g vr va)
    (h : ∀ w', MAny w' g vr va → Onto g w w' → wpList Tryz.prog ops Q rest (a.put o.dst undef) w') : wpList Tryz.prog ops Q (o :: rest) a w := by
  obtain ⟨M, hM, hp⟩ := hr
  exact st_time' hgd ho hx hy hM (fun w' r o _ => h w' ⟨_, r, hp⟩ o)
theorem st_portA {s : Sr} (hgd : o.guard = none) (ho : o.op = .store 28 x y) (hx : a.eval x = .pointer (some ⟨g, 18, none⟩)) (hy : a.eval y = s.val) (hr : MAny w g vr va)
    (h : ∀ w', MAny w' g vr va → Onto g w w' → wpList Tryz.prog ops Q rest (a.put o.dst undef) w') : wpList Tryz.prog ops Q (o :: rest) a w := by
  obtain ⟨M, hM, hp⟩ := hr
  exact st_port' hgd ho hx hy hM (fun w' r o _ => h w' ⟨_, r, hp⟩ o)
theorem ld_numA (hgd : o.guard = none) (ho : o.op = .load 2 x) (hx : a.eval x = .pointer (some ⟨g, k, none⟩)) (hr : MAny w g vr va) (hk : intAt k = true)
    (h : ∀ z : Int, wpList Tryz.prog ops Q rest (a.put o.dst (.int .i64 z)) w) : wpList Tryz.prog ops Q (o :: rest) a w := by
  obtain ⟨M, hM, hp⟩ := hr
  obtain ⟨z, e⟩ := get_int M vr va k hk
  exact ld_i hgd ho hx hM e (h z)
end
/-- The blocks of a draw of a machine. -/
structure Pm (w : World) (p : Nat) (a : Option Addr) (len : Nat) (base g gr : Nat) (x y : Value) : Prop where
  old : OldC p a len w
  n0 : p < w.heap.size
  n1 : w.heap.size ≤ gr
  n2 : gr < base
  n3 : base ≤ g
  bx : ∀ k, x.ownBlock = some k → base ≤ k ∧ k < g
  b_y : ∀ k, y.ownBlock = some k → base ≤ k ∧ k < g
  ap : Apart x y
/-- What stands while a machine is drawn. -/
structure Md (w : World) (p : Nat) (a : Option Addr) (len cap : Nat) (base g gr : Nat) (x y : Value) (W : World) : Prop where
  drawn : Drawn p a len cap w W
  row : MAny W g x y
  res : ∃ x' y', ∃ M : Mc, MRow W gr x' y' M
  o1 : ∃ l : List Int, 2 ≤ l.length ∧ l.length ≤ 128 ∧ Own base W x l
  o2 : ∃ l : List Int, l.length = 64 ∧ Own base W y l
section
variable {w W W' : World} {p : Nat} {a : Option Addr} {len cap base g gr b n c : Nat} {x y : Value}
theorem Md.onto (h : Md w p a len cap base g gr x y W) (hP : Pm w p a len base g gr x y) (ho : Onto p W W') (hd : Drawn p a len cap w W') : Md w p a len cap base g gr x y W' := by
  obtain ⟨_, ⟨M, r, hp⟩, ⟨x', y', M', r'⟩, ⟨l1, a1, a2, h1⟩, ⟨l2, b1, h2⟩⟩ := h
  have := hP.n0; have := hP.n1; have := hP.n2; have := hP.n3
  exact ⟨hd, ⟨M, r.onto ho (by omega), hp⟩, ⟨x', y', M', r'.onto ho (by omega)⟩, ⟨l1, a1, a2, h1.onto ho (fun e => by have := (h1.lt _ e).1; omega)⟩, ⟨l2, b1, h2.onto ho (fun e => by have := (h2.lt _ e).1; omega)⟩⟩
theorem Md.field (h : Md w p a len cap base g gr x y W) (hP : Pm w p a len base g gr x y) (ho : Onto g W W') (hr : MAny W' g x y) : Md w p a len cap base g gr x y W' := by
  obtain ⟨hd, _, ⟨x', y', M', r'⟩, ⟨l1, a1, a2, h1⟩, ⟨l2, b1, h2⟩⟩ := h
  have := hP.n0; have := hP.n1; have := hP.n2; have := hP.n3
  exact ⟨drawn_other hd ho (by omega) hP.old, hr, ⟨x', y', M', r'.onto ho (by omega)⟩, ⟨l1, a1, a2, h1.onto ho (fun e => by have := hP.bx _ e; omega)⟩, ⟨l2, b1, h2.onto ho (fun e => by have := hP.b_y _ e; omega)⟩⟩
theorem Md.drew (h : Md w p a len cap base g gr x y W) : Md w p a len cap base g gr x y W.drew := by
  obtain ⟨hd, ⟨M, r, hp⟩, ⟨x', y', M', r'⟩, ⟨l1, a1, a2, h1⟩, ⟨l2, b1, h2⟩⟩ := h
  exact ⟨hd.drewN 1, ⟨M, r.drewN 1, hp⟩, ⟨x', y', M', r'.drewN 1⟩, ⟨l1, a1, a2, h1.drewN 1⟩, ⟨l2, b1, h2.drewN 1⟩⟩
theorem Md.alloc (h : Md w p a len cap base g gr x y W) (ob : Obj) : Md w p a len cap base g gr x y (W.alloc ob) := by
  obtain ⟨hd, ⟨M, r, hp⟩, ⟨x', y', M', r'⟩, ⟨l1, a1, a2, h1⟩, ⟨l2, b1, h2⟩⟩ := h
  have hb := (Below.refl W.heap.size W).alloc (Nat.le_refl _) ob
  exact ⟨hd.alloc ob, ⟨M, r.alloc ob, hp⟩, ⟨x', y', M', r'.alloc ob⟩, ⟨l1, a1, a2, h1.below hb⟩, ⟨l2, b1, h2.below hb⟩⟩
/-- A cell of one of the lists is set. -/
theorem Md.cellY (h : Md w p a len cap base g gr x (.slice (some ⟨b, 0, none⟩) n c) W) (hP : Pm w p a len base g gr x (.slice (some ⟨b, 0, none⟩) n c)) (j : Nat) (z : Int) : Md w p a len cap base g gr x (.slice (some ⟨b, 0, none⟩) n c) (W.setCell ⟨b, j, none⟩ (.int .i64 z)) := by
  obtain ⟨hd, ⟨M, r, hp⟩, ⟨x', y', M', r'⟩, ⟨l1, a1, a2, h1⟩, ⟨l2, b1, h2⟩⟩ := h
  have := hP.n0; have := hP.n1; have := hP.n2; have := hP.n3
  have hb := hP.b_y b rfl
  have ho : Onto b W (W.setCell ⟨b, j, none⟩ (.int .i64 z)) := (Onto.refl b W).setCell rfl _
  exact ⟨drawn_other hd ho (by omega) hP.old, ⟨M, r.onto ho (by omega), hp⟩, ⟨x', y', M', r'.onto ho (by omega)⟩, ⟨l1, a1, a2, h1.onto ho (fun e => hP.ap b e rfl)⟩, ⟨l2.set j z, by simp [b1], (h2.store j z).1⟩⟩
theorem Md.cellX (h : Md w p a len cap base g gr (.slice (some ⟨b, 0, none⟩) n c) y W) (hP : Pm w p a len base g gr (.slice (some ⟨b, 0, none⟩) n c) y) (j : Nat) (z : Int) : Md w p a len cap base g gr (.slice (some ⟨b, 0, none⟩) n c) y (W.setCell ⟨b, j, none⟩ (.int .i64 z)) := by
  obtain ⟨hd, ⟨M, r, hp⟩, ⟨x', y', M', r'⟩, ⟨l1, a1, a2, h1⟩, ⟨l2, b1, h2⟩⟩ := h
  have := hP.n0; have := hP.n1; have := hP.n2; have := hP.n3
  have hb := hP.bx b rfl
  have ho : Onto b W (W.setCell ⟨b, j, none⟩ (.int .i64 z)) := (Onto.refl b W).setCell rfl _
  exact ⟨drawn_other hd ho (by omega) hP.old, ⟨M, r.onto ho (by omega), hp⟩, ⟨x', y', M', r'.onto ho (by omega)⟩, ⟨l1.set j z, by simp; omega, by simp; omega, (h1.store j z).1⟩, ⟨l2, b1, h2.onto ho (fun e => hP.ap b rfl e)⟩⟩
end
end Go.Proofs.YtocofjimkfffeaaGreatDoor.Mem
