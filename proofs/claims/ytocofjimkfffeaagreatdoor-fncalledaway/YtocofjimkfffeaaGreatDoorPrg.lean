/-
  What the laws' own maker of programs answers: a short list of byte numbers of its own.
-/
import Derived.Test.YtocofjimkfffeaaGreatDoorDrawRom
namespace Go.Proofs.YtocofjimkfffeaaGreatDoor.Prg
open Go.ChangeShapes Go.WideShapes Go.RowKit Base Draw Dice Slc Num Rom RomOf DrawRom
set_option linter.unusedVariables false
set_option linter.unusedSimpArgs false

/-- Since w0 the dice's block alone has turned, and the dice stand. -/
def Rolled (p : Nat) (a : Option Addr) (len cap : Nat) (w0 w : World) : Prop := Onto p w0 w ∧ DiceAt w p a len cap
theorem dice_keep {w w' : World} {p : Nat} {a : Option Addr} {len cap : Nat} (h : DiceAt w p a len cap) (hs : w.heap.size ≤ w'.heap.size) (hp : w'.heap[p]? = w.heap[p]?)
    (hk : 0 < len → ∀ x, a = some x → w'.heap[x.block]? = w.heap[x.block]?) : DiceAt w' p a len cap := by
  obtain ⟨c0, ⟨i, c1, hi⟩, ⟨g, c2⟩, f, hcode, hap, hfew⟩ := h
  exact ⟨by rw [World.cell?_of_block (w := w) (a := ⟨p, 0, none⟩) hp]; exact c0, ⟨i, by rw [World.cell?_of_block (w := w) (a := ⟨p, 1, none⟩) hp]; exact c1, hi⟩, ⟨g, by rw [World.cell?_of_block (w := w) (a := ⟨p, 2, none⟩) hp]; exact c2⟩,
    fun o => by rw [World.frozen?_of_block (w := w) (a := ⟨p, o, none⟩) hp]; exact f o, hcode.keep hs hk, hap, hfew⟩
theorem old_dice {w : World} {p : Nat} {a : Option Addr} {len cap : Nat} (h : DiceAt w p a len cap) : Old w p a len := ⟨h.lt, h.code.lt⟩
theorem rolled_grown {w0 w w' : World} {p : Nat} {a : Option Addr} {len cap : Nat} {row : Option Nat} (h : Rolled p a len cap w0 w) (ho : Old w0 p a len) (hg : w.grownBy w' row) (hr : ∀ k, row = some k → w0.heap.size ≤ k) : Rolled p a len cap w0 w' := by
  have hsz := h.1.size
  have key : ∀ k, k < w0.heap.size → w'.heap[k]? = w.heap[k]? := fun k hk => hg.block k (by omega) (fun e => by have := hr k e.symm; omega)
  exact ⟨⟨hg.os.trans h.1.os, hg.tape.trans h.1.tape, hg.output.trans h.1.output, Nat.le_trans hsz hg.size, fun k hk hl => (key k hl).trans (h.1.block k hk hl)⟩,
    dice_keep h.2 hg.size (key p ho.1) (fun h0 x hx => key _ (ho.2 h0 x hx))⟩
theorem rolled_alloc {w0 w : World} {p : Nat} {a : Option Addr} {len cap : Nat} (h : Rolled p a len cap w0 w) (o : Obj) : Rolled p a len cap w0 (w.alloc o) :=
  ⟨h.1.alloc o, h.2.below ((Below.refl _ _).alloc (Nat.le_refl _) _)⟩
theorem rolled_step {w0 w w' : World} {p : Nat} {a : Option Addr} {len cap : Nat} (h : Rolled p a len cap w0 w) (ho : Onto p w w') (hd : DiceAt w' p a len cap) : Rolled p a len cap w0 w' := ⟨h.1.trans ho, hd⟩
theorem rolled_own {base p : Nat} {w w' : World} {v : Value} {l : List Int} (h : Own base w v l) (ho : Onto p w w') (hp : p < base) : Own base w' v l := own_onto h ho hp
theorem all_app {l m : List Int} (h : l.all bok = true) (k : m.all bok = true) : (l ++ m).all bok = true := by rw [List.all_append, h, k]; rfl

set_option maxHeartbeats 2000000 in
theorem program_any {p : Nat} {a : Option Addr} {len cap : Nat} (w : World) (h : DiceAt w p a len cap) :
    Calls Tryz.prog 21 #[.pointer (some ⟨p, 0, none⟩)] w fun e w' => ∃ v l, e = .returned v ∧ Own w.heap.size w' v l ∧ l.length ≤ 32 ∧ 1 ≤ l.length ∧ l.all bok = true ∧ Rolled p a len cap w w' := by
  have hOld := old_dice h
  have hd0 : Rolled p a len cap w w := ⟨Onto.refl _ _, h⟩
  go_enter Tryz.func21, Tryz.ntmps21
  go_wp2_with fail
  go_at_call 24; refine (Dice.below_any _ a len cap _ _ hd0.2 (by omega)).mono ?_; rintro e w1 ⟨r1, rfl, hr1, hon1, hd1'⟩
  have hd1 := rolled_step hd0 hon1 hd1'
  go_wp2_with fail
  go_at_call 24; refine (Dice.below_any _ a len cap _ _ hd1.2 (by omega)).mono ?_; rintro e w2 ⟨r2, rfl, hr2, hon2, hd2'⟩
  have hd2 := rolled_step hd1 hon2 hd2'
  have hsz2 := hd2.1.size
  have ho2 := own_lit w.heap.size w2 #[.int .i64 1, .int .i64 (r1 : Int), .int .i64 6, .int .i64 240, .int .i64 1, .int .i64 (128 + (r2 : Int)), .int .i64 6, .int .i64 241] [1, (r1 : Int), 6, 240, 1, 128 + (r2 : Int), 6, 241] rfl (by simp [maxLen]) hsz2
  have hd2b := rolled_alloc hd2 (.cells #[.int .i64 1, .int .i64 (r1 : Int), .int .i64 6, .int .i64 240, .int .i64 1, .int .i64 (128 + (r2 : Int)), .int .i64 6, .int .i64 241] 2)
  go_wp2_with fail
  go_at_call 24; refine (Dice.below_any _ a len cap _ _ hd2b.2 (by omega)).mono ?_; rintro e w3 ⟨r3, rfl, hr3, hon3, hd3'⟩
  have hd3 := rolled_step hd2b hon3 hd3'
  have ho3 := rolled_own ho2 hon3 hOld.1
  go_wp2_with fail
  go_loopw [3, 4] (fun v n wr => ∃ (l : List Int) (k : Nat), n = .int .i64 k ∧ k ≤ 3 ∧ l.length + 4 * k ≤ 20 ∧ 1 ≤ l.length ∧ l.all bok = true ∧ Own w.heap.size wr v l ∧ Rolled p a len cap w wr) (fun _ n _ => (intOf n).toNat)
  case atStart => exact ⟨_, r3, rfl, by omega, by simp; omega, by simp, by simp [bok]; omega, ho3, hd3⟩
  case round =>
    clear hd3 ho3 hd3' hon3 hd2b ho2 hd2 hd2' hon2 hd1 hd1' hon1
    obtain ⟨l, k, rfl, hk3, hlk, hl1, hall, ho, hd⟩ := hrel
    by_cases hk : 0 < k
    · go_wp2_with fail
      go_at_call 24; refine (Dice.below_any _ a len cap _ _ hd.2 (by omega)).mono ?_; rintro e w2 ⟨r, rfl, hr, hon2, hd2'⟩
      have hd2 := rolled_step hd hon2 hd2'
      have h5 : r = 0 ∨ r = 1 ∨ r = 2 ∨ r = 3 ∨ r = 4 := by omega
      rcases h5 with rfl | rfl | rfl | rfl | rfl
      · go_wp2_with (first
        | (go_at_call 24; refine (Dice.below_any _ a len cap _ _ hd2.2 (by omega)).mono ?_; rintro e w3 ⟨r2, rfl, hr2, hon3, hd3'⟩; have hd3 := rolled_step hd2 hon3 hd3')
        | (at_builtin; refine app rfl (.tmp 22) (.tmp 25) rfl w.heap.size l [9, (r2 : Int)] ((rolled_own (rolled_own ho hon2 hOld.1) hon3 hOld.1).below ((Below.refl _ _).alloc (Nat.le_refl _) _)) (sl_lit _ _ [9, (r2 : Int)] rfl (by simp [maxLen])) (by simp; omega) (by have := hd3.1.size; simp; omega) ?_; intro v4 w4 ho4 hg4))
        go_roundw
        case rel => exact ⟨l ++ [9, (r2 : Int)], k - 1, by go_num, by omega, by simp; omega, by rw [List.length_append]; omega, all_app hall (by simp [bok]; omega), ho4, rolled_grown (rolled_alloc hd3 (.cells #[.int .i64 9, .int .i64 (r2 : Int)] 2)) hOld hg4 (fun j hj => (ho.lt j hj).1)⟩
        case measure => simp [intOf]; omega
      · go_wp2_with (first
        | (at_builtin; refine app rfl (.tmp 29) (.tmp 30) rfl w.heap.size l [17] ((rolled_own ho hon2 hOld.1).below ((Below.refl _ _).alloc (Nat.le_refl _) _)) (sl_lit _ _ [17] rfl (by simp [maxLen])) (by simp; omega) (by have := hd2.1.size; simp; omega) ?_; intro v4 w4 ho4 hg4))
        go_roundw
        case rel => exact ⟨l ++ [17], k - 1, by go_num, by omega, by simp; omega, by rw [List.length_append]; omega, all_app hall (by simp [bok]), ho4, rolled_grown (rolled_alloc hd2 (.cells #[.int .i64 17] 2)) hOld hg4 (fun j hj => (ho.lt j hj).1)⟩
        case measure => simp [intOf]; omega
      · go_wp2_with (first
        | (go_at_call 24; refine (Dice.below_any _ a len cap _ _ hd2.2 (by omega)).mono ?_; rintro e w3 ⟨r2, rfl, hr2, hon3, hd3'⟩; have hd3 := rolled_step hd2 hon3 hd3')
        | (at_builtin; refine app rfl (.tmp 34) (.tmp 37) rfl w.heap.size l [1, (r2 : Int), 6, 245] ((rolled_own (rolled_own ho hon2 hOld.1) hon3 hOld.1).below ((Below.refl _ _).alloc (Nat.le_refl _) _)) (sl_lit _ _ [1, (r2 : Int), 6, 245] rfl (by simp [maxLen])) (by simp; omega) (by have := hd3.1.size; simp; omega) ?_; intro v4 w4 ho4 hg4))
        go_roundw
        case rel => exact ⟨l ++ [1, (r2 : Int), 6, 245], k - 1, by go_num, by omega, by simp; omega, by rw [List.length_append]; omega, all_app hall (by simp [bok]; omega), ho4, rolled_grown (rolled_alloc hd3 (.cells #[.int .i64 1, .int .i64 (r2 : Int), .int .i64 6, .int .i64 245] 2)) hOld hg4 (fun j hj => (ho.lt j hj).1)⟩
        case measure => simp [intOf]; omega
      · go_wp2_with (first
        | (at_builtin; refine app rfl (.tmp 41) (.tmp 42) rfl w.heap.size l [25, 26] ((rolled_own ho hon2 hOld.1).below ((Below.refl _ _).alloc (Nat.le_refl _) _)) (sl_lit _ _ [25, 26] rfl (by simp [maxLen])) (by simp; omega) (by have := hd2.1.size; simp; omega) ?_; intro v4 w4 ho4 hg4))
        go_roundw
        case rel => exact ⟨l ++ [25, 26], k - 1, by go_num, by omega, by simp; omega, by rw [List.length_append]; omega, all_app hall (by simp [bok]), ho4, rolled_grown (rolled_alloc hd2 (.cells #[.int .i64 25, .int .i64 26] 2)) hOld hg4 (fun j hj => (ho.lt j hj).1)⟩
        case measure => simp [intOf]; omega
      · go_wp2_with (first
        | (at_builtin; refine app rfl (.tmp 46) (.tmp 47) rfl w.heap.size l [5, 242, 6, 249] ((rolled_own ho hon2 hOld.1).below ((Below.refl _ _).alloc (Nat.le_refl _) _)) (sl_lit _ _ [5, 242, 6, 249] rfl (by simp [maxLen])) (by simp; omega) (by have := hd2.1.size; simp; omega) ?_; intro v4 w4 ho4 hg4))
        go_roundw
        case rel => exact ⟨l ++ [5, 242, 6, 249], k - 1, by go_num, by omega, by simp; omega, by rw [List.length_append]; omega, all_app hall (by simp [bok]), ho4, rolled_grown (rolled_alloc hd2 (.cells #[.int .i64 5, .int .i64 242, .int .i64 6, .int .i64 249] 2)) hOld hg4 (fun j hj => (ho.lt j hj).1)⟩
        case measure => simp [intOf]; omega
    · obtain ⟨ao, cp, rfl, hat, hml, _⟩ := ho.shape
      have HO : Hid (Own w.heap.size wr (.slice ao l.length cp) l) := ho
      clear ho hat
      unfold maxLen at hml
      go_wp2_with (first
        | (go_at_call 24; refine (Dice.below_any _ a len cap _ _ hd.2 (by omega)).mono ?_; rintro e w3 ⟨r4, rfl, hr4, hon4, hd4'⟩; have hd4 := rolled_step hd hon4 hd4')
        | (at_builtin; refine app rfl (.tmp 51) (.tmp 56) rfl w.heap.size l [5, 241, 13, 128, 21, (l.length : Int), 5, 240, 6, 249, 19, (r4 : Int) * 8] ((rolled_own HO.out hon4 hOld.1).below ((Below.refl _ _).alloc (Nat.le_refl _) _)) (sl_lit _ _ [5, 241, 13, 128, 21, (l.length : Int), 5, 240, 6, 249, 19, (r4 : Int) * 8] rfl (by simp [maxLen])) (by simp; omega) (by have := hd4.1.size; simp; omega) ?_; intro v5 w5 ho5 hg5))
      go_ret
      exact ⟨_, _, rfl, ho5, by simp; omega, by simp, all_app hall (by simp [bok]; omega), rolled_grown (rolled_alloc hd4 _) hOld hg5 (fun j hj => (HO.out.lt j hj).1)⟩
end Go.Proofs.YtocofjimkfffeaaGreatDoor.Prg
