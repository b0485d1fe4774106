/-
  What the drawing functions of chapter 2 answer: some short list of their own.
-/
import Derived.Test.YthhfhgjjfepoiaaDice
import Derived.Test.YthhfhgjjfepoiaaRomOf
namespace Go.Proofs.Ythhfhgjjfepoiaa.DrawRom
open Go.ChangeShapes Go.WideShapes Go.RowKit Base Draw Slc Num Rom RomOf
set_option linter.unusedVariables false
set_option linter.unusedSimpArgs false

theorem cur_keep {w w' : World} {p : Nat} {a : Option Addr} {len cap : Nat} (h : CurAt w p a len cap) (hs : w.heap.size ≤ w'.heap.size) (hp : w'.heap[p]? = w.heap[p]?)
    (hk : 0 < len → ∀ x, a = some x → w'.heap[x.block]? = w.heap[x.block]?) : CurAt w' p a len cap := by
  obtain ⟨c0, ⟨i, c1, hi⟩, ⟨g, c2⟩, f, hcode, hap, hfew⟩ := h
  exact ⟨by rw [World.cell?_of_block (w := w) (a := ⟨p, 0, none⟩) hp]; exact c0, ⟨i, by rw [World.cell?_of_block (w := w) (a := ⟨p, 1, none⟩) hp]; exact c1, hi⟩, ⟨g, by rw [World.cell?_of_block (w := w) (a := ⟨p, 2, none⟩) hp]; exact c2⟩,
    fun o => by rw [World.frozen?_of_block (w := w) (a := ⟨p, o, none⟩) hp]; exact f o, hcode.keep hs hk, hap, hfew⟩
/-- A cursor over a code, both from before the world w0. -/
def Old (w0 : World) (p : Nat) (a : Option Addr) (len : Nat) : Prop := p < w0.heap.size ∧ (0 < len → ∀ x, a = some x → x.block < w0.heap.size)
theorem old_of {w : World} {p : Nat} {a : Option Addr} {len cap : Nat} (h : CurAt w p a len cap) : Old w p a len := ⟨h.lt, h.code.lt⟩
theorem drawn_grown {w0 w w' : World} {p : Nat} {a : Option Addr} {len cap : Nat} {row : Option Nat} (h : Drawn p a len cap w0 w) (ho : Old w0 p a len) (hg : w.grownBy w' row) (hr : ∀ k, row = some k → w0.heap.size ≤ k) : Drawn p a len cap w0 w' := by
  have hsz := h.onto.size
  have key : ∀ k, k < w0.heap.size → w'.heap[k]? = w.heap[k]? := fun k hk => hg.block k (by omega) (fun e => by have := hr k e.symm; omega)
  exact ⟨⟨hg.os.trans h.onto.os, hg.tape.trans h.onto.tape, hg.output.trans h.onto.output, Nat.le_trans hsz hg.size, fun k hk hl => (key k hl).trans (h.onto.block k hk hl)⟩,
    cur_keep h.cur hg.size (key p ho.1) (fun h0 x hx => key _ (ho.2 h0 x hx))⟩
theorem own_onto {base p : Nat} {w w' : World} {v : Value} {l : List Int} (h : Own base w v l) (ho : Onto p w w') (hp : p < base) : Own base w' v l :=
  h.onto ho (fun e => by have := (h.lt p e).1; omega)
theorem drawn_below {w0 w : World} {p : Nat} {a : Option Addr} {len cap : Nat} (h : Drawn p a len cap w0 w) {B : Nat} (hB : B ≤ p) (hw : B ≤ w0.heap.size) : Below B w0 w := h.onto.below hB hw

theorem l2Draw_any {p : Nat} {a : Option Addr} {len cap : Nat} (w : World) (h : CurAt w p a len cap) :
    Calls Try.prog 25 #[.pointer (some ⟨p, 0, none⟩)] w fun e w' => ∃ v l, e = .returned v ∧ Own w.heap.size w' v l ∧ l.length ≤ 12 ∧ Drawn p a len cap w w' := by
  have hOld := old_of h
  have hd0 := h.drawn.alloc (.cells #[] 2)
  have ho0 := own_lit w.heap.size w #[] [] rfl (by decide) (Nat.le_refl _)
  go_enter Try.func25, Try.ntmps25
  go_wp2_with fail
  go_at_call 28; refine (Draw.below_any _ _ hd0 (by omega)).mono ?_; rintro e w1 ⟨r, rfl, hr, hon, hd1⟩
  have ho1 := own_onto ho0 hon hOld.1
  go_wp2_with fail
  go_loopw [3, 4] (fun v n wr => ∃ (l : List Int) (k : Nat), n = .int .i64 k ∧ l.length + k ≤ 12 ∧ Own w.heap.size wr v l ∧ Drawn p a len cap w wr) (fun _ n _ => (intOf n).toNat)
  case atStart => exact ⟨[], 1 + r, by go_num, by simp; omega, ho1, hd1⟩
  case round =>
    obtain ⟨l, k, rfl, hlk, ho, hd⟩ := hrel
    by_cases hk : 0 < k
    · go_wp2_with (first
        | (go_at_call 28; refine (Draw.below_any _ _ hd (by omega)).mono ?_; rintro e w2 ⟨r2, rfl, hr2, hon2, hd2⟩)
        | (at_builtin; refine app rfl (.tmp 13) (.tmp 16) rfl w.heap.size l [(r2 : Int)] ((own_onto ho hon2 hOld.1).below ((Below.refl _ _).alloc (Nat.le_refl _) _)) (sl_lit _ _ [(r2 : Int)] rfl (by simp [maxLen])) (by simp; omega) (by have := hd2.onto.size; simp; omega) ?_; intro v3 w3 ho3 hg3))
      go_roundw
      case rel => exact ⟨l ++ [(r2 : Int)], k - 1, by go_num, by simp; omega, ho3, drawn_grown (hd2.alloc _) hOld hg3 (fun j hj => (ho.lt j hj).1)⟩
      case measure => simp [intOf]; omega
    · go_wp2
      go_ret
      exact ⟨_, l, rfl, ho, by omega, hd⟩

theorem drawCheckOf_any (a : Option Addr) (len cap : Nat) (w : World) (hc : CodeAt w a len) (hl : len ≤ 4096) :
    Calls Try.prog 12 #[.slice a len cap] w fun e w' => ∃ v l, e = .returned v ∧ Own w.heap.size w' v l ∧ l.length ≤ 300 ∧ Below w.heap.size w w' := by
  go_enter Try.func12, Try.ntmps12
  go_wp2_with fail
  go_at_call 24; refine (new_any a len cap w hc hl).mono ?_; rintro e w1 ⟨rfl, hb1, hcur⟩
  have hOld := old_of hcur
  go_wp2_with fail
  go_at_call 25; refine (l2Draw_any _ hcur).mono ?_; rintro e w2 ⟨v, l, rfl, ho2, hl2, hd2⟩
  have hsz := hb1.size
  go_wp2_with fail
  go_at_call 26; refine (once_any _ _ hd2 (by omega)).mono ?_; rintro e w3 ⟨r, rfl, hon3, hd3⟩
  have ho3 := own_onto ho2 hon3 hOld.1
  have hB3 := hb1.trans (drawn_below hd3 (Nat.le_refl _) hsz)
  cases r
  · go_wp2
    go_ret
    exact ⟨v, l, rfl, ho3.mono hsz, by omega, hB3⟩
  · go_wp2_with (first
      | (go_at_call 27; refine (drawByte_any _ hd3).mono ?_; rintro e w4 ⟨x, rfl, hxr, hon4, hd4⟩)
      | (at_builtin; refine app rfl (.tmp 11) (.tmp 14) rfl w1.heap.size l [x] ((own_onto ho3 hon4 hOld.1).below ((Below.refl _ _).alloc (Nat.le_refl _) _)) (sl_lit _ _ [x] rfl (by simp [maxLen])) (by simp; omega) (by have := hd4.onto.size; simp; omega) ?_; intro v5 w5 ho5 hg5))
    go_ret
    have hd5 := drawn_grown (hd4.alloc (.cells #[.int .i64 x] 2)) hOld hg5 (fun j hj => (ho3.lt j hj).1)
    exact ⟨_, l ++ [x], rfl, ho5.mono hsz, by simp; omega, hb1.trans (drawn_below hd5 (Nat.le_refl _) hsz)⟩

theorem drawRomOf_any (a : Option Addr) (len cap : Nat) (w : World) (hc : CodeAt w a len) (hl : len ≤ 4096) :
    Calls Try.prog 8 #[.slice a len cap] w fun e w' => ∃ v l, e = .returned v ∧ Own w.heap.size w' v l ∧ l.length ≤ 300 ∧ Below w.heap.size w w' := by
  go_enter Try.func8, Try.ntmps8
  go_wp2_with fail
  go_at_call 24; refine (new_any a len cap w hc hl).mono ?_; rintro e w1 ⟨rfl, hb1, hcur⟩
  have hOld := old_of hcur
  go_wp2_with fail
  go_at_call 25; refine (l2Draw_any _ hcur).mono ?_; rintro e w2 ⟨v, l, rfl, ho2, hl2, hd2⟩
  have hsz := hb1.size
  go_wp2_with fail
  go_at_call 26; refine (once_any _ _ hd2 (by omega)).mono ?_; rintro e w3 ⟨r, rfl, hon3, hd3⟩
  have ho3 := own_onto ho2 hon3 hOld.1
  cases r
  · skip
    go_wp2_with fail
    go_at_call 26; refine (once_any _ _ hd3 (by omega)).mono ?_; rintro e w6 ⟨r6, rfl, hon6, hd6⟩
    have ho6 := own_onto ho3 hon6 hOld.1
    cases r6
    · go_wp2
      go_ret
      exact ⟨_, l, rfl, ho6.mono hsz, by omega, hb1.trans (drawn_below hd6 (Nat.le_refl _) hsz)⟩
    · go_wp2_with fail
      go_at_call 28; refine (Draw.below_any _ _ hd6 (by omega)).mono ?_; rintro e w7 ⟨r7, rfl, hr7, hon7, hd7⟩
      go_wp2_with fail
      go_at_call 28; refine (Draw.below_any _ _ hd7 (by omega)).mono ?_; rintro e w8 ⟨r8, rfl, hr8, hon8, hd8⟩
      have hm : r7 * (127 + r8) ≤ 200 := by
        have : r7 ≤ 1 := by omega
        have h2 := Nat.mul_le_mul this (show 127 + r8 ≤ 128 by omega)
        omega
      have HMI : Hid ((r7 : Int) * (127 + (r8 : Int)) = ((r7 * (127 + r8) : Nat) : Int)) := by show _ = _; simp
      have hmb : 0 ≤ (r7 : Int) * (127 + (r8 : Int)) ∧ (r7 : Int) * (127 + (r8 : Int)) ≤ 200 := by rw [HMI.out]; omega
      go_wp2_with (at_make; refine make64 rfl (.tmp 23) (.tmp 23) rfl w.heap.size (r7 * (127 + r8)) _ HMI.out rfl rfl (by omega) (by have := hd8.onto.size; omega) ?_; intro w9 ho9 hg9)
      go_ret
      have hd9 := drawn_grown hd8 hOld hg9 (by simp)
      exact ⟨_, _, rfl, ho9, by simp; omega, hb1.trans (drawn_below hd9 (Nat.le_refl _) hsz)⟩
  · go_wp2_with (first
      | (go_at_call 27; refine (drawByte_any _ hd3).mono ?_; rintro e w4 ⟨x, rfl, hxr, hon4, hd4⟩)
      | (at_builtin; refine app rfl (.tmp 11) (.tmp 14) rfl w1.heap.size l [x] ((own_onto ho3 hon4 hOld.1).below ((Below.refl _ _).alloc (Nat.le_refl _) _)) (sl_lit _ _ [x] rfl (by simp [maxLen])) (by simp; omega) (by have := hd4.onto.size; simp; omega) ?_; intro v5 w5 ho5 hg5))
    have hd5 := drawn_grown (hd4.alloc (.cells #[.int .i64 x] 2)) hOld hg5 (fun j hj => (ho3.lt j hj).1)
    go_wp2_with fail
    go_at_call 26; refine (once_any _ _ hd5 (by omega)).mono ?_; rintro e w6 ⟨r6, rfl, hon6, hd6⟩
    have ho6 := own_onto ho5 hon6 hOld.1
    cases r6
    · go_wp2
      go_ret
      exact ⟨_, (l ++ [x]), rfl, ho6.mono hsz, by simp; omega, hb1.trans (drawn_below hd6 (Nat.le_refl _) hsz)⟩
    · go_wp2_with fail
      go_at_call 28; refine (Draw.below_any _ _ hd6 (by omega)).mono ?_; rintro e w7 ⟨r7, rfl, hr7, hon7, hd7⟩
      go_wp2_with fail
      go_at_call 28; refine (Draw.below_any _ _ hd7 (by omega)).mono ?_; rintro e w8 ⟨r8, rfl, hr8, hon8, hd8⟩
      have hm : r7 * (127 + r8) ≤ 200 := by
        have : r7 ≤ 1 := by omega
        have h2 := Nat.mul_le_mul this (show 127 + r8 ≤ 128 by omega)
        omega
      have HMI : Hid ((r7 : Int) * (127 + (r8 : Int)) = ((r7 * (127 + r8) : Nat) : Int)) := by show _ = _; simp
      have hmb : 0 ≤ (r7 : Int) * (127 + (r8 : Int)) ∧ (r7 : Int) * (127 + (r8 : Int)) ≤ 200 := by rw [HMI.out]; omega
      go_wp2_with (at_make; refine make64 rfl (.tmp 23) (.tmp 23) rfl w.heap.size (r7 * (127 + r8)) _ HMI.out rfl rfl (by omega) (by have := hd8.onto.size; omega) ?_; intro w9 ho9 hg9)
      go_ret
      have hd9 := drawn_grown hd8 hOld hg9 (by simp)
      exact ⟨_, _, rfl, ho9, by simp; omega, hb1.trans (drawn_below hd9 (Nat.le_refl _) hsz)⟩

set_option maxHeartbeats 1000000 in
theorem drawRomOk_any (a : Option Addr) (len cap : Nat) (w : World) (hc : CodeAt w a len) (hl : len ≤ 4096) :
    Calls Try.prog 11 #[.slice a len cap] w fun e w' => ∃ v l, e = .returned v ∧ Own w.heap.size w' v l ∧ l.length ≤ 300 ∧ Below w.heap.size w w' := by
  go_enter Try.func11, Try.ntmps11
  go_wp2_with fail
  go_at_call 24; refine (new_any a len cap w hc hl).mono ?_; rintro e w1 ⟨rfl, hb1, hcur⟩
  have hOld := old_of hcur
  go_wp2_with fail
  go_at_call 25; refine (l2Draw_any _ hcur).mono ?_; rintro e w2 ⟨v, l, rfl, ho2, hl2, hd2⟩
  have hsz := hb1.size
  go_wp2_with (first
    | (go_at_call 17; refine (checkOf_specS _ l _ ho2.sl).mono ?_; rintro e w3 ⟨rfl, rfl⟩)
    | (at_builtin; refine app rfl (.tmp 9) (.tmp 12) rfl w1.heap.size l [chk l] (ho2.below ((Below.refl _ _).alloc (Nat.le_refl _) _)) (sl_lit _ _ [chk l] rfl (by simp [maxLen])) (by simp; omega) (by have := hd2.onto.size; simp; omega) ?_; intro v3 w3 ho3 hg3)
    | fail)
  have hd3 := drawn_grown (hd2.alloc (.cells #[.int .i64 (chk l)] 2)) hOld hg3 (fun j hj => (ho2.lt j hj).1)
  go_wp2_with fail
  go_at_call 26; refine (once_any _ _ hd3 (by omega)).mono ?_; rintro e w4 ⟨r, rfl, hon4, hd4⟩
  have ho4 := own_onto ho3 hon4 hOld.1
  cases r
  · skip
    go_wp2_with fail
    go_at_call 26; refine (once_any _ _ hd4 (by omega)).mono ?_; rintro e w6 ⟨r6, rfl, hon6, hd6⟩
    have ho6 := own_onto ho4 hon6 hOld.1
    cases r6
    · go_wp2
      go_ret
      exact ⟨_, (l ++ [chk l]), rfl, ho6.mono hsz, by simp; omega, hb1.trans (drawn_below hd6 (Nat.le_refl _) hsz)⟩
    · go_wp2_with (first
        | (go_at_call 28; refine (Draw.below_any _ _ hd6 (by omega)).mono ?_; rintro e w7 ⟨r7, rfl, hr7, hon7, hd7⟩)
        | (at_make; refine make64 rfl (.tmp 28) (.tmp 28) rfl w1.heap.size (127 + r7) _ (by omega) rfl rfl (by omega) (by have := hd7.onto.size; omega) ?_; intro w8 ho8 hg8)
        | (at_builtin; refine app rfl (.tmp 30) (.tmp 31) rfl w1.heap.size (List.replicate (127 + r7) 0) [25] (ho8.below ((Below.refl _ _).alloc (Nat.le_refl _) _)) (sl_lit _ _ [25] rfl (by simp [maxLen])) (by simp; omega) (by have := hd7.onto.size; have := hg8.size; simp; omega) ?_; intro v9 w9 ho9 hg9))
      go_ret
      have hd8 := drawn_grown hd7 hOld hg8 (by simp)
      have hd9 := drawn_grown (hd8.alloc (.cells #[.int .i64 25] 2)) hOld hg9 (fun j hj => (ho8.lt j hj).1)
      exact ⟨_, _, rfl, ho9.mono hsz, by simp; omega, hb1.trans (drawn_below hd9 (Nat.le_refl _) hsz)⟩
  · obtain ⟨g, cap4, rfl, hg4, hgl4, hlc4, hcm4⟩ := ho4.block (by simp)
    unfold maxLen at hcm4
    have hlen : (l ++ [chk l]).length = l.length + 1 := by simp
    rw [hlen] at ho4 hlc4 ho3 ⊢
    go_wp2_with fail
    go_at_call 28; refine (Draw.below_any _ _ hd4 (by first | omega | (simp; done))).mono ?_; rintro e w5 ⟨r5, rfl, hr5, hon5, hd5⟩
    go_wp2_with fail
    go_at_call 27; refine (drawByte_any _ hd5).mono ?_; rintro e w5 ⟨x, rfl, hxr, hon5b, hd5b⟩
    have ho5 := own_onto (own_onto ho4 hon5 hOld.1) hon5b hOld.1
    have hst := ho5.store r5 x
    have hc5 := ho5.cellAt (j := r5) (by simp at hr5 ⊢; omega)
    have hf5 := ho5.free r5
    have hd5c := drawn_grown hd5b hOld hst.2 (fun j hj => by cases hj; exact hg4)
    have HST := hst.1
    have hlenI : (r5 : Int) < (l.length : Int) + 1 := by simpa using hr5
    obtain ⟨y, hyy⟩ : ∃ y, y = (l ++ [chk l]).getD r5 0 := ⟨_, rfl⟩
    rw [← hyy] at hc5
    clear hyy hst hr5
    go_wp2_with fail
    go_at_call 26; refine (once_any _ _ hd5c (by omega)).mono ?_; rintro e w6 ⟨r6, rfl, hon6, hd6⟩
    have ho6 := own_onto HST hon6 hOld.1
    cases r6
    · go_wp2
      go_ret
      exact ⟨_, ((l ++ [chk l]).set r5 x), rfl, ho6.mono hsz, by simp; omega, hb1.trans (drawn_below hd6 (Nat.le_refl _) hsz)⟩
    · go_wp2_with (first
        | (go_at_call 28; refine (Draw.below_any _ _ hd6 (by omega)).mono ?_; rintro e w7 ⟨r7, rfl, hr7, hon7, hd7⟩)
        | (at_make; refine make64 rfl (.tmp 28) (.tmp 28) rfl w1.heap.size (127 + r7) _ (by omega) rfl rfl (by omega) (by have := hd7.onto.size; omega) ?_; intro w8 ho8 hg8)
        | (at_builtin; refine app rfl (.tmp 30) (.tmp 31) rfl w1.heap.size (List.replicate (127 + r7) 0) [25] (ho8.below ((Below.refl _ _).alloc (Nat.le_refl _) _)) (sl_lit _ _ [25] rfl (by simp [maxLen])) (by simp; omega) (by have := hd7.onto.size; have := hg8.size; simp; omega) ?_; intro v9 w9 ho9 hg9))
      go_ret
      have hd8 := drawn_grown hd7 hOld hg8 (by simp)
      have hd9 := drawn_grown (hd8.alloc (.cells #[.int .i64 25] 2)) hOld hg9 (fun j hj => (ho8.lt j hj).1)
      exact ⟨_, _, rfl, ho9.mono hsz, by simp; omega, hb1.trans (drawn_below hd9 (Nat.le_refl _) hsz)⟩
end Go.Proofs.Ythhfhgjjfepoiaa.DrawRom
