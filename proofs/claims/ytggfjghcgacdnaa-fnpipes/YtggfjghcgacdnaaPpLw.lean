/-
  FnPipes: what goes into a pipe comes out in order, as long as there is room.
-/
import Derived.Test.YtggfjghcgacdnaaNtDr
import Derived.Test.YtggfjghcgacdnaaNtLk
import Derived.Test.YtggfjghcgacdnaaDice
namespace Go.Proofs.Ytggfjghcgacdnaa.Mem
open Go.ChangeShapes Go.WideShapes Go.RowKit Base Num Slc Slf Rw Tmr Reg Ex Draw Dice
set_option linter.unusedVariables false
set_option linter.unusedSimpArgs false
set_option maxRecDepth 20000

theorem big_p (a : Option Addr) (len cap : Nat) (w : World) :
    Calls Try.prog 8 #[.slice a len cap] w fun e w' => e = .returned (.bool (decide ((4096 : Int) < (len : Int)))) ∧ w' = w := by
  go_enter Try.func8, Try.ntmps8
  go_wp2
  go_ret
  exact ⟨rfl, rfl⟩
/-- Promises, one after another. -/
def proms (o : Int) : Nat → List Nt
  | 0 => []
  | n + 1 => ⟨true, o, M3.nul⟩ :: proms (o + 1) n
theorem proms_length (o : Int) (n : Nat) : (proms o n).length = n := by
  induction n generalizing o with
  | zero => rfl
  | succ n ih => simp [proms, ih]
theorem proms_snoc (o : Int) (n : Nat) : proms o (n + 1) = proms o n ++ [⟨true, o + n, M3.nul⟩] := by
  induction n generalizing o with
  | zero => simp [proms]
  | succ n ih =>
    rw [proms, ih (o + 1), proms]
    simp
    omega
theorem prom_ok {t : Int} (h0 : 0 ≤ t) (h1 : t ≤ 1000000100) : (Nt.mk true t M3.nul).ok = true := by
  simp [Nt.ok, inn, M3.isNul, M3.nul, h0, h1]
theorem proms_ok (o : Int) (n : Nat) (h0 : 0 ≤ o) (h1 : o + n ≤ 1000000100) : (proms o n).all Nt.ok = true := by
  induction n generalizing o with
  | zero => rfl
  | succ n ih =>
    simp only [proms, List.all_cons, Bool.and_eq_true]
    exact ⟨prom_ok h0 (by omega), ih (o + 1) (by omega) (by omega)⟩
theorem pipe_good (kk n : Nat) (o : Int) (hk : 1 ≤ kk) (h8 : kk ≤ 8) (hn : n ≤ kk) (h0 : 0 ≤ o) (h1 : o + n ≤ 1000000100) : Pp.ok ⟨kk, proms o n⟩ = true := by
  unfold Pp.ok
  rw [proms_ok o n h0 h1, proms_length]
  simp [inn]
  omega
theorem with_room {kk n : Nat} {o : Int} (hk : 1 ≤ kk) (h8 : kk ≤ 8) (hn : n < kk) (h0 : 0 ≤ o) (h1 : o + n ≤ 1000000100) : pipeWith ⟨kk, proms o n⟩ ⟨true, o + n, M3.nul⟩ = (⟨kk, proms o (n + 1)⟩, true) := by
  unfold pipeWith
  rw [pipe_good kk n o hk h8 (by omega) h0 h1, prom_ok (by omega) h1, proms_length, proms_snoc]
  simp [hn]
theorem with_none {kk n : Nat} {o : Int} (m : Nt) (hk : 1 ≤ kk) (h8 : kk ≤ 8) (hn : n = kk) (h0 : 0 ≤ o) (h1 : o + n ≤ 1000000100) : pipeWith ⟨kk, proms o n⟩ m = (⟨kk, proms o n⟩, false) := by
  unfold pipeWith
  rw [pipe_good kk n o hk h8 (by omega) h0 h1, proms_length]
  simp [hn]
theorem first_some {kk n : Nat} {o : Int} (hk : 1 ≤ kk) (h8 : kk ≤ 8) (hn : n + 1 ≤ kk) (h0 : 0 ≤ o) (h1 : o + (n + 1 : Nat) ≤ 1000000100) : pipeFirst ⟨kk, proms o (n + 1)⟩ = (⟨kk, proms (o + 1) n⟩, ⟨true, o, M3.nul⟩, true) := by
  unfold pipeFirst
  rw [pipe_good kk (n + 1) o hk h8 hn h0 h1]
  rfl
theorem first_none {kk : Nat} {o : Int} (hk : 1 ≤ kk) (h8 : kk ≤ 8) (h0 : 0 ≤ o) (h1 : o ≤ 1000000100) : pipeFirst ⟨kk, proms o 0⟩ = (⟨kk, proms o 0⟩, Nt.nul, false) := by
  unfold pipeFirst
  rw [pipe_good kk 0 o hk h8 (by omega) h0 (by simpa using h1)]
  rfl
/-- What stands between two rounds: the pipe, the dice. -/
structure Gql (w wb : World) (dp : Nat) (a : Option Addr) (len cap g base kk : Nat) (u : Value) (o : Int) (n : Nat) (W : World) : Prop where
  dice : DiceAt W dp a len cap
  row : Row W g #[.int .i64 (kk : Int), u] 26
  own : OwnA 83 fN base W u (proms o n)
  bel : Below w.heap.size w W
  sz : wb.heap.size ≤ W.heap.size
theorem Gql.below {w wb W W' : World} {dp : Nat} {a : Option Addr} {len cap g base kk : Nat} {u : Value} {o : Int} {n : Nat} (h : Gql w wb dp a len cap g base kk u o n W) (hb : Below W.heap.size W W') : Gql w wb dp a len cap g base kk u o n W' :=
  ⟨h.dice.below hb, h.row.below hb, h.own.below hb, below_more h.bel hb, Nat.le_trans h.sz hb.size⟩
/-- A store into a block that is neither. -/
theorem Gql.other {w wb W W' : World} {dp q : Nat} {a : Option Addr} {len cap g base kk : Nat} {u : Value} {o : Int} {n : Nat} (h : Gql w wb dp a len cap g base kk u o n W) (ho : Onto q W W') (hw : w.heap.size ≤ q) (h1 : dp ≠ q) (h2 : g ≠ q) (h3 : u.ownBlock ≠ some q) (hx : 0 < len → ∀ x, a = some x → x.block ≠ q) : Gql w wb dp a len cap g base kk u o n W' :=
  ⟨h.dice.onto ho h1 hx, h.row.onto ho h2, h.own.onto ho h3, below_onto h.bel ho hw, Nat.le_trans h.sz ho.size⟩
set_option maxHeartbeats 8000000 in
theorem pipes_any (a : Option Addr) (len cap : Nat) (w : World) (hc : CodeAt w a len) :
    Calls Try.prog 3 #[.slice a len cap] w fun e w' => e = .returned (.bool true) ∧ Below w.heap.size w w' := by
  by_cases hl : ¬ len ≤ 4096
  · have hs : decide ((4096 : Int) < (len : Int)) = true := by simp; omega
    go_enter Try.func3, Try.ntmps3
    go_wp2_with (go_at_call 8; refine (big_p _ _ _ _).mono ?_; rintro e w0 ⟨rfl, rfl⟩; rw [hs])
    go_ret
    exact ⟨rfl, Below.refl _ _⟩
  have hl : len ≤ 4096 := by omega
  have hs : decide ((4096 : Int) < (len : Int)) = false := by simp; omega
  have hcx : 0 < len → ∀ x, a = some x → x.block < w.heap.size := hc.lt
  go_enter Try.func3, Try.ntmps3
  go_wp2_with fail
  go_at_call 8
  refine (big_p _ _ _ _).mono ?_
  rintro e w1 ⟨rfl, rfl⟩
  rw [hs]
  have z1 := Nat.le_refl w1.heap.size
  go_wp2_with fail
  go_at_call 9
  refine (drawPipeWith_any a len cap _ hc hl).mono ?_
  rintro e w11 ⟨c, vp, l, n, rfl, hP, hlp, b11⟩
  have B11 := below_more (Below.refl _ w1) b11
  have z11 := b11.size
  have o1 := hP.one okN
  obtain ⟨P1, B1, hq⟩ : ∃ P1 B1, pipeWith ⟨c, l⟩ n = (P1, B1) := ⟨_, _, rfl⟩
  obtain ⟨C1, L1⟩ := P1
  have HQ : Hid (pipeWith ⟨c, l⟩ n = (⟨C1, L1⟩, B1)) := hq
  clear hq
  go_wp2_with (first
    | (refine al_pp rfl rfl ?_; intro w12 v12 b12; have L12 := hP.below b12; have B12 := below_more B11 b12; have y12 := v12.lt; have z12 := b12.size)
    | (refine al_nt rfl rfl ?_; intro w13 m13 b13; have L13 := L12.below b13; have B13 := below_more B12 b13; have v13 := v12.below b13; have y13 := m13.lt; have z13 := b13.size)
    | (refine st_pp rfl rfl rfl rfl v13 rfl o1 ?_; rintro w14 P14 o14 -; have L14 := L13.onto o14 (fun e => by have := (hP.lt _ e).2; omega); have B14 := below_onto B13 o14 (by omega); have z14 := o14.size; have m14 := m13.onto o14 (by omega))
    | (refine st_nt (n := n) rfl rfl rfl rfl m14 ?_; rintro w15 N15 o15 -; have L15 := L14.onto o15 (fun e => by have := (hP.lt _ e).2; omega); have B15 := below_onto B14 o15 (by omega); have z15 := o15.size; have P15 := P14.onto o15 (by omega))
    | (refine ld_ppg rfl rfl rfl P15 ?_)
    | (refine ld_ntg rfl rfl rfl N15 ?_))
  go_at_call 10
  refine (pipeWith_implq HQ.out ⟨_, rfl, L15.sl okN⟩).mono ?_
  rintro e w16 ⟨ux, rfl, hX, b16⟩
  have L16 := L15.below b16
  have P16 := P15.below b16
  have N16 := N15.below b16
  have B16 := below_more B15 b16
  have z16 := b16.size
  have o2 := hX.one okN
  go_wp2_with (first
    | (refine al_pp rfl rfl ?_; intro w17 v17 b17; have L17 := L16.below b17; have P17 := P16.below b17; have N17 := N16.below b17; have X17 := hX.below b17; have B17 := below_more B16 b17; have y17 := v17.lt; have z17 := b17.size)
    | (refine st_pp rfl rfl rfl rfl v17 rfl o2 ?_; rintro w18 xr18 o18 -; have L18 := L17.onto o18 (fun e => by have := (L16.lt _ e).2; omega); have P18 := P17.onto o18 (by have := P16.lt; omega); have N18 := N17.onto o18 (by have := N16.lt; omega); have X18 := X17.onto o18 (fun e => by have := (hX.lt _ e).2; omega); have B18 := below_onto B17 o18 (by omega); have z18 := o18.size)
    | (refine ld_ppg rfl rfl rfl P18 ?_)
    | (refine ld_ntg rfl rfl rfl N18 ?_))
  go_at_call 11
  refine (pipeWith_specq HQ.out ⟨_, rfl, L18.sl okN⟩).mono ?_
  rintro e w19 ⟨uy, rfl, hY, b19⟩
  have L19 := L18.below b19
  have P19 := P18.below b19
  have N19 := N18.below b19
  have X19 := X18.below b19
  have xr19 := xr18.below b19
  have B19 := below_more B18 b19
  have z19 := b19.size
  have o3 := hY.one okN
  go_wp2_with (first
    | (refine al_pp rfl rfl ?_; intro w20 v20 b20; have L20 := L19.below b20; have P20 := P19.below b20; have N20 := N19.below b20; have X20 := X19.below b20; have xr20 := xr19.below b20; have Y20 := hY.below b20; have B20 := below_more B19 b20; have y20 := v20.lt; have z20 := b20.size)
    | (refine st_pp rfl rfl rfl rfl v20 rfl o3 ?_; rintro w21 yr21 o21 -; have L21 := L20.onto o21 (fun e => by have := (L19.lt _ e).2; omega); have P21 := P20.onto o21 (by have := P19.lt; omega); have N21 := N20.onto o21 (by have := N19.lt; omega); have X21 := X20.onto o21 (fun e => by have := (X19.lt _ e).2; omega); have xr21 := xr20.onto o21 (by have := xr19.lt; omega); have Y21 := Y20.onto o21 (fun e => by have := (hY.lt _ e).2; omega); have B21 := below_onto B20 o21 (by omega); have z21 := o21.size))
  go_at_call 12
  refine (drawPipeFirst_any a len cap _ (hc.below B21) hl).mono ?_
  rintro e w22 ⟨cq, vq, lq, rfl, hQ, hlq, b22⟩
  have L22 := L21.below b22
  have P22 := P21.below b22
  have N22 := N21.below b22
  have X22 := X21.below b22
  have xr22 := xr21.below b22
  have Y22 := Y21.below b22
  have yr22 := yr21.below b22
  have B22 := below_more B21 b22
  have z22 := b22.size
  have o4 := hQ.one okN
  obtain ⟨P2, N2, B2, hq⟩ : ∃ P2 N2 B2, pipeFirst ⟨cq, lq⟩ = (P2, N2, B2) := ⟨_, _, _, rfl⟩
  obtain ⟨C2, L2⟩ := P2
  have HF : Hid (pipeFirst ⟨cq, lq⟩ = (⟨C2, L2⟩, N2, B2)) := hq
  clear hq
  go_wp2_with (first
    | (refine al_pp rfl rfl ?_; intro w23 v23 b23; have L23 := L22.below b23; have P23 := P22.below b23; have N23 := N22.below b23; have X23 := X22.below b23; have xr23 := xr22.below b23; have Y23 := Y22.below b23; have yr23 := yr22.below b23; have J23 := hQ.below b23; have B23 := below_more B22 b23; have y23 := v23.lt; have z23 := b23.size)
    | (refine st_pp rfl rfl rfl rfl v23 rfl o4 ?_; rintro w24 qr24 o24 -; have L24 := L23.onto o24 (fun e => by have := (L22.lt _ e).2; omega); have P24 := P23.onto o24 (by have := P22.lt; omega); have N24 := N23.onto o24 (by have := N22.lt; omega); have X24 := X23.onto o24 (fun e => by have := (X22.lt _ e).2; omega); have xr24 := xr23.onto o24 (by have := xr22.lt; omega); have Y24 := Y23.onto o24 (fun e => by have := (Y22.lt _ e).2; omega); have yr24 := yr23.onto o24 (by have := yr22.lt; omega); have J24 := J23.onto o24 (fun e => by have := (hQ.lt _ e).2; omega); have B24 := below_onto B23 o24 (by omega); have z24 := o24.size)
    | (refine ld_ppg rfl rfl rfl qr24 ?_))
  go_at_call 13
  refine (pipeFirst_implq HF.out ⟨_, rfl, J24.sl okN⟩).mono ?_
  rintro e w25 ⟨uu, rfl, hU, b25⟩
  have L25 := L24.below b25
  have P25 := P24.below b25
  have N25 := N24.below b25
  have X25 := X24.below b25
  have xr25 := xr24.below b25
  have Y25 := Y24.below b25
  have yr25 := yr24.below b25
  have J25 := J24.below b25
  have qr25 := qr24.below b25
  have B25 := below_more B24 b25
  have z25 := b25.size
  have o5 := hU.one okN
  go_wp2_with (first
    | (refine al_pp rfl rfl ?_; intro w26 v26 b26; have L26 := L25.below b26; have P26 := P25.below b26; have N26 := N25.below b26; have X26 := X25.below b26; have xr26 := xr25.below b26; have Y26 := Y25.below b26; have yr26 := yr25.below b26; have J26 := J25.below b26; have qr26 := qr25.below b26; have U26 := hU.below b26; have B26 := below_more B25 b26; have y26 := v26.lt; have z26 := b26.size)
    | (refine al_nt rfl rfl ?_; intro w27 m27 b27; have L27 := L26.below b27; have P27 := P26.below b27; have N27 := N26.below b27; have X27 := X26.below b27; have xr27 := xr26.below b27; have Y27 := Y26.below b27; have yr27 := yr26.below b27; have J27 := J26.below b27; have qr27 := qr26.below b27; have U27 := U26.below b27; have B27 := below_more B26 b27; have v27 := v26.below b27; have y27 := m27.lt; have z27 := b27.size)
    | (refine st_pp rfl rfl rfl rfl v27 rfl o5 ?_; rintro w28 ur28 o28 -; have L28 := L27.onto o28 (fun e => by have := (L25.lt _ e).2; omega); have P28 := P27.onto o28 (by have := P25.lt; omega); have N28 := N27.onto o28 (by have := N25.lt; omega); have X28 := X27.onto o28 (fun e => by have := (X25.lt _ e).2; omega); have xr28 := xr27.onto o28 (by have := xr25.lt; omega); have Y28 := Y27.onto o28 (fun e => by have := (Y25.lt _ e).2; omega); have yr28 := yr27.onto o28 (by have := yr25.lt; omega); have J28 := J27.onto o28 (fun e => by have := (J25.lt _ e).2; omega); have qr28 := qr27.onto o28 (by have := qr25.lt; omega); have U28 := U27.onto o28 (fun e => by have := (hU.lt _ e).2; omega); have B28 := below_onto B27 o28 (by omega); have z28 := o28.size; have m28 := m27.onto o28 (by omega))
    | (refine st_nt (n := N2) rfl rfl rfl rfl m28 ?_; rintro w29 M29 o29 -; have L29 := L28.onto o29 (fun e => by have := (L25.lt _ e).2; omega); have P29 := P28.onto o29 (by have := P25.lt; omega); have N29 := N28.onto o29 (by have := N25.lt; omega); have X29 := X28.onto o29 (fun e => by have := (X25.lt _ e).2; omega); have xr29 := xr28.onto o29 (by have := xr25.lt; omega); have Y29 := Y28.onto o29 (fun e => by have := (Y25.lt _ e).2; omega); have yr29 := yr28.onto o29 (by have := yr25.lt; omega); have J29 := J28.onto o29 (fun e => by have := (J25.lt _ e).2; omega); have qr29 := qr28.onto o29 (by have := qr25.lt; omega); have U29 := U28.onto o29 (fun e => by have := (hU.lt _ e).2; omega); have B29 := below_onto B28 o29 (by omega); have z29 := o29.size; have ur29 := ur28.onto o29 (by omega))
    | (refine ld_ppg rfl rfl rfl qr29 ?_))
  go_at_call 14
  refine (pipeFirst_specq HF.out ⟨_, rfl, J29.sl okN⟩).mono ?_
  rintro e w30 ⟨uv, rfl, hV, b30⟩
  have L30 := L29.below b30
  have P30 := P29.below b30
  have N30 := N29.below b30
  have X30 := X29.below b30
  have xr30 := xr29.below b30
  have Y30 := Y29.below b30
  have yr30 := yr29.below b30
  have J30 := J29.below b30
  have qr30 := qr29.below b30
  have U30 := U29.below b30
  have ur30 := ur29.below b30
  have M30 := M29.below b30
  have B30 := below_more B29 b30
  have z30 := b30.size
  have o6 := hV.one okN
  go_wp2_with (first
    | (refine al_pp rfl rfl ?_; intro w31 v31 b31; have L31 := L30.below b31; have P31 := P30.below b31; have N31 := N30.below b31; have X31 := X30.below b31; have xr31 := xr30.below b31; have Y31 := Y30.below b31; have yr31 := yr30.below b31; have J31 := J30.below b31; have qr31 := qr30.below b31; have U31 := U30.below b31; have ur31 := ur30.below b31; have M31 := M30.below b31; have V31 := hV.below b31; have B31 := below_more B30 b31; have y31 := v31.lt; have z31 := b31.size)
    | (refine al_nt rfl rfl ?_; intro w32 m32 b32; have L32 := L31.below b32; have P32 := P31.below b32; have N32 := N31.below b32; have X32 := X31.below b32; have xr32 := xr31.below b32; have Y32 := Y31.below b32; have yr32 := yr31.below b32; have J32 := J31.below b32; have qr32 := qr31.below b32; have U32 := U31.below b32; have ur32 := ur31.below b32; have M32 := M31.below b32; have V32 := V31.below b32; have B32 := below_more B31 b32; have v32 := v31.below b32; have y32 := m32.lt; have z32 := b32.size)
    | (refine st_pp rfl rfl rfl rfl v32 rfl o6 ?_; rintro w33 vr33 o33 -; have L33 := L32.onto o33 (fun e => by have := (L30.lt _ e).2; omega); have P33 := P32.onto o33 (by have := P30.lt; omega); have N33 := N32.onto o33 (by have := N30.lt; omega); have X33 := X32.onto o33 (fun e => by have := (X30.lt _ e).2; omega); have xr33 := xr32.onto o33 (by have := xr30.lt; omega); have Y33 := Y32.onto o33 (fun e => by have := (Y30.lt _ e).2; omega); have yr33 := yr32.onto o33 (by have := yr30.lt; omega); have J33 := J32.onto o33 (fun e => by have := (J30.lt _ e).2; omega); have qr33 := qr32.onto o33 (by have := qr30.lt; omega); have U33 := U32.onto o33 (fun e => by have := (U30.lt _ e).2; omega); have ur33 := ur32.onto o33 (by have := ur30.lt; omega); have M33 := M32.onto o33 (by have := M30.lt; omega); have V33 := V32.onto o33 (fun e => by have := (hV.lt _ e).2; omega); have B33 := below_onto B32 o33 (by omega); have z33 := o33.size; have m33 := m32.onto o33 (by omega))
    | (refine st_nt (n := N2) rfl rfl rfl rfl m33 ?_; rintro w34 O34 o34 -; have L34 := L33.onto o34 (fun e => by have := (L30.lt _ e).2; omega); have P34 := P33.onto o34 (by have := P30.lt; omega); have N34 := N33.onto o34 (by have := N30.lt; omega); have X34 := X33.onto o34 (fun e => by have := (X30.lt _ e).2; omega); have xr34 := xr33.onto o34 (by have := xr30.lt; omega); have Y34 := Y33.onto o34 (fun e => by have := (Y30.lt _ e).2; omega); have yr34 := yr33.onto o34 (by have := yr30.lt; omega); have J34 := J33.onto o34 (fun e => by have := (J30.lt _ e).2; omega); have qr34 := qr33.onto o34 (by have := qr30.lt; omega); have U34 := U33.onto o34 (fun e => by have := (U30.lt _ e).2; omega); have ur34 := ur33.onto o34 (by have := ur30.lt; omega); have M34 := M33.onto o34 (by have := M30.lt; omega); have V34 := V33.onto o34 (fun e => by have := (hV.lt _ e).2; omega); have B34 := below_onto B33 o34 (by omega); have z34 := o34.size; have vr34 := vr33.onto o34 (by omega)))
  refine region_known (by kernel_rfl) (by kernel_rfl) 0 (by decide) (by kernel_rfl) (fun _ W => Below w34.heap.size w34 W) [.bool B1, .bool B1, .bool false, .bool false, .agg #[.int .i64 C1, ux], .agg #[.int .i64 C1, uy], .bool true, .bool false, .bool false, .bool false, .bool B2, .bool B2, .bool false, .bool false, .bool false, N2.val, N2.val, .bool false, .bool false, .bool false, .agg #[.int .i64 C2, uu], .agg #[.int .i64 C2, uv], .bool true, .bool false, .bool false, .bool false, n.val, .bool n.ok, n.val, .bool n.ok, .bool false, .bool false, .bool false, .agg #[.int .i64 cq, vq], .bool (Pp.ok ⟨cq, lq⟩), .agg #[.int .i64 cq, vq], .bool (Pp.ok ⟨cq, lq⟩), .bool false, .bool false] (drew_below (n := 1) rfl) ?step ?done
  case step =>
    intro L ix o' A W hj hI hL hd
    have hin : ix < 39 := by
      by_cases hl : ix < 39
      · exact hl
      · simp [hl] at hj
    have hsz : A.tmps.size = 165 := hI.size
    have hg := hI.g
    rcases ix with _ | ix
    · obtain rfl := (Option.some.inj hj).symm
      have e0 : A.eval (.tmp 6) = .bool B1 := hI.old 6 (by kernel_rfl)
      exact at_op rfl rfl (move_op rfl ⟨_, rfl, e0, hg⟩)
    rcases ix with _ | ix
    · obtain rfl := (Option.some.inj hj).symm
      have e0 : A.eval (.tmp 8) = .bool B1 := hI.old 8 (by kernel_rfl)
      exact at_op rfl rfl (move_op rfl ⟨_, rfl, e0, hg⟩)
    rcases ix with _ | ix
    · obtain rfl := (Option.some.inj hj).symm
      have e0 : A.eval (.tmp 59) = .bool B1 := hI.val hd 0 59 rfl rfl (by kernel_rfl)
      have e1 : A.eval (.tmp 60) = .bool B1 := hI.val hd 1 60 rfl rfl (by kernel_rfl)
      refine at_op rfl rfl (val_op (v := .bool false) ?_ ⟨_, rfl, rfl, hg⟩)
      unfold execOp
      simp only [List.getElem_toArray, List.getElem_cons_zero, List.getElem_cons_succ, e0, e1]
      simp [go_sem]
    rcases ix with _ | ix
    · obtain rfl := (Option.some.inj hj).symm
      have e0 : A.eval (.tmp 61) = .bool false := hI.val hd 2 61 rfl rfl (by kernel_rfl)
      exact at_op rfl rfl (move_op rfl ⟨_, rfl, e0, hg⟩)
    rcases ix with _ | ix
    · obtain rfl := (Option.some.inj hj).symm
      have hgv : A.tmps.getD 62 undef = .bool false := hI.val hd 3 62 rfl rfl (by kernel_rfl)
      have e0 : A.eval (.tmp 5) = .pointer (some ⟨w16.heap.size, 0, none⟩) := hI.old 5 (by kernel_rfl)
      exact at_guard rfl rfl (j := 3) (k := 62) rfl (by omega) hgv (wp_load_row _ _ rfl _ e0 _ _ _ _ (xr34.below hg).row Try.underlying26 rfl info_pp ⟨_, rfl, rfl, hg⟩)
    rcases ix with _ | ix
    · obtain rfl := (Option.some.inj hj).symm
      have hgv : A.tmps.getD 62 undef = .bool false := hI.val hd 3 62 rfl rfl (by kernel_rfl)
      have e0 : A.eval (.tmp 7) = .pointer (some ⟨w19.heap.size, 0, none⟩) := hI.old 7 (by kernel_rfl)
      exact at_guard rfl rfl (j := 3) (k := 62) rfl (by omega) hgv (wp_load_row _ _ rfl _ e0 _ _ _ _ (yr34.below hg).row Try.underlying26 rfl info_pp ⟨_, rfl, rfl, hg⟩)
    rcases ix with _ | ix
    · obtain rfl := (Option.some.inj hj).symm
      have hgv : A.tmps.getD 62 undef = .bool false := hI.val hd 3 62 rfl rfl (by kernel_rfl)
      have e0 : A.eval (.tmp 63) = .agg #[.int .i64 C1, ux] := hI.val hd 4 63 rfl rfl (by kernel_rfl)
      have e1 : A.eval (.tmp 64) = .agg #[.int .i64 C1, uy] := hI.val hd 5 64 rfl rfl (by kernel_rfl)
      refine at_guard rfl rfl (j := 3) (k := 62) rfl (by omega) hgv (call_op rfl Try.func15 (by kernel_rfl) (by kernel_rfl) ?_)
      simp only [List.map_cons, List.map_nil, e0, e1]
      refine (likePipe_same _ _ ⟨C1, L1⟩ _ ⟨_, rfl, (X34.below hg).sl okN⟩ ⟨_, rfl, (Y34.below hg).sl okN⟩).mono ?_
      rintro e W1 ⟨rfl, hb⟩
      exact ⟨_, rfl, _, rfl, rfl, below_more hg hb⟩
    rcases ix with _ | ix
    · obtain rfl := (Option.some.inj hj).symm
      have hgv : A.tmps.getD 62 undef = .bool false := hI.val hd 3 62 rfl rfl (by kernel_rfl)
      have e0 : A.eval (.tmp 65) = .bool true := hI.val hd 6 65 rfl rfl (by kernel_rfl)
      refine at_guard rfl rfl (j := 3) (k := 62) rfl (by omega) hgv (val_op (v := .bool false) ?_ ⟨_, rfl, rfl, hg⟩)
      unfold execOp
      simp only [List.getElem_toArray, List.getElem_cons_zero, List.getElem_cons_succ, e0]
      simp [go_sem]
    rcases ix with _ | ix
    · obtain rfl := (Option.some.inj hj).symm
      have e0 : A.eval (.tmp 62) = .bool false := hI.val hd 3 62 rfl rfl (by kernel_rfl)
      have e1 : A.eval (.tmp 66) = .bool false := hI.val hd 7 66 rfl rfl (by kernel_rfl)
      exact at_op rfl rfl (pick_op rfl e0 ⟨_, rfl, e1, hg⟩)
    rcases ix with _ | ix
    · obtain rfl := (Option.some.inj hj).symm
      have e0 : A.eval (.tmp 67) = .bool false := hI.val hd 8 67 rfl rfl (by kernel_rfl)
      exact at_op rfl rfl (move_op rfl ⟨_, rfl, e0, hg⟩)
    rcases ix with _ | ix
    · obtain rfl := (Option.some.inj hj).symm
      have hgv : A.tmps.getD 68 undef = .bool false := hI.val hd 9 68 rfl rfl (by kernel_rfl)
      have e0 : A.eval (.tmp 12) = .bool B2 := hI.old 12 (by kernel_rfl)
      exact at_guard rfl rfl (j := 9) (k := 68) rfl (by omega) hgv (move_op rfl ⟨_, rfl, e0, hg⟩)
    rcases ix with _ | ix
    · obtain rfl := (Option.some.inj hj).symm
      have hgv : A.tmps.getD 68 undef = .bool false := hI.val hd 9 68 rfl rfl (by kernel_rfl)
      have e0 : A.eval (.tmp 15) = .bool B2 := hI.old 15 (by kernel_rfl)
      exact at_guard rfl rfl (j := 9) (k := 68) rfl (by omega) hgv (move_op rfl ⟨_, rfl, e0, hg⟩)
    rcases ix with _ | ix
    · obtain rfl := (Option.some.inj hj).symm
      have hgv : A.tmps.getD 68 undef = .bool false := hI.val hd 9 68 rfl rfl (by kernel_rfl)
      have e0 : A.eval (.tmp 69) = .bool B2 := hI.val hd 10 69 rfl rfl (by kernel_rfl)
      have e1 : A.eval (.tmp 70) = .bool B2 := hI.val hd 11 70 rfl rfl (by kernel_rfl)
      refine at_guard rfl rfl (j := 9) (k := 68) rfl (by omega) hgv (val_op (v := .bool false) ?_ ⟨_, rfl, rfl, hg⟩)
      unfold execOp
      simp only [List.getElem_toArray, List.getElem_cons_zero, List.getElem_cons_succ, e0, e1]
      simp [go_sem]
    rcases ix with _ | ix
    · obtain rfl := (Option.some.inj hj).symm
      have e0 : A.eval (.tmp 68) = .bool false := hI.val hd 9 68 rfl rfl (by kernel_rfl)
      have e1 : A.eval (.tmp 71) = .bool false := hI.val hd 12 71 rfl rfl (by kernel_rfl)
      exact at_op rfl rfl (pick_op rfl e0 ⟨_, rfl, e1, hg⟩)
    rcases ix with _ | ix
    · obtain rfl := (Option.some.inj hj).symm
      have e0 : A.eval (.tmp 72) = .bool false := hI.val hd 13 72 rfl rfl (by kernel_rfl)
      exact at_op rfl rfl (move_op rfl ⟨_, rfl, e0, hg⟩)
    rcases ix with _ | ix
    · obtain rfl := (Option.some.inj hj).symm
      have hgv : A.tmps.getD 73 undef = .bool false := hI.val hd 14 73 rfl rfl (by kernel_rfl)
      have e0 : A.eval (.tmp 11) = .pointer (some ⟨w26.heap.size, 0, none⟩) := hI.old 11 (by kernel_rfl)
      exact at_guard rfl rfl (j := 14) (k := 73) rfl (by omega) hgv (wp_load_row _ _ rfl _ e0 _ _ _ _ (M34.below hg).row Try.underlying30 rfl info_nt ⟨_, rfl, rfl, hg⟩)
    rcases ix with _ | ix
    · obtain rfl := (Option.some.inj hj).symm
      have hgv : A.tmps.getD 73 undef = .bool false := hI.val hd 14 73 rfl rfl (by kernel_rfl)
      have e0 : A.eval (.tmp 14) = .pointer (some ⟨w31.heap.size, 0, none⟩) := hI.old 14 (by kernel_rfl)
      exact at_guard rfl rfl (j := 14) (k := 73) rfl (by omega) hgv (wp_load_row _ _ rfl _ e0 _ _ _ _ (O34.below hg).row Try.underlying30 rfl info_nt ⟨_, rfl, rfl, hg⟩)
    rcases ix with _ | ix
    · obtain rfl := (Option.some.inj hj).symm
      have hgv : A.tmps.getD 73 undef = .bool false := hI.val hd 14 73 rfl rfl (by kernel_rfl)
      have e0 : A.eval (.tmp 74) = N2.val := hI.val hd 15 74 rfl rfl (by kernel_rfl)
      have e1 : A.eval (.tmp 75) = N2.val := hI.val hd 16 75 rfl rfl (by kernel_rfl)
      exact at_guard rfl rfl (j := 14) (k := 73) rfl (by omega) hgv (neqN_op rfl e0 e1 ⟨_, rfl, rfl, hg⟩)
    rcases ix with _ | ix
    · obtain rfl := (Option.some.inj hj).symm
      have e0 : A.eval (.tmp 73) = .bool false := hI.val hd 14 73 rfl rfl (by kernel_rfl)
      have e1 : A.eval (.tmp 76) = .bool false := hI.val hd 17 76 rfl rfl (by kernel_rfl)
      exact at_op rfl rfl (pick_op rfl e0 ⟨_, rfl, e1, hg⟩)
    rcases ix with _ | ix
    · obtain rfl := (Option.some.inj hj).symm
      have e0 : A.eval (.tmp 77) = .bool false := hI.val hd 18 77 rfl rfl (by kernel_rfl)
      exact at_op rfl rfl (move_op rfl ⟨_, rfl, e0, hg⟩)
    rcases ix with _ | ix
    · obtain rfl := (Option.some.inj hj).symm
      have hgv : A.tmps.getD 78 undef = .bool false := hI.val hd 19 78 rfl rfl (by kernel_rfl)
      have e0 : A.eval (.tmp 10) = .pointer (some ⟨w25.heap.size, 0, none⟩) := hI.old 10 (by kernel_rfl)
      exact at_guard rfl rfl (j := 19) (k := 78) rfl (by omega) hgv (wp_load_row _ _ rfl _ e0 _ _ _ _ (ur34.below hg).row Try.underlying26 rfl info_pp ⟨_, rfl, rfl, hg⟩)
    rcases ix with _ | ix
    · obtain rfl := (Option.some.inj hj).symm
      have hgv : A.tmps.getD 78 undef = .bool false := hI.val hd 19 78 rfl rfl (by kernel_rfl)
      have e0 : A.eval (.tmp 13) = .pointer (some ⟨w30.heap.size, 0, none⟩) := hI.old 13 (by kernel_rfl)
      exact at_guard rfl rfl (j := 19) (k := 78) rfl (by omega) hgv (wp_load_row _ _ rfl _ e0 _ _ _ _ (vr34.below hg).row Try.underlying26 rfl info_pp ⟨_, rfl, rfl, hg⟩)
    rcases ix with _ | ix
    · obtain rfl := (Option.some.inj hj).symm
      have hgv : A.tmps.getD 78 undef = .bool false := hI.val hd 19 78 rfl rfl (by kernel_rfl)
      have e0 : A.eval (.tmp 79) = .agg #[.int .i64 C2, uu] := hI.val hd 20 79 rfl rfl (by kernel_rfl)
      have e1 : A.eval (.tmp 80) = .agg #[.int .i64 C2, uv] := hI.val hd 21 80 rfl rfl (by kernel_rfl)
      refine at_guard rfl rfl (j := 19) (k := 78) rfl (by omega) hgv (call_op rfl Try.func15 (by kernel_rfl) (by kernel_rfl) ?_)
      simp only [List.map_cons, List.map_nil, e0, e1]
      refine (likePipe_same _ _ ⟨C2, L2⟩ _ ⟨_, rfl, (U34.below hg).sl okN⟩ ⟨_, rfl, (V34.below hg).sl okN⟩).mono ?_
      rintro e W1 ⟨rfl, hb⟩
      exact ⟨_, rfl, _, rfl, rfl, below_more hg hb⟩
    rcases ix with _ | ix
    · obtain rfl := (Option.some.inj hj).symm
      have hgv : A.tmps.getD 78 undef = .bool false := hI.val hd 19 78 rfl rfl (by kernel_rfl)
      have e0 : A.eval (.tmp 81) = .bool true := hI.val hd 22 81 rfl rfl (by kernel_rfl)
      refine at_guard rfl rfl (j := 19) (k := 78) rfl (by omega) hgv (val_op (v := .bool false) ?_ ⟨_, rfl, rfl, hg⟩)
      unfold execOp
      simp only [List.getElem_toArray, List.getElem_cons_zero, List.getElem_cons_succ, e0]
      simp [go_sem]
    rcases ix with _ | ix
    · obtain rfl := (Option.some.inj hj).symm
      have e0 : A.eval (.tmp 78) = .bool false := hI.val hd 19 78 rfl rfl (by kernel_rfl)
      have e1 : A.eval (.tmp 82) = .bool false := hI.val hd 23 82 rfl rfl (by kernel_rfl)
      exact at_op rfl rfl (pick_op rfl e0 ⟨_, rfl, e1, hg⟩)
    rcases ix with _ | ix
    · obtain rfl := (Option.some.inj hj).symm
      have e0 : A.eval (.tmp 83) = .bool false := hI.val hd 24 83 rfl rfl (by kernel_rfl)
      exact at_op rfl rfl (move_op rfl ⟨_, rfl, e0, hg⟩)
    rcases ix with _ | ix
    · obtain rfl := (Option.some.inj hj).symm
      have hgv : A.tmps.getD 84 undef = .bool false := hI.val hd 25 84 rfl rfl (by kernel_rfl)
      have e0 : A.eval (.tmp 4) = .pointer (some ⟨w12.heap.size, 0, none⟩) := hI.old 4 (by kernel_rfl)
      exact at_guard rfl rfl (j := 25) (k := 84) rfl (by omega) hgv (wp_load_row _ _ rfl _ e0 _ _ _ _ (N34.below hg).row Try.underlying30 rfl info_nt ⟨_, rfl, rfl, hg⟩)
    rcases ix with _ | ix
    · obtain rfl := (Option.some.inj hj).symm
      have hgv : A.tmps.getD 84 undef = .bool false := hI.val hd 25 84 rfl rfl (by kernel_rfl)
      have e0 : A.eval (.tmp 85) = n.val := hI.val hd 26 85 rfl rfl (by kernel_rfl)
      refine at_guard rfl rfl (j := 25) (k := 84) rfl (by omega) hgv (call_op rfl Try.func16 (by kernel_rfl) (by kernel_rfl) ?_)
      simp only [List.map_cons, List.map_nil, e0]
      refine (noteOk_impl n _).mono ?_
      rintro e W1 ⟨rfl, hb⟩
      exact ⟨_, rfl, _, rfl, rfl, below_more hg hb⟩
    rcases ix with _ | ix
    · obtain rfl := (Option.some.inj hj).symm
      have hgv : A.tmps.getD 84 undef = .bool false := hI.val hd 25 84 rfl rfl (by kernel_rfl)
      have e0 : A.eval (.tmp 4) = .pointer (some ⟨w12.heap.size, 0, none⟩) := hI.old 4 (by kernel_rfl)
      exact at_guard rfl rfl (j := 25) (k := 84) rfl (by omega) hgv (wp_load_row _ _ rfl _ e0 _ _ _ _ (N34.below hg).row Try.underlying30 rfl info_nt ⟨_, rfl, rfl, hg⟩)
    rcases ix with _ | ix
    · obtain rfl := (Option.some.inj hj).symm
      have hgv : A.tmps.getD 84 undef = .bool false := hI.val hd 25 84 rfl rfl (by kernel_rfl)
      have e0 : A.eval (.tmp 87) = n.val := hI.val hd 28 87 rfl rfl (by kernel_rfl)
      refine at_guard rfl rfl (j := 25) (k := 84) rfl (by omega) hgv (call_op rfl Try.func17 (by kernel_rfl) (by kernel_rfl) ?_)
      simp only [List.map_cons, List.map_nil, e0]
      refine (noteOk_spec n _).mono ?_
      rintro e W1 ⟨rfl, hb⟩
      exact ⟨_, rfl, _, rfl, rfl, below_more hg hb⟩
    rcases ix with _ | ix
    · obtain rfl := (Option.some.inj hj).symm
      have hgv : A.tmps.getD 84 undef = .bool false := hI.val hd 25 84 rfl rfl (by kernel_rfl)
      have e0 : A.eval (.tmp 86) = .bool n.ok := hI.val hd 27 86 rfl rfl (by kernel_rfl)
      have e1 : A.eval (.tmp 88) = .bool n.ok := hI.val hd 29 88 rfl rfl (by kernel_rfl)
      refine at_guard rfl rfl (j := 25) (k := 84) rfl (by omega) hgv (val_op (v := .bool false) ?_ ⟨_, rfl, rfl, hg⟩)
      unfold execOp
      simp only [List.getElem_toArray, List.getElem_cons_zero, List.getElem_cons_succ, e0, e1]
      simp [go_sem]
    rcases ix with _ | ix
    · obtain rfl := (Option.some.inj hj).symm
      have e0 : A.eval (.tmp 84) = .bool false := hI.val hd 25 84 rfl rfl (by kernel_rfl)
      have e1 : A.eval (.tmp 89) = .bool false := hI.val hd 30 89 rfl rfl (by kernel_rfl)
      exact at_op rfl rfl (pick_op rfl e0 ⟨_, rfl, e1, hg⟩)
    rcases ix with _ | ix
    · obtain rfl := (Option.some.inj hj).symm
      have e0 : A.eval (.tmp 90) = .bool false := hI.val hd 31 90 rfl rfl (by kernel_rfl)
      exact at_op rfl rfl (move_op rfl ⟨_, rfl, e0, hg⟩)
    rcases ix with _ | ix
    · obtain rfl := (Option.some.inj hj).symm
      have hgv : A.tmps.getD 91 undef = .bool false := hI.val hd 32 91 rfl rfl (by kernel_rfl)
      have e0 : A.eval (.tmp 9) = .pointer (some ⟨w22.heap.size, 0, none⟩) := hI.old 9 (by kernel_rfl)
      exact at_guard rfl rfl (j := 32) (k := 91) rfl (by omega) hgv (wp_load_row _ _ rfl _ e0 _ _ _ _ (qr34.below hg).row Try.underlying26 rfl info_pp ⟨_, rfl, rfl, hg⟩)
    rcases ix with _ | ix
    · obtain rfl := (Option.some.inj hj).symm
      have hgv : A.tmps.getD 91 undef = .bool false := hI.val hd 32 91 rfl rfl (by kernel_rfl)
      have e0 : A.eval (.tmp 92) = .agg #[.int .i64 cq, vq] := hI.val hd 33 92 rfl rfl (by kernel_rfl)
      refine at_guard rfl rfl (j := 32) (k := 91) rfl (by omega) hgv (call_op rfl Try.func18 (by kernel_rfl) (by kernel_rfl) ?_)
      simp only [List.map_cons, List.map_nil, e0]
      refine (pipeOk_impl _ ⟨cq, lq⟩ _ ⟨_, rfl, (J34.below hg).sl okN⟩).mono ?_
      rintro e W1 ⟨rfl, hb⟩
      exact ⟨_, rfl, _, rfl, rfl, below_more hg hb⟩
    rcases ix with _ | ix
    · obtain rfl := (Option.some.inj hj).symm
      have hgv : A.tmps.getD 91 undef = .bool false := hI.val hd 32 91 rfl rfl (by kernel_rfl)
      have e0 : A.eval (.tmp 9) = .pointer (some ⟨w22.heap.size, 0, none⟩) := hI.old 9 (by kernel_rfl)
      exact at_guard rfl rfl (j := 32) (k := 91) rfl (by omega) hgv (wp_load_row _ _ rfl _ e0 _ _ _ _ (qr34.below hg).row Try.underlying26 rfl info_pp ⟨_, rfl, rfl, hg⟩)
    rcases ix with _ | ix
    · obtain rfl := (Option.some.inj hj).symm
      have hgv : A.tmps.getD 91 undef = .bool false := hI.val hd 32 91 rfl rfl (by kernel_rfl)
      have e0 : A.eval (.tmp 94) = .agg #[.int .i64 cq, vq] := hI.val hd 35 94 rfl rfl (by kernel_rfl)
      refine at_guard rfl rfl (j := 32) (k := 91) rfl (by omega) hgv (call_op rfl Try.func19 (by kernel_rfl) (by kernel_rfl) ?_)
      simp only [List.map_cons, List.map_nil, e0]
      refine (pipeOk_spec _ ⟨cq, lq⟩ _ ⟨_, rfl, (J34.below hg).sl okN⟩).mono ?_
      rintro e W1 ⟨rfl, hb⟩
      exact ⟨_, rfl, _, rfl, rfl, below_more hg hb⟩
    rcases ix with _ | ix
    · obtain rfl := (Option.some.inj hj).symm
      have hgv : A.tmps.getD 91 undef = .bool false := hI.val hd 32 91 rfl rfl (by kernel_rfl)
      have e0 : A.eval (.tmp 93) = .bool (Pp.ok ⟨cq, lq⟩) := hI.val hd 34 93 rfl rfl (by kernel_rfl)
      have e1 : A.eval (.tmp 95) = .bool (Pp.ok ⟨cq, lq⟩) := hI.val hd 36 95 rfl rfl (by kernel_rfl)
      refine at_guard rfl rfl (j := 32) (k := 91) rfl (by omega) hgv (val_op (v := .bool false) ?_ ⟨_, rfl, rfl, hg⟩)
      unfold execOp
      simp only [List.getElem_toArray, List.getElem_cons_zero, List.getElem_cons_succ, e0, e1]
      simp [go_sem]
    rcases ix with _ | ix
    · obtain rfl := (Option.some.inj hj).symm
      have e0 : A.eval (.tmp 91) = .bool false := hI.val hd 32 91 rfl rfl (by kernel_rfl)
      have e1 : A.eval (.tmp 96) = .bool false := hI.val hd 37 96 rfl rfl (by kernel_rfl)
      exact at_op rfl rfl (pick_op rfl e0 ⟨_, rfl, e1, hg⟩)
    omega
  case done =>
    intro A W hI
    have hg := hI.g
    have s97 : A.tmps.getD 97 undef = .bool false := hI.last 38 97 rfl
    have hA := hI.frame [59, 60, 61, 62, 63, 64, 65, 66, 67, 68, 69, 70, 71, 72, 73, 74, 75, 76, 77, 78, 79, 80, 81, 82, 83, 84, 85, 86, 87, 88, 89, 90, 91, 92, 93, 94, 95, 96, 97] (by kernel_rfl)
    rw [hA]
    simp only [putAll, List.foldl_cons, List.foldl_nil, s97, Act.put, List.setIfInBounds_toArray, List.set_cons_zero, List.set_cons_succ]
    clear hA hI s97
    have bel9 := hg
    have B900 := below_more B34 bel9
    have z900 := bel9.size
    clear hg
    go_wp2_with fail
    go_at_call 20
    refine (roll_any a len cap 13 _ (hc.below B900) hl).mono ?_
    rintro e w902 ⟨rfl, b902, dd⟩
    have B902 := below_more B900 b902
    have z902 := b902.size
    obtain ⟨dp, hdp⟩ : ∃ dp, dp = W.heap.size := ⟨_, rfl⟩
    rw [← hdp] at dd ⊢
    have hdw : w1.heap.size ≤ dp := by omega
    have ld := dd.lt
    clear hdp
    go_wp2_with fail
    go_at_call 21
    refine (Dice.below_any dp a len cap 8 _ dd (by omega)).mono ?_
    rintro e w950 ⟨r8, rfl, hr8, o950, d950⟩
    have B950 := below_onto B902 o950 (by omega)
    have z950 := o950.size
    have ld2 := d950.lt
    obtain ⟨kk, hkk⟩ : ∃ kk : Nat, kk = 1 + r8 := ⟨_, rfl⟩
    have hk1 : 1 ≤ kk := by omega
    have hk8 : kk ≤ 8 := by omega
    have HKI : Hid ((1 : Int) + (r8 : Int) = (kk : Int)) := show _ = _ by omega
    clear hkk
    go_wp2_with (first
      | (refine bldPp (z := (kk : Int)) rfl rfl (by show Value.int .i64 (1 + (r8 : Int)) = _; rw [HKI.out]) ?_)
      | (refine al_pp rfl rfl ?_; intro w951 v951 b951; have y951 := v951.lt; have z951 := b951.size; have d951 := d950.below b951; have B951 := below_more B950 b951)
      | (refine st_pp rfl rfl rfl rfl v951 rfl rfl ?_; rintro w952 r952 o952 -; have d952 := d951.onto o952 (by omega) (fun h0 x e => by have := hcx h0 x e; omega); have B952 := below_onto B951 o952 (by omega); have z952 := o952.size))
    obtain ⟨gg, hgg⟩ : ∃ gg, gg = w950.heap.size := ⟨_, rfl⟩
    rw [← hgg] at r952 ⊢
    have g1 : dp < gg := by omega
    have g2 : gg < w952.heap.size := r952.lt
    have HI : Hid (Gql w1 w952 dp a len cap gg w952.heap.size kk (.slice none 0 0) 0 0 w952) := ⟨d952, r952, .inl ⟨rfl, rfl⟩, B952, Nat.le_refl _⟩
    clear hgg
    go_loopw [18, 19, 20] (fun iv ov kv wr => ∃ (n k : Nat) (ii oo : Int) (u : Value), iv = .int .i64 ii ∧ ov = .int .i64 oo ∧ kv = .int .i64 (k : Int) ∧ Hid (ii = oo + n ∧ 0 ≤ oo ∧ oo + n ≤ k ∧ n ≤ kk ∧ k ≤ 40) ∧ Gql w1 w952 dp a len cap gg w952.heap.size kk u oo n wr) (fun _ _ kv _ => 40 - (intOf kv).toNat)
    case atStart => exact ⟨0, 0, 0, 0, _, rfl, rfl, rfl, ⟨by simp, by simp, by simp, by simp, by simp⟩, HI.out⟩
    case round =>
      clear HI
      obtain ⟨n, k, ii, oo, u, rfl, rfl, rfl, HN, hG⟩ := hrel
      have hib : 0 ≤ ii ∧ ii ≤ 80 ∧ 0 ≤ oo ∧ oo ≤ 40 := by have := HN.out; omega
      by_cases hlt : k < 40
      · go_wp2_with fail
        go_at_call 21
        refine (Dice.below_any dp a len cap 2 _ hG.dice (by omega)).mono ?_
        rintro e wd ⟨r, rfl, hr, od, dd⟩
        have hG2 : Gql w1 w952 dp a len cap gg w952.heap.size kk u oo n wd := ⟨dd, hG.row.onto od (by omega), hG.own.onto od (fun e => by have := (hG.own.lt _ e).1; omega), below_onto hG.bel od hdw, Nat.le_trans hG.sz od.size⟩
        clear hG od dd
        obtain rfl | rfl : r = 0 ∨ r = 1 := by omega
        · by_cases hn : n < kk
          · have hW : pipeWith ⟨kk, proms oo n⟩ ⟨true, ii, M3.nul⟩ = (⟨kk, proms oo (n + 1)⟩, true) := by rw [HN.out.1]; exact with_room hk1 hk8 (by omega) HN.out.2.1 (by have := HN.out; omega)
            have hd : decide (ii - oo < (kk : Int)) = true := by simp; have := HN.out; omega
            have HW : Hid _ := hW
            clear hW
            go_wp2_with (first
      | (refine ld_ppg rfl rfl rfl hG2.row ?_)
      | (refine bldPr rfl rfl rfl ?_))
            go_at_call 10
            refine (pipeWith_implq HW.out ⟨_, rfl, hG2.own.sl okN⟩).mono ?_
            rintro e we ⟨u', rfl, ho, be⟩
            have hG3 := hG2.below be
            have ze := be.size
            have one := ho.one okN
            have zd := hG2.sz
            go_wp2_with (first
      | (refine al_pp rfl rfl ?_; intro wf vf bf; have hG4 := hG3.below bf; have ho4 := ho.below bf; have lf := vf.lt; have zf := bf.size)
      | (refine st_pp rfl rfl rfl rfl vf rfl one ?_; rintro wg rg og -; have hG5 := hG4.other og (by omega) (by omega) (by omega) (fun e => by have := (hG3.own.lt _ e).2; omega) (fun h0 x e => by have := hcx h0 x e; omega); have ho5 := ho4.onto og (fun e => by have := (ho.lt _ e).2; omega); have zg := og.size; have c0 : wg.cell? ⟨gg, 0, none⟩ = some (.int .i64 (kk : Int)) := hG5.row.cell 0)
      | (refine ld_ppg rfl rfl rfl rg ?_)
      | (refine st_pp rfl rfl rfl rfl hG5.row rfl one ?_; rintro wh rh oh -; have hG6 : Gql w1 w952 dp a len cap gg w952.heap.size kk u' oo (n + 1) wh := ⟨hG5.dice.onto oh (by omega) (fun h0 x e => by have := hcx h0 x e; omega), rh, (ho5.onto oh (fun e => by have := (ho.lt _ e).1; omega)).mono (by omega), below_onto hG5.bel oh (by omega), Nat.le_trans hG5.sz oh.size⟩))
            go_roundw
            case rel => exact ⟨n + 1, k + 1, ii + 1, oo, u', rfl, rfl, by go_num, ⟨by have := HN.out; omega, HN.out.2.1, by have := HN.out; omega, by omega, by omega⟩, hG6⟩
            case measure => simp [intOf]; omega
          · have hW : pipeWith ⟨kk, proms oo n⟩ ⟨true, ii, M3.nul⟩ = (⟨kk, proms oo n⟩, false) := with_none _ hk1 hk8 (by have := HN.out; omega) HN.out.2.1 (by have := HN.out; omega)
            have hd : decide (ii - oo < (kk : Int)) = false := by simp; have := HN.out; omega
            have HW : Hid _ := hW
            clear hW
            go_wp2_with (first
      | (refine ld_ppg rfl rfl rfl hG2.row ?_)
      | (refine bldPr rfl rfl rfl ?_))
            go_at_call 10
            refine (pipeWith_implq HW.out ⟨_, rfl, hG2.own.sl okN⟩).mono ?_
            rintro e we ⟨u', rfl, ho, be⟩
            have hG3 := hG2.below be
            have ze := be.size
            have one := ho.one okN
            have zd := hG2.sz
            go_wp2_with (first
      | (refine al_pp rfl rfl ?_; intro wf vf bf; have hG4 := hG3.below bf; have ho4 := ho.below bf; have lf := vf.lt; have zf := bf.size)
      | (refine st_pp rfl rfl rfl rfl vf rfl one ?_; rintro wg rg og -; have hG5 := hG4.other og (by omega) (by omega) (by omega) (fun e => by have := (hG3.own.lt _ e).2; omega) (fun h0 x e => by have := hcx h0 x e; omega); have ho5 := ho4.onto og (fun e => by have := (ho.lt _ e).2; omega); have zg := og.size; have c0 : wg.cell? ⟨gg, 0, none⟩ = some (.int .i64 (kk : Int)) := hG5.row.cell 0))
            go_roundw
            case rel => exact ⟨n, k + 1, ii, oo, u, rfl, rfl, by go_num, ⟨HN.out.1, HN.out.2.1, by have := HN.out; omega, HN.out.2.2.2.1, by omega⟩, hG5⟩
            case measure => simp [intOf]; omega
        · by_cases hn : 0 < n
          · obtain ⟨m, hm⟩ : ∃ m, n = m + 1 := ⟨n - 1, by omega⟩
            subst hm
            have hW : pipeFirst ⟨kk, proms oo (m + 1)⟩ = (⟨kk, proms (oo + 1) m⟩, ⟨true, oo, M3.nul⟩, true) := first_some hk1 hk8 (by have := HN.out; omega) HN.out.2.1 (by have := HN.out; omega)
            have hd : decide (oo < ii) = true := by simp; have := HN.out; omega
            have hoo : (oo != oo) = false := by simp
            have HW : Hid _ := hW
            clear hW
            go_wp2_with (refine ld_ppg rfl rfl rfl hG2.row ?_)
            go_at_call 13
            refine (pipeFirst_implq HW.out ⟨_, rfl, hG2.own.sl okN⟩).mono ?_
            rintro e we ⟨u', rfl, ho, be⟩
            have hG3 := hG2.below be
            have ze := be.size
            have one := ho.one okN
            have zd := hG2.sz
            go_wp2_with (first
      | (refine al_pp rfl rfl ?_; intro wf vf bf; have hG4 := hG3.below bf; have ho4 := ho.below bf; have lf := vf.lt; have zf := bf.size)
      | (refine al_nt rfl rfl ?_; intro wg ng bg; have hG5 := hG4.below bg; have ho5 := ho4.below bg; have vg := vf.below bg; have lg := ng.lt; have zg := bg.size)
      | (refine st_pp rfl rfl rfl rfl vg rfl one ?_; rintro wh rh oh -; have hG6 := hG5.other oh (by omega) (by omega) (by omega) (fun e => by have := (hG3.own.lt _ e).2; omega) (fun h0 x e => by have := hcx h0 x e; omega); have ho6 := ho5.onto oh (fun e => by have := (ho.lt _ e).2; omega); have nh := ng.onto oh (by omega); have zh := oh.size)
      | (refine st_nt (n := ⟨true, oo, M3.nul⟩) rfl rfl rfl rfl nh ?_; rintro wi ni oi -; have hG7 := hG6.other oi (by omega) (by omega) (by omega) (fun e => by have := (hG3.own.lt _ e).2; omega) (fun h0 x e => by have := hcx h0 x e; omega); have ho7 := ho6.onto oi (fun e => by have := (ho.lt _ e).2; omega); have ri := rh.onto oi (by omega); have zi := oi.size; have c1 : wi.cell? ⟨wf.heap.size, 1, none⟩ = some (.int .i64 oo) := ni.cell 1)
      | (refine ld_ppg rfl rfl rfl ri ?_)
      | (refine st_pp rfl rfl rfl rfl hG7.row rfl one ?_; rintro wj rj oj -; have hG8 : Gql w1 w952 dp a len cap gg w952.heap.size kk u' (oo + 1) m wj := ⟨hG7.dice.onto oj (by omega) (fun h0 x e => by have := hcx h0 x e; omega), rj, (ho7.onto oj (fun e => by have := (ho.lt _ e).1; omega)).mono (by omega), below_onto hG7.bel oj (by omega), Nat.le_trans hG7.sz oj.size⟩))
            go_roundw
            case rel => exact ⟨m, k + 1, ii, oo + 1, u', rfl, rfl, by go_num, ⟨by have := HN.out; omega, by have := HN.out; omega, by have := HN.out; omega, by have := HN.out; omega, by omega⟩, hG8⟩
            case measure => simp [intOf]; omega
          · have hn0 : n = 0 := by omega
            subst hn0
            have hW : pipeFirst ⟨kk, proms oo 0⟩ = (⟨kk, proms oo 0⟩, Nt.nul, false) := first_none hk1 hk8 HN.out.2.1 (by have := HN.out; omega)
            have hd : decide (oo < ii) = false := by simp; have := HN.out; omega
            have HW : Hid _ := hW
            clear hW
            go_wp2_with (refine ld_ppg rfl rfl rfl hG2.row ?_)
            go_at_call 13
            refine (pipeFirst_implq HW.out ⟨_, rfl, hG2.own.sl okN⟩).mono ?_
            rintro e we ⟨u', rfl, ho, be⟩
            have hG3 := hG2.below be
            have ze := be.size
            have one := ho.one okN
            have zd := hG2.sz
            go_wp2_with (first
      | (refine al_pp rfl rfl ?_; intro wf vf bf; have hG4 := hG3.below bf; have ho4 := ho.below bf; have lf := vf.lt; have zf := bf.size)
      | (refine al_nt rfl rfl ?_; intro wg ng bg; have hG5 := hG4.below bg; have ho5 := ho4.below bg; have vg := vf.below bg; have lg := ng.lt; have zg := bg.size)
      | (refine st_pp rfl rfl rfl rfl vg rfl one ?_; rintro wh rh oh -; have hG6 := hG5.other oh (by omega) (by omega) (by omega) (fun e => by have := (hG3.own.lt _ e).2; omega) (fun h0 x e => by have := hcx h0 x e; omega); have ho6 := ho5.onto oh (fun e => by have := (ho.lt _ e).2; omega); have nh := ng.onto oh (by omega); have zh := oh.size)
      | (refine st_nt (n := Nt.nul) rfl rfl rfl rfl nh ?_; rintro wi ni oi -; have hG7 := hG6.other oi (by omega) (by omega) (by omega) (fun e => by have := (hG3.own.lt _ e).2; omega) (fun h0 x e => by have := hcx h0 x e; omega); have ho7 := ho6.onto oi (fun e => by have := (ho.lt _ e).2; omega); have ri := rh.onto oi (by omega); have zi := oi.size; have c1 : wi.cell? ⟨wf.heap.size, 1, none⟩ = some (.int .i64 0) := ni.cell 1))
            go_roundw
            case rel => exact ⟨0, k + 1, ii, oo, u, rfl, rfl, by go_num, ⟨HN.out.1, HN.out.2.1, by have := HN.out; omega, HN.out.2.2.2.1, by omega⟩, hG7⟩
            case measure => simp [intOf]; omega
      · have hok : Pp.ok ⟨kk, proms oo n⟩ = true := pipe_good kk n oo hk1 hk8 (by have := HN.out; omega) HN.out.2.1 (by have := HN.out; omega)
        have HOK : Hid (Pp.ok ⟨kk, proms oo n⟩ = true) := hok
        clear hok
        have hon := hG.own.one okN
        have HLn : Hid ((proms oo n).length = n) := proms_length oo n
        obtain ⟨aa, cc, hau⟩ : ∃ aa cc, u = .slice aa n cc := by obtain ⟨aa, cc, e, -⟩ := hG.own.sl okN; rw [HLn.out] at e; exact ⟨aa, cc, e⟩
        subst hau
        have hdn : ((n : Int) == ii - oo) = true := by simp; have := HN.out; omega
        have hdn2 : decide ((n : Int) = ii - oo) = true := by simp; have := HN.out; omega
        go_wp2_with (refine ld_ppg rfl rfl rfl hG.row ?_)
        go_at_call 18
        refine (pipeOk_impl _ ⟨kk, proms oo n⟩ _ ⟨_, rfl, hG.own.sl okN⟩).mono ?_
        rw [HOK.out]
        rintro e we ⟨rfl, be⟩
        have hG3 := hG.below be
        have c1 : we.cell? ⟨gg, 1, none⟩ = some (.slice aa n cc) := hG3.row.cell 1
        have hbel := hG3.bel
        clear hG hG3
        go_wp2
        go_ret
        exact ⟨rfl, hbel⟩
end Go.Proofs.Ytggfjghcgacdnaa.Mem
