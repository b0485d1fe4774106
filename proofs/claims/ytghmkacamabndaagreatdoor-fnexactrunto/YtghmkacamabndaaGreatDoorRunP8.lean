/-
  What FnExactRunTo leans on: part 8.
-/
import Derived.Lib.AppendZerosOnto
import Derived.Test.YtghmkacamabndaaGreatDoorRunP2
import Derived.Test.YtghmkacamabndaaGreatDoorRunP6
import Derived.Test.YtghmkacamabndaaGreatDoorRunP7
set_option linter.unusedVariables false
set_option linter.unusedSimpArgs false
set_option maxRecDepth 20000
namespace Go.Proofs.YtghmkacamabndaaGreatDoor.Mem
open Go.ChangeShapes Go.WideShapes Go.RowKit Base Num Slc Slf Rw Tmr Srl Rom Opl Reg

section
variable {w : World} {base g : Nat} {x y vo ve vi : Value} {s : St} {co fin : Int}
def St.flag (s : St) (b : Int) : St := { s with m := { s.m with fl := bits .or .i64 s.m.fl b } }
def St.tells (s : St) (m : M3) : St := { s with e := s.e ++ [m] }
theorem raise_impl (i b : Int) (hi : i = 0 ∨ i = 1 ∨ i = 2) (hb : bitOf i = b) (h : GRow w g x y vo ve vi s co fin) :
  Calls Tryz.prog 119 #[.pointer (some ⟨g, 0, none⟩), .int .i64 i] w fun e w' => e = .returned (.tuple #[]) ∧ GRow w' g x y vo ve vi (s.flag b) co fin ∧ Onto g w w' := by
 have HB : Hid (bitOf i = b) := hb
 have hG : GRow w g x y vo ve vi s co fin ∧ Onto g w w := ⟨h, Onto.refl _ _⟩
 clear hb
 go_enter Tryz.func119, Tryz.ntmps119
 go_wp2_with fail
 refine region_last (by kernel_rfl) (by kernel_rfl) 13 (by decide) (by kernel_rfl) (by kernel_rfl) (fun W => GRow W g x y vo ve vi s co fin ∧ Onto g w W) (fun W => GRow W g x y vo ve vi (s.flag b) co fin ∧ Onto g w W) [.pointer (some ⟨g, 0, none⟩), .pointer (some ⟨g, 0, none⟩), .pointer (some ⟨g, 0, none⟩), .pointer (some ⟨g, 0, none⟩), .pointer (some ⟨g, 11, none⟩), .int .i64 s.m.fl, .int .i64 i, .int .i64 b, .int .i64 (bits .or .i64 s.m.fl b), .pointer (some ⟨g, 0, none⟩), .pointer (some ⟨g, 0, none⟩), .pointer (some ⟨g, 0, none⟩), .pointer (some ⟨g, 11, none⟩), undef] ⟨hG.1.drewN 1, hG.2.drew⟩ ?step ?last ?done
 case step =>
  intro L ix o' A W hne hj hI hg hd
  have hin : ix < 14 := by
   by_cases hl : ix < 14
   ·exact hl
   ·simp [hl] at hj
  have hsz : A.tmps.size = 17 := hI.size
  rcases ix with _ | _ | _ | _ | _ | _ | _ | _ | _ | _ | _ | _ | _ | _ | ix
  ·cases hj; exact at_op rfl rfl (move_op rfl ⟨_, rfl, hI.old 0 (by kernel_rfl), hg⟩)
  ·cases hj; exact at_op rfl rfl (nil_op rfl (hI.val hd 0 4 rfl rfl (by kernel_rfl)) ⟨_, rfl, rfl, hg⟩)
  ·cases hj; exact at_op rfl rfl (one_op (hI.val hd 1 5 rfl rfl (by kernel_rfl)) rfl (by kernel_rfl) ⟨_, rfl, rfl, hg⟩)
  ·cases hj; exact at_op rfl rfl (one_op (hI.val hd 2 6 rfl rfl (by kernel_rfl)) rfl (by kernel_rfl) ⟨_, rfl, rfl, hg⟩)
  ·cases hj; exact at_op rfl rfl (one_op (hI.val hd 3 7 rfl rfl (by kernel_rfl)) rfl (by kernel_rfl) ⟨_, rfl, rfl, hg⟩)
  ·cases hj
   have e0 : A.eval (.tmp 8) = .pointer (some ⟨g, 11, none⟩) := hI.val hd 4 8 rfl rfl (by kernel_rfl)
   exact at_op rfl rfl (load_op rfl Tryz.underlying2 e0 (gc hg.1).fl ⟨_, rfl, rfl, hg⟩)
  ·cases hj; exact at_op rfl rfl (move_op rfl ⟨_, rfl, hI.old 1 (by kernel_rfl), hg⟩)
  ·cases hj
   have e0 : A.eval (.tmp 10) = .int .i64 i := hI.val hd 6 10 rfl rfl (by kernel_rfl)
   refine at_op rfl rfl (call_op rfl Tryz.func166 (by kernel_rfl) (by kernel_rfl) ?_)
   simp only [List.map_cons, List.map_nil, e0]
   refine (interruptBit_impl i _ hi).mono ?_
   rw [HB.out]
   rintro e W1 ⟨rfl, rfl⟩
   exact ⟨_, rfl, _, rfl, rfl, hg⟩
  ·cases hj
   have e0 : A.eval (.tmp 9) = .int .i64 s.m.fl := hI.val hd 5 9 rfl rfl (by kernel_rfl)
   have e1 : A.eval (.tmp 11) = .int .i64 b := hI.val hd 7 11 rfl rfl (by kernel_rfl)
   exact at_op rfl rfl (bin_op rfl e0 e1 (fun w => by simp [go_sem]) ⟨_, rfl, rfl, hg⟩)
  ·cases hj; exact at_op rfl rfl (nil_op rfl (hI.val hd 0 4 rfl rfl (by kernel_rfl)) ⟨_, rfl, rfl, hg⟩)
  ·cases hj; exact at_op rfl rfl (one_op (hI.val hd 9 13 rfl rfl (by kernel_rfl)) rfl (by kernel_rfl) ⟨_, rfl, rfl, hg⟩)
  ·cases hj; exact at_op rfl rfl (one_op (hI.val hd 10 14 rfl rfl (by kernel_rfl)) rfl (by kernel_rfl) ⟨_, rfl, rfl, hg⟩)
  ·cases hj; exact at_op rfl rfl (one_op (hI.val hd 11 15 rfl rfl (by kernel_rfl)) rfl (by kernel_rfl) ⟨_, rfl, rfl, hg⟩)
  ·exact absurd rfl hne
  omega
 case last =>
  intro L o' A W hj hI hg hd
  cases hj
  have e0 : A.eval (.tmp 16) = .pointer (some ⟨g, 11, none⟩) := hI.val hd 12 16 rfl rfl (by kernel_rfl)
  have e1 : A.eval (.tmp 12) = .int .i64 (bits .or .i64 s.m.fl b) := hI.val hd 8 12 rfl rfl (by kernel_rfl)
  refine at_op rfl rfl (stN_op rfl e0 e1 hg.1 (by show 11 < 31; omega) (fun W2 r2 o2 => ⟨_, rfl, rfl, r2, hg.2.trans o2⟩))
 case done =>
  intro A W hI hE
  have hA := hI.frame [4, 5, 6, 7, 8, 9, 10, 11, 12, 13, 14, 15, 16] (by kernel_rfl)
  rw [hA]
  simp only [putAll, List.foldl_cons, List.foldl_nil, Act.put, List.setIfInBounds_toArray, List.set_cons_zero, List.set_cons_succ]
  clear hA hI 
  go_wp2
  refine ret_unit rfl rfl ?_
  exact ⟨rfl, hE⟩
theorem tell_impl (t k v : Int) (h : GRow w g x y vo ve vi s co fin) (hs : So base w x y vo ve s) (hl : s.e.length ≤ 10000) :
  Calls Tryz.prog 112 #[.pointer (some ⟨g, 0, none⟩), .int .i64 t, .int .i64 k, .int .i64 v] w fun e w' => e = .returned (.tuple #[]) ∧ Gd base g w w' x y vi co fin (s.tells ⟨t, k, v⟩) := by
 have ke := (gc h).e
 have hal : Below w.heap.size w (w.alloc (.cells #[.int .i64 t, .int .i64 k, .int .i64 v] 142)) := (Below.refl _ _).alloc (Nat.le_refl _) _
 have hlit := own_litF fE okE w.heap.size w #[.int .i64 t, .int .i64 k, .int .i64 v] [⟨t, k, v⟩] rfl (by unfold maxLen; simp) (Nat.le_refl _)
 have h1 := h.below hal
 have hs1 := hs.below hal
 go_enter Tryz.func112, Tryz.ntmps112
 go_wp2_with (first
  | (at_builtin; refine appF okE rfl (.tmp 13) (.tmp 18) rfl base s.e [⟨t, k, v⟩] hs1.e (hlit.sl okE) (by simp; omega) (by have := hs1.ow.le; omega) ?_; intro v2 w2 ho2 hg2; have t2 := Mild.grown not_plainE hs1.e hg2; have r2 := t2.row h1 plain_g)
  | (refine st_ge (l := s.e ++ [⟨t, k, v⟩]) rfl rfl rfl rfl r2 (ho2.one okE) ?_; rintro w3 r3 o3 -))
 refine ret_unit rfl rfl ?_
 have hs2 : So base w2 x y vo v2 (s.tells ⟨t, k, v⟩) := ⟨(t2.ow hs1.ow).as rfl rfl, hs1.o.grown hg2 (fun k hk e => (OwnF.apart hs1.e hs1.o (by decide)) k hk e), ho2⟩
 exact ⟨rfl, vo, v2, r3, hs2.row o3 r2 plain_g (by decide), ((Mid.of hal).trans (Mid.mild t2)).trans (Mid.onto o3)⟩
theorem send_impl (t k v : Int) (h : GRow w g x y vo ve vi s co fin) (hs : So base w x y vo ve s) (hl : s.o.length ≤ 10000) (ht : -1 ≤ t ∧ t ≤ 1000000100) :
  Calls Tryz.prog 162 #[.pointer (some ⟨g, 0, none⟩), .int .i64 t, .int .i64 k, .int .i64 v] w fun e w' => e = .returned (.tuple #[]) ∧ Gd base g w w' x y vi co fin (s.sends ⟨t + 8, k, v⟩) ∧ ∀ q, q < w.heap.size → q ≠ g → vo.ownBlock ≠ some q → w'.heap[q]? = w.heap[q]? := by
 have ke := (gc h).o
 have hal : Below w.heap.size w (w.alloc (.cells #[.int .i64 (t + 8), .int .i64 k, .int .i64 v] 40)) := (Below.refl _ _).alloc (Nat.le_refl _) _
 have hlit := own_litF fM okM w.heap.size w #[.int .i64 (t + 8), .int .i64 k, .int .i64 v] [⟨t + 8, k, v⟩] rfl (by unfold maxLen; simp) (Nat.le_refl _)
 have h1 := h.below hal
 have hs1 := hs.below hal
 go_enter Tryz.func162, Tryz.ntmps162
 go_wp2_with (first
  | (at_builtin; refine appF okM rfl (.tmp 13) (.tmp 19) rfl base s.o [⟨t + 8, k, v⟩] hs1.o (hlit.sl okM) (by simp; omega) (by have := hs1.ow.le; omega) ?_; intro v2 w2 ho2 hg2; have t2 := Mild.grown not_plainM hs1.o hg2; have r2 := t2.row h1 plain_g)
  | (refine st_go (l := s.o ++ [⟨t + 8, k, v⟩]) rfl rfl rfl rfl r2 (ho2.one okM) ?_; rintro w3 r3 o3 -))
 refine ret_unit rfl rfl ?_
 have hs2 : So base w2 x y v2 ve (s.sends ⟨t + 8, k, v⟩) := ⟨(t2.ow hs1.ow).as rfl rfl, ho2, hs1.e.grown hg2 (fun k hk e => (OwnF.apart hs1.o hs1.e (by decide)) k hk e)⟩
 refine ⟨rfl, ⟨v2, ve, r3, hs2.row o3 r2 plain_g (by decide), ((Mid.of hal).trans (Mid.mild t2)).trans (Mid.onto o3)⟩, fun q hq hg hv => ?_⟩
 have e1 := hal.size
 have e2 := hg2.size
 rw [o3.block q hg (by omega), hg2.block q (by omega) (fun e => hv e.symm), hal.block q hq]
theorem byteThrough_impl (q : Int) (h : GRow w g x y vo ve vi s co fin) (hs : So base w x y vo ve s) (hl : s.e.length ≤ 10000) :
  Calls Tryz.prog 164 #[.pointer (some ⟨g, 0, none⟩), .int .i64 q] w fun e w' => e = .returned (.tuple #[]) ∧ Gd base g w w' x y vi co fin (s.through q) := by
 go_enter Tryz.func164, Tryz.ntmps164
 go_wp2_with (first
  | (go_at_call 119; refine (raise_impl 1 2 (by simp) (by decide) h).mono ?_; rintro e w1 ⟨rfl, r1, o1⟩; have s1 := (hs.row o1 h plain_g (by decide)).as (s' := s.flag 2) rfl rfl rfl rfl; have kd : w1.cell? ⟨g, 18, none⟩ = some (.int .i64 s.m.p.d) := (gc r1).pd)
  | (go_at_call 112; refine (tell_impl q 3 s.m.p.d r1 s1 hl).mono ?_; rintro e w2 ⟨rfl, vo2, ve2, r2, s2, M2⟩))
 refine ret_unit rfl rfl ?_
 exact ⟨rfl, vo2, ve2, r2, s2, (Mid.onto o1).trans M2⟩
set_option maxHeartbeats 1000000 in
theorem sendBeat_impl (h : GRow w g x y vo ve vi s co fin) (hs : So base w x y vo ve s) (hl : s.o.length ≤ 10000) :
  Calls Tryz.prog 116 #[.pointer (some ⟨g, 0, none⟩)] w fun e w' => e = .returned (.tuple #[]) ∧ Gd base g w w' x y vi co fin (s.beats fin) := by
 obtain ⟨P, AA, B, hP⟩ : ∃ P AA B, s.m.p.send fin = (P, AA, B) := ⟨_, _, _, rfl⟩
 have hA : -1 ≤ AA ∧ AA ≤ 1000000000 := by have := send_bounds s.m.p fin; rwa [hP] at this
 have HQ : Hid (s.beats fin = (s.port P).sends ⟨AA + 8, 1, B⟩) := show _ = _ by unfold St.beats; rw [hP]
 have HP : Hid (s.m.p.send fin = (P, AA, B)) := hP
 have hgl := h.lt
 clear hP
 go_enter Tryz.func116, Tryz.ntmps116
 go_wp2_with fail
 refine region_var (by kernel_rfl) (by kernel_rfl) 15 16 2 (by decide) (by decide) rfl rfl (by kernel_rfl) (by decide) (by kernel_rfl) 28 #[.int .i64 0, .bool false, .bool false, .int .i64 0, .int .i64 0, .bool false] #[.int .i64 P.d, .bool P.b, .bool P.l, .int .i64 P.n, .int .i64 P.x, .bool P.t] rfl [.pointer (some ⟨g, 0, none⟩), .pointer (some ⟨g, 0, none⟩), .pointer (some ⟨g, 0, none⟩), .pointer (some ⟨g, 0, none⟩), .pointer (some ⟨g, 18, none⟩), s.m.p.val, .pointer (some ⟨g, 0, none⟩), .pointer (some ⟨g, 0, none⟩), .pointer (some ⟨g, 30, none⟩), .int .i64 fin, .tuple #[P.val, .int .i64 AA, .int .i64 B], .tuple #[P.val, .int .i64 AA, .int .i64 B], P.val, .int .i64 AA, .int .i64 B, undef, undef, .int .i64 AA, .int .i64 B] ?step ?alloc ?store ?done
 case step =>
  intro L ix o' A W hn1 hn2 hj hI hB hd
  have hin : ix < 19 := by
   by_cases hl : ix < 19
   ·exact hl
   ·simp [hl] at hj
  have hsz : A.tmps.size = 30 := hI.size
  rcases ix with _ | _ | _ | _ | _ | _ | _ | _ | _ | _ | _ | _ | _ | _ | _ | _ | _ | _ | _ | ix
  ·cases hj; exact at_op rfl rfl (move_op rfl ⟨_, rfl, hI.old 0 (by kernel_rfl), Below.refl _ _⟩)
  ·cases hj; exact at_op rfl rfl (nil_op rfl (hI.valV hd 0 6 rfl rfl (by kernel_rfl) (by decide) (by decide)) ⟨_, rfl, rfl, Below.refl _ _⟩)
  ·cases hj; exact at_op rfl rfl (one_op (hI.valV hd 1 7 rfl rfl (by kernel_rfl) (by decide) (by decide)) rfl (by kernel_rfl) ⟨_, rfl, rfl, Below.refl _ _⟩)
  ·cases hj; exact at_op rfl rfl (one_op (hI.valV hd 2 8 rfl rfl (by kernel_rfl) (by decide) (by decide)) rfl (by kernel_rfl) ⟨_, rfl, rfl, Below.refl _ _⟩)
  ·cases hj; exact at_op rfl rfl (one_op (hI.valV hd 3 9 rfl rfl (by kernel_rfl) (by decide) (by decide)) rfl (by kernel_rfl) ⟨_, rfl, rfl, Below.refl _ _⟩)
  ·cases hj
   have e0 : A.eval (.tmp 10) = .pointer (some ⟨g, 18, none⟩) := hI.valV hd 4 10 rfl rfl (by kernel_rfl) (by decide) (by decide)
   exact at_op rfl rfl (ldP_op rfl e0 (h.below hB) ⟨_, rfl, rfl, Below.refl _ _⟩)
  ·cases hj; exact at_op rfl rfl (move_op rfl ⟨_, rfl, hI.old 0 (by kernel_rfl), Below.refl _ _⟩)
  ·cases hj; exact at_op rfl rfl (nil_op rfl (hI.valV hd 6 12 rfl rfl (by kernel_rfl) (by decide) (by decide)) ⟨_, rfl, rfl, Below.refl _ _⟩)
  ·cases hj; exact at_op rfl rfl (one_op (hI.valV hd 7 13 rfl rfl (by kernel_rfl) (by decide) (by decide)) rfl (by kernel_rfl) ⟨_, rfl, rfl, Below.refl _ _⟩)
  ·cases hj
   have e0 : A.eval (.tmp 14) = .pointer (some ⟨g, 30, none⟩) := hI.valV hd 8 14 rfl rfl (by kernel_rfl) (by decide) (by decide)
   exact at_op rfl rfl (load_op rfl Tryz.underlying2 e0 (gc (h.below hB)).fin ⟨_, rfl, rfl, Below.refl _ _⟩)
  ·cases hj
   have e0 : A.eval (.tmp 11) = s.m.p.val := hI.valV hd 5 11 rfl rfl (by kernel_rfl) (by decide) (by decide)
   have e1 : A.eval (.tmp 15) = .int .i64 fin := hI.valV hd 9 15 rfl rfl (by kernel_rfl) (by decide) (by decide)
   refine at_op rfl rfl (call_op rfl Tryz.func161 (by kernel_rfl) (by kernel_rfl) ?_)
   simp only [List.map_cons, List.map_nil, e0, e1]
   refine (serialSends_impl s.m.p fin _).mono ?_
   rw [HP.out]
   rintro e W1 ⟨rfl, hb⟩
   exact ⟨_, rfl, _, rfl, rfl, hb⟩
  ·cases hj; exact at_op rfl rfl (move_op rfl ⟨_, rfl, hI.valV hd 10 16 rfl rfl (by kernel_rfl) (by decide) (by decide), Below.refl _ _⟩)
  ·cases hj; exact at_op rfl rfl (one_op (hI.valV hd 11 5 rfl rfl (by kernel_rfl) (by decide) (by decide)) rfl (by kernel_rfl) ⟨_, rfl, rfl, Below.refl _ _⟩)
  ·cases hj; exact at_op rfl rfl (one_op (hI.valV hd 11 5 rfl rfl (by kernel_rfl) (by decide) (by decide)) rfl (by kernel_rfl) ⟨_, rfl, rfl, Below.refl _ _⟩)
  ·cases hj; exact at_op rfl rfl (one_op (hI.valV hd 11 5 rfl rfl (by kernel_rfl) (by decide) (by decide)) rfl (by kernel_rfl) ⟨_, rfl, rfl, Below.refl _ _⟩)
  ·exact absurd rfl hn1
  ·exact absurd rfl hn2
  ·cases hj; exact at_op rfl rfl (assign_op rfl ⟨_, rfl, hI.valV hd 13 18 rfl rfl (by kernel_rfl) (by decide) (by decide), Below.refl _ _⟩)
  ·cases hj; exact at_op rfl rfl (assign_op rfl ⟨_, rfl, hI.valV hd 14 19 rfl rfl (by kernel_rfl) (by decide) (by decide), Below.refl _ _⟩)
  omega
 case alloc =>
  intro o' A W hj
  cases hj
  exact at_op rfl rfl (alP_op rfl ⟨rfl, rfl⟩)
 case store =>
  intro L o' A W b cs hj hI hd eb hr hn
  cases hj
  have e0 : A.eval (.tmp 17) = P.val := hI.valV hd 12 17 rfl rfl (by kernel_rfl) (by decide) (by decide)
  exact at_op rfl rfl (stRow_op rfl eb e0 hr info_p hn (by simp [Value.oneCell']) (fun W2 r2 o2 => ⟨rfl, r2, o2⟩))
 case done =>
  intro A W b hI hB eb hr hb
  have s3 : A.tmps.getD 3 undef = .int .i64 AA := hI.lastV 17 3 rfl (by decide) (by decide)
  have s4 : A.tmps.getD 4 undef = .int .i64 B := hI.lastV 18 4 rfl (by decide) (by decide)
  have hA := hI.frame [6, 7, 8, 9, 10, 11, 12, 13, 14, 15, 16, 5, 17, 18, 19, 2, 3, 4] (by kernel_rfl)
  rw [hA]
  simp only [putAll, List.foldl_cons, List.foldl_nil, eb, s3, s4, Act.put, List.setIfInBounds_toArray, List.set_cons_zero, List.set_cons_succ]
  clear hA hI eb s3 s4
  have r1 := h.below hB
  have s1 := hs.below hB
  go_wp2_with (first
   | (refine ld_pp rfl rfl rfl hr ?_)
   | (refine st_gp rfl rfl rfl rfl r1 ?_; rintro w2 r2 o2 -; have s2 := (s1.row o2 r1 plain_g (by decide)).as (s' := s.port P) rfl rfl rfl rfl)
   | (go_at_call 162; refine (send_impl AA 1 B r2 s2 hl (by omega)).mono ?_; rintro e w3 ⟨rfl, ⟨vo3, ve3, r3, s3, M3⟩, N3⟩))
  refine ret_unit rfl rfl ?_
  rw [HQ.out]
  exact ⟨rfl, vo3, ve3, r3, s3, ((Mid.of hB).trans (Mid.onto o2)).trans M3⟩
set_option maxHeartbeats 1000000 in
theorem meetBeat_impl (m : M3) (hk : m.k = 1) (ht : 0 ≤ m.t ∧ m.t ≤ 1000000100) (h : GRow w g x y vo ve vi s co fin) (hs : So base w x y vo ve s) (hl : s.o.length ≤ 10000) (hl2 : s.e.length ≤ 10000) :
  Calls Tryz.prog 117 #[.pointer (some ⟨g, 0, none⟩), m.val] w fun e w' => e = .returned (.tuple #[]) ∧ Gd base g w w' x y vi co fin (s.arrive m) := by
 obtain ⟨P, AA, I, hP⟩ : ∃ P AA I, s.m.p.beat m.v = (P, AA, I) := ⟨_, _, _, rfl⟩
 have hgl := h.lt
 obtain ⟨vm, hvm⟩ : ∃ vm, vm = m.val := ⟨_, rfl⟩
 rw [← hvm]
 cases I
 ·have HQ : Hid (s.arrive m = (s.port P).sends ⟨m.t + 8, 2, AA⟩) := show _ = _ by unfold St.arrive; rw [if_pos hk, hP]; simp
  have HP : Hid (s.m.p.beat m.v = (P, AA, false)) := hP
  clear hP hk
  go_enter Tryz.func117, Tryz.ntmps117
  go_wp2_with (refine box_m3 rfl rfl hvm ?_; intro w0 m0 hb0; have h0 := h.below hb0; have s0 := hs.below hb0; have hm0 := m0.lt)
  refine region_var (by kernel_rfl) (by kernel_rfl) 13 14 4 (by decide) (by decide) rfl rfl (by kernel_rfl) (by decide) (by kernel_rfl) 28 #[.int .i64 0, .bool false, .bool false, .int .i64 0, .int .i64 0, .bool false] #[.int .i64 P.d, .bool P.b, .bool P.l, .int .i64 P.n, .int .i64 P.x, .bool P.t] rfl [.pointer (some ⟨g, 0, none⟩), .pointer (some ⟨g, 0, none⟩), .pointer (some ⟨g, 0, none⟩), .pointer (some ⟨g, 0, none⟩), .pointer (some ⟨g, 18, none⟩), s.m.p.val, .pointer (some ⟨w.heap.size, 2, none⟩), .int .i64 m.v, .tuple #[P.val, .int .i64 AA, .bool false], .tuple #[P.val, .int .i64 AA, .bool false], P.val, .int .i64 AA, .bool false, undef, undef, .int .i64 AA, .bool false] ?step ?alloc ?store ?done
  case step =>
   intro L ix o' A W hn1 hn2 hj hI hB hd
   have hin : ix < 17 := by
    by_cases hl : ix < 17
    ·exact hl
    ·simp [hl] at hj
   have hsz : A.tmps.size = 36 := hI.size
   rcases ix with _ | _ | _ | _ | _ | _ | _ | _ | _ | _ | _ | _ | _ | _ | _ | _ | _ | ix
   ·cases hj; exact at_op rfl rfl (move_op rfl ⟨_, rfl, hI.old 0 (by kernel_rfl), Below.refl _ _⟩)
   ·cases hj; exact at_op rfl rfl (nil_op rfl (hI.valV hd 0 8 rfl rfl (by kernel_rfl) (by decide) (by decide)) ⟨_, rfl, rfl, Below.refl _ _⟩)
   ·cases hj; exact at_op rfl rfl (one_op (hI.valV hd 1 9 rfl rfl (by kernel_rfl) (by decide) (by decide)) rfl (by kernel_rfl) ⟨_, rfl, rfl, Below.refl _ _⟩)
   ·cases hj; exact at_op rfl rfl (one_op (hI.valV hd 2 10 rfl rfl (by kernel_rfl) (by decide) (by decide)) rfl (by kernel_rfl) ⟨_, rfl, rfl, Below.refl _ _⟩)
   ·cases hj; exact at_op rfl rfl (one_op (hI.valV hd 3 11 rfl rfl (by kernel_rfl) (by decide) (by decide)) rfl (by kernel_rfl) ⟨_, rfl, rfl, Below.refl _ _⟩)
   ·cases hj
    have e0 : A.eval (.tmp 12) = .pointer (some ⟨g, 18, none⟩) := hI.valV hd 4 12 rfl rfl (by kernel_rfl) (by decide) (by decide)
    exact at_op rfl rfl (ldP_op rfl e0 (h0.below hB) ⟨_, rfl, rfl, Below.refl _ _⟩)
   ·cases hj; exact at_op rfl rfl (one_op (x := .tmp 3) (hI.old 3 (by kernel_rfl)) rfl (by kernel_rfl) ⟨_, rfl, rfl, Below.refl _ _⟩)
   ·cases hj
    have e0 : A.eval (.tmp 14) = .pointer (some ⟨w.heap.size, 2, none⟩) := hI.valV hd 6 14 rfl rfl (by kernel_rfl) (by decide) (by decide)
    exact at_op rfl rfl (load_op rfl Tryz.underlying2 e0 ((m0.below hB).cell 2) ⟨_, rfl, rfl, Below.refl _ _⟩)
   ·cases hj
    have e0 : A.eval (.tmp 13) = s.m.p.val := hI.valV hd 5 13 rfl rfl (by kernel_rfl) (by decide) (by decide)
    have e1 : A.eval (.tmp 15) = .int .i64 m.v := hI.valV hd 7 15 rfl rfl (by kernel_rfl) (by decide) (by decide)
    refine at_op rfl rfl (call_op rfl Tryz.func163 (by kernel_rfl) (by kernel_rfl) ?_)
    simp only [List.map_cons, List.map_nil, e0, e1]
    refine (serialBeat_impl s.m.p m.v _).mono ?_
    rw [HP.out]
    rintro e W1 ⟨rfl, hb⟩
    exact ⟨_, rfl, _, rfl, rfl, hb⟩
   ·cases hj; exact at_op rfl rfl (move_op rfl ⟨_, rfl, hI.valV hd 8 16 rfl rfl (by kernel_rfl) (by decide) (by decide), Below.refl _ _⟩)
   ·cases hj; exact at_op rfl rfl (one_op (hI.valV hd 9 7 rfl rfl (by kernel_rfl) (by decide) (by decide)) rfl (by kernel_rfl) ⟨_, rfl, rfl, Below.refl _ _⟩)
   ·cases hj; exact at_op rfl rfl (one_op (hI.valV hd 9 7 rfl rfl (by kernel_rfl) (by decide) (by decide)) rfl (by kernel_rfl) ⟨_, rfl, rfl, Below.refl _ _⟩)
   ·cases hj; exact at_op rfl rfl (one_op (hI.valV hd 9 7 rfl rfl (by kernel_rfl) (by decide) (by decide)) rfl (by kernel_rfl) ⟨_, rfl, rfl, Below.refl _ _⟩)
   ·exact absurd rfl hn1
   ·exact absurd rfl hn2
   ·cases hj; exact at_op rfl rfl (assign_op rfl ⟨_, rfl, hI.valV hd 11 18 rfl rfl (by kernel_rfl) (by decide) (by decide), Below.refl _ _⟩)
   ·cases hj; exact at_op rfl rfl (assign_op rfl ⟨_, rfl, hI.valV hd 12 19 rfl rfl (by kernel_rfl) (by decide) (by decide), Below.refl _ _⟩)
   omega
  case alloc =>
   intro o' A W hj
   cases hj
   exact at_op rfl rfl (alP_op rfl ⟨rfl, rfl⟩)
  case store =>
   intro L o' A W b cs hj hI hd eb hr hn
   cases hj
   have e0 : A.eval (.tmp 17) = P.val := hI.valV hd 10 17 rfl rfl (by kernel_rfl) (by decide) (by decide)
   exact at_op rfl rfl (stRow_op rfl eb e0 hr info_p hn (by simp [Value.oneCell']) (fun W2 r2 o2 => ⟨rfl, r2, o2⟩))
  case done =>
   intro A W b hI hB eb hr hb
   have s5 : A.tmps.getD 5 undef = .int .i64 AA := hI.lastV 15 5 rfl (by decide) (by decide)
   have s6 : A.tmps.getD 6 undef = .bool false := hI.lastV 16 6 rfl (by decide) (by decide)
   have hA := hI.frame [8, 9, 10, 11, 12, 13, 14, 15, 16, 7, 17, 18, 19, 4, 5, 6] (by kernel_rfl)
   rw [hA]
   simp only [putAll, List.foldl_cons, List.foldl_nil, eb, s5, s6, Act.put, List.setIfInBounds_toArray, List.set_cons_zero, List.set_cons_succ]
   clear hA hI eb s5 s6
   have r1 := h0.below hB
   have s1 := s0.below hB
   have m1 := m0.below hB
   have sB := hB.size
   have kt : W.cell? ⟨w.heap.size, 0, none⟩ = some (.int .i64 m.t) := m1.cell 0
   go_wp2_with (first
    | (refine ld_pp rfl rfl rfl hr ?_)
    | (refine st_gp rfl rfl rfl rfl r1 ?_; rintro w2 r2 o2 -; have s2 := (s1.row o2 r1 plain_g (by decide)).as (s' := s.port P) rfl rfl rfl rfl; have m2 := m1.onto o2 (by omega); have kt2 : w2.cell? ⟨w.heap.size, 0, none⟩ = some (.int .i64 m.t) := m2.cell 0; clear kt)
    | (go_at_call 162; refine (send_impl m.t 2 AA r2 s2 hl (by omega)).mono ?_; rintro e w3 ⟨rfl, ⟨vo3, ve3, r3, s3, M3⟩, N3⟩))
   refine ret_unit rfl rfl ?_
   rw [HQ.out]
   exact ⟨rfl, vo3, ve3, r3, s3, ((Mid.of (below_more hb0 hB)).trans (Mid.onto o2)).trans M3⟩
 ·have HQ : Hid (s.arrive m = ((s.port P).sends ⟨m.t + 8, 2, AA⟩).through m.t) := show _ = _ by unfold St.arrive; rw [if_pos hk, hP]; simp
  have HP : Hid (s.m.p.beat m.v = (P, AA, true)) := hP
  clear hP hk
  go_enter Tryz.func117, Tryz.ntmps117
  go_wp2_with (refine box_m3 rfl rfl hvm ?_; intro w0 m0 hb0; have h0 := h.below hb0; have s0 := hs.below hb0; have hm0 := m0.lt)
  refine region_var (by kernel_rfl) (by kernel_rfl) 13 14 4 (by decide) (by decide) rfl rfl (by kernel_rfl) (by decide) (by kernel_rfl) 28 #[.int .i64 0, .bool false, .bool false, .int .i64 0, .int .i64 0, .bool false] #[.int .i64 P.d, .bool P.b, .bool P.l, .int .i64 P.n, .int .i64 P.x, .bool P.t] rfl [.pointer (some ⟨g, 0, none⟩), .pointer (some ⟨g, 0, none⟩), .pointer (some ⟨g, 0, none⟩), .pointer (some ⟨g, 0, none⟩), .pointer (some ⟨g, 18, none⟩), s.m.p.val, .pointer (some ⟨w.heap.size, 2, none⟩), .int .i64 m.v, .tuple #[P.val, .int .i64 AA, .bool true], .tuple #[P.val, .int .i64 AA, .bool true], P.val, .int .i64 AA, .bool true, undef, undef, .int .i64 AA, .bool true] ?step ?alloc ?store ?done
  case step =>
   intro L ix o' A W hn1 hn2 hj hI hB hd
   have hin : ix < 17 := by
    by_cases hl : ix < 17
    ·exact hl
    ·simp [hl] at hj
   have hsz : A.tmps.size = 36 := hI.size
   rcases ix with _ | _ | _ | _ | _ | _ | _ | _ | _ | _ | _ | _ | _ | _ | _ | _ | _ | ix
   ·cases hj; exact at_op rfl rfl (move_op rfl ⟨_, rfl, hI.old 0 (by kernel_rfl), Below.refl _ _⟩)
   ·cases hj; exact at_op rfl rfl (nil_op rfl (hI.valV hd 0 8 rfl rfl (by kernel_rfl) (by decide) (by decide)) ⟨_, rfl, rfl, Below.refl _ _⟩)
   ·cases hj; exact at_op rfl rfl (one_op (hI.valV hd 1 9 rfl rfl (by kernel_rfl) (by decide) (by decide)) rfl (by kernel_rfl) ⟨_, rfl, rfl, Below.refl _ _⟩)
   ·cases hj; exact at_op rfl rfl (one_op (hI.valV hd 2 10 rfl rfl (by kernel_rfl) (by decide) (by decide)) rfl (by kernel_rfl) ⟨_, rfl, rfl, Below.refl _ _⟩)
   ·cases hj; exact at_op rfl rfl (one_op (hI.valV hd 3 11 rfl rfl (by kernel_rfl) (by decide) (by decide)) rfl (by kernel_rfl) ⟨_, rfl, rfl, Below.refl _ _⟩)
   ·cases hj
    have e0 : A.eval (.tmp 12) = .pointer (some ⟨g, 18, none⟩) := hI.valV hd 4 12 rfl rfl (by kernel_rfl) (by decide) (by decide)
    exact at_op rfl rfl (ldP_op rfl e0 (h0.below hB) ⟨_, rfl, rfl, Below.refl _ _⟩)
   ·cases hj; exact at_op rfl rfl (one_op (x := .tmp 3) (hI.old 3 (by kernel_rfl)) rfl (by kernel_rfl) ⟨_, rfl, rfl, Below.refl _ _⟩)
   ·cases hj
    have e0 : A.eval (.tmp 14) = .pointer (some ⟨w.heap.size, 2, none⟩) := hI.valV hd 6 14 rfl rfl (by kernel_rfl) (by decide) (by decide)
    exact at_op rfl rfl (load_op rfl Tryz.underlying2 e0 ((m0.below hB).cell 2) ⟨_, rfl, rfl, Below.refl _ _⟩)
   ·cases hj
    have e0 : A.eval (.tmp 13) = s.m.p.val := hI.valV hd 5 13 rfl rfl (by kernel_rfl) (by decide) (by decide)
    have e1 : A.eval (.tmp 15) = .int .i64 m.v := hI.valV hd 7 15 rfl rfl (by kernel_rfl) (by decide) (by decide)
    refine at_op rfl rfl (call_op rfl Tryz.func163 (by kernel_rfl) (by kernel_rfl) ?_)
    simp only [List.map_cons, List.map_nil, e0, e1]
    refine (serialBeat_impl s.m.p m.v _).mono ?_
    rw [HP.out]
    rintro e W1 ⟨rfl, hb⟩
    exact ⟨_, rfl, _, rfl, rfl, hb⟩
   ·cases hj; exact at_op rfl rfl (move_op rfl ⟨_, rfl, hI.valV hd 8 16 rfl rfl (by kernel_rfl) (by decide) (by decide), Below.refl _ _⟩)
   ·cases hj; exact at_op rfl rfl (one_op (hI.valV hd 9 7 rfl rfl (by kernel_rfl) (by decide) (by decide)) rfl (by kernel_rfl) ⟨_, rfl, rfl, Below.refl _ _⟩)
   ·cases hj; exact at_op rfl rfl (one_op (hI.valV hd 9 7 rfl rfl (by kernel_rfl) (by decide) (by decide)) rfl (by kernel_rfl) ⟨_, rfl, rfl, Below.refl _ _⟩)
   ·cases hj; exact at_op rfl rfl (one_op (hI.valV hd 9 7 rfl rfl (by kernel_rfl) (by decide) (by decide)) rfl (by kernel_rfl) ⟨_, rfl, rfl, Below.refl _ _⟩)
   ·exact absurd rfl hn1
   ·exact absurd rfl hn2
   ·cases hj; exact at_op rfl rfl (assign_op rfl ⟨_, rfl, hI.valV hd 11 18 rfl rfl (by kernel_rfl) (by decide) (by decide), Below.refl _ _⟩)
   ·cases hj; exact at_op rfl rfl (assign_op rfl ⟨_, rfl, hI.valV hd 12 19 rfl rfl (by kernel_rfl) (by decide) (by decide), Below.refl _ _⟩)
   omega
  case alloc =>
   intro o' A W hj
   cases hj
   exact at_op rfl rfl (alP_op rfl ⟨rfl, rfl⟩)
  case store =>
   intro L o' A W b cs hj hI hd eb hr hn
   cases hj
   have e0 : A.eval (.tmp 17) = P.val := hI.valV hd 10 17 rfl rfl (by kernel_rfl) (by decide) (by decide)
   exact at_op rfl rfl (stRow_op rfl eb e0 hr info_p hn (by simp [Value.oneCell']) (fun W2 r2 o2 => ⟨rfl, r2, o2⟩))
  case done =>
   intro A W b hI hB eb hr hb
   have s5 : A.tmps.getD 5 undef = .int .i64 AA := hI.lastV 15 5 rfl (by decide) (by decide)
   have s6 : A.tmps.getD 6 undef = .bool true := hI.lastV 16 6 rfl (by decide) (by decide)
   have hA := hI.frame [8, 9, 10, 11, 12, 13, 14, 15, 16, 7, 17, 18, 19, 4, 5, 6] (by kernel_rfl)
   rw [hA]
   simp only [putAll, List.foldl_cons, List.foldl_nil, eb, s5, s6, Act.put, List.setIfInBounds_toArray, List.set_cons_zero, List.set_cons_succ]
   clear hA hI eb s5 s6
   have r1 := h0.below hB
   have s1 := s0.below hB
   have m1 := m0.below hB
   have sB := hB.size
   have kt : W.cell? ⟨w.heap.size, 0, none⟩ = some (.int .i64 m.t) := m1.cell 0
   go_wp2_with (first
    | (refine ld_pp rfl rfl rfl hr ?_)
    | (refine st_gp rfl rfl rfl rfl r1 ?_; rintro w2 r2 o2 -; have s2 := (s1.row o2 r1 plain_g (by decide)).as (s' := s.port P) rfl rfl rfl rfl; have m2 := m1.onto o2 (by omega); have kt2 : w2.cell? ⟨w.heap.size, 0, none⟩ = some (.int .i64 m.t) := m2.cell 0; clear kt)
    | (go_at_call 162; refine (send_impl m.t 2 AA r2 s2 hl (by omega)).mono ?_; rintro e w3 ⟨rfl, ⟨vo3, ve3, r3, s3, M3⟩, N3⟩; have n3 : w3.heap[w.heap.size]? = w2.heap[w.heap.size]? := N3 w.heap.size m2.lt (by omega) (fun e => by have := (hs.o.lt _ e).2; omega); have kt3 : w3.cell? ⟨w.heap.size, 0, none⟩ = some (.int .i64 m.t) := (World.cell?_of_block (w := w2) (a := ⟨w.heap.size, 0, none⟩) n3).trans kt2; clear kt2)
    | (go_at_call 164; refine (byteThrough_impl m.t r3 s3 hl2).mono ?_; rintro e w4 ⟨rfl, vo4, ve4, r4, s4, M4⟩))
   refine ret_unit rfl rfl ?_
   rw [HQ.out]
   exact ⟨rfl, vo4, ve4, r4, s4, (((Mid.of (below_more hb0 hB)).trans (Mid.onto o2)).trans M3).trans M4⟩
set_option maxHeartbeats 1000000 in
theorem meetAnswer_impl (m : M3) (hk : m.k = 2) (h : GRow w g x y vo ve vi s co fin) (hs : So base w x y vo ve s) (hl2 : s.e.length ≤ 10000) :
  Calls Tryz.prog 118 #[.pointer (some ⟨g, 0, none⟩), m.val] w fun e w' => e = .returned (.tuple #[]) ∧ Gd base g w w' x y vi co fin (s.arrive m) := by
 obtain ⟨P, I, hP⟩ : ∃ P I, s.m.p.answer m.v m.t = (P, I) := ⟨_, _, rfl⟩
 have hgl := h.lt
 obtain ⟨vm, hvm⟩ : ∃ vm, vm = m.val := ⟨_, rfl⟩
 rw [← hvm]
 cases I
 ·have HQ : Hid (s.arrive m = s.port P) := show _ = _ by unfold St.arrive; rw [if_neg (by omega), if_pos hk, hP]; simp
  have HP : Hid (s.m.p.answer m.v m.t = (P, false)) := hP
  clear hP hk
  go_enter Tryz.func118, Tryz.ntmps118
  go_wp2_with (refine box_m3 rfl rfl hvm ?_; intro w0 m0 hb0; have h0 := h.below hb0; have s0 := hs.below hb0; have hm0 := m0.lt)
  refine region_var (by kernel_rfl) (by kernel_rfl) 14 15 4 (by decide) (by decide) rfl rfl (by kernel_rfl) (by decide) (by kernel_rfl) 28 #[.int .i64 0, .bool false, .bool false, .int .i64 0, .int .i64 0, .bool false] #[.int .i64 P.d, .bool P.b, .bool P.l, .int .i64 P.n, .int .i64 P.x, .bool P.t] rfl [.pointer (some ⟨g, 0, none⟩), .pointer (some ⟨g, 0, none⟩), .pointer (some ⟨g, 0, none⟩), .pointer (some ⟨g, 0, none⟩), .pointer (some ⟨g, 18, none⟩), s.m.p.val, .pointer (some ⟨w.heap.size, 2, none⟩), .int .i64 m.v, .pointer (some ⟨w.heap.size, 0, none⟩), .int .i64 m.t, .tuple #[P.val, .bool false], .tuple #[P.val, .bool false], P.val, .bool false, undef, undef, .bool false] ?step ?alloc ?store ?done
  case step =>
   intro L ix o' A W hn1 hn2 hj hI hB hd
   have hin : ix < 17 := by
    by_cases hl : ix < 17
    ·exact hl
    ·simp [hl] at hj
   have hsz : A.tmps.size = 31 := hI.size
   rcases ix with _ | _ | _ | _ | _ | _ | _ | _ | _ | _ | _ | _ | _ | _ | _ | _ | _ | ix
   ·cases hj; exact at_op rfl rfl (move_op rfl ⟨_, rfl, hI.old 0 (by kernel_rfl), Below.refl _ _⟩)
   ·cases hj; exact at_op rfl rfl (nil_op rfl (hI.valV hd 0 7 rfl rfl (by kernel_rfl) (by decide) (by decide)) ⟨_, rfl, rfl, Below.refl _ _⟩)
   ·cases hj; exact at_op rfl rfl (one_op (hI.valV hd 1 8 rfl rfl (by kernel_rfl) (by decide) (by decide)) rfl (by kernel_rfl) ⟨_, rfl, rfl, Below.refl _ _⟩)
   ·cases hj; exact at_op rfl rfl (one_op (hI.valV hd 2 9 rfl rfl (by kernel_rfl) (by decide) (by decide)) rfl (by kernel_rfl) ⟨_, rfl, rfl, Below.refl _ _⟩)
   ·cases hj; exact at_op rfl rfl (one_op (hI.valV hd 3 10 rfl rfl (by kernel_rfl) (by decide) (by decide)) rfl (by kernel_rfl) ⟨_, rfl, rfl, Below.refl _ _⟩)
   ·cases hj
    have e0 : A.eval (.tmp 11) = .pointer (some ⟨g, 18, none⟩) := hI.valV hd 4 11 rfl rfl (by kernel_rfl) (by decide) (by decide)
    exact at_op rfl rfl (ldP_op rfl e0 (h0.below hB) ⟨_, rfl, rfl, Below.refl _ _⟩)
   ·cases hj; exact at_op rfl rfl (one_op (x := .tmp 3) (hI.old 3 (by kernel_rfl)) rfl (by kernel_rfl) ⟨_, rfl, rfl, Below.refl _ _⟩)
   ·cases hj
    have e0 : A.eval (.tmp 13) = .pointer (some ⟨w.heap.size, 2, none⟩) := hI.valV hd 6 13 rfl rfl (by kernel_rfl) (by decide) (by decide)
    exact at_op rfl rfl (load_op rfl Tryz.underlying2 e0 ((m0.below hB).cell 2) ⟨_, rfl, rfl, Below.refl _ _⟩)
   ·cases hj; exact at_op rfl rfl (one_op (x := .tmp 3) (hI.old 3 (by kernel_rfl)) rfl (by kernel_rfl) ⟨_, rfl, rfl, Below.refl _ _⟩)
   ·cases hj
    have e0 : A.eval (.tmp 15) = .pointer (some ⟨w.heap.size, 0, none⟩) := hI.valV hd 8 15 rfl rfl (by kernel_rfl) (by decide) (by decide)
    exact at_op rfl rfl (load_op rfl Tryz.underlying2 e0 ((m0.below hB).cell 0) ⟨_, rfl, rfl, Below.refl _ _⟩)
   ·cases hj
    have e0 : A.eval (.tmp 12) = s.m.p.val := hI.valV hd 5 12 rfl rfl (by kernel_rfl) (by decide) (by decide)
    have e1 : A.eval (.tmp 14) = .int .i64 m.v := hI.valV hd 7 14 rfl rfl (by kernel_rfl) (by decide) (by decide)
    have e2 : A.eval (.tmp 16) = .int .i64 m.t := hI.valV hd 9 16 rfl rfl (by kernel_rfl) (by decide) (by decide)
    refine at_op rfl rfl (call_op rfl Tryz.func165 (by kernel_rfl) (by kernel_rfl) ?_)
    simp only [List.map_cons, List.map_nil, e0, e1, e2]
    refine (serialAnswer_impl s.m.p m.v m.t _).mono ?_
    rw [HP.out]
    rintro e W1 ⟨rfl, hb⟩
    exact ⟨_, rfl, _, rfl, rfl, hb⟩
   ·cases hj; exact at_op rfl rfl (move_op rfl ⟨_, rfl, hI.valV hd 10 17 rfl rfl (by kernel_rfl) (by decide) (by decide), Below.refl _ _⟩)
   ·cases hj; exact at_op rfl rfl (one_op (hI.valV hd 11 6 rfl rfl (by kernel_rfl) (by decide) (by decide)) rfl (by kernel_rfl) ⟨_, rfl, rfl, Below.refl _ _⟩)
   ·cases hj; exact at_op rfl rfl (one_op (hI.valV hd 11 6 rfl rfl (by kernel_rfl) (by decide) (by decide)) rfl (by kernel_rfl) ⟨_, rfl, rfl, Below.refl _ _⟩)
   ·exact absurd rfl hn1
   ·exact absurd rfl hn2
   ·cases hj; exact at_op rfl rfl (assign_op rfl ⟨_, rfl, hI.valV hd 13 19 rfl rfl (by kernel_rfl) (by decide) (by decide), Below.refl _ _⟩)
   omega
  case alloc =>
   intro o' A W hj
   cases hj
   exact at_op rfl rfl (alP_op rfl ⟨rfl, rfl⟩)
  case store =>
   intro L o' A W b cs hj hI hd eb hr hn
   cases hj
   have e0 : A.eval (.tmp 18) = P.val := hI.valV hd 12 18 rfl rfl (by kernel_rfl) (by decide) (by decide)
   exact at_op rfl rfl (stRow_op rfl eb e0 hr info_p hn (by simp [Value.oneCell']) (fun W2 r2 o2 => ⟨rfl, r2, o2⟩))
  case done =>
   intro A W b hI hB eb hr hb
   have s5 : A.tmps.getD 5 undef = .bool false := hI.lastV 16 5 rfl (by decide) (by decide)
   have hA := hI.frame [7, 8, 9, 10, 11, 12, 13, 14, 15, 16, 17, 6, 18, 19, 4, 5] (by kernel_rfl)
   rw [hA]
   simp only [putAll, List.foldl_cons, List.foldl_nil, eb, s5, Act.put, List.setIfInBounds_toArray, List.set_cons_zero, List.set_cons_succ]
   clear hA hI eb s5
   have r1 := h0.below hB
   have s1 := s0.below hB
   have m1 := m0.below hB
   have sB := hB.size
   go_wp2_with (first
    | (refine ld_pp rfl rfl rfl hr ?_)
    | (refine st_gp rfl rfl rfl rfl r1 ?_; rintro w2 r2 o2 -; have s2 := (s1.row o2 r1 plain_g (by decide)).as (s' := s.port P) rfl rfl rfl rfl; have m2 := m1.onto o2 (by omega); have kt2 : w2.cell? ⟨w.heap.size, 0, none⟩ = some (.int .i64 m.t) := m2.cell 0))
   refine ret_unit rfl rfl ?_
   rw [HQ.out]
   exact ⟨rfl, vo, ve, r2, s2, (Mid.of (below_more hb0 hB)).trans (Mid.onto o2)⟩
 ·have HQ : Hid (s.arrive m = (s.port P).through m.t) := show _ = _ by unfold St.arrive; rw [if_neg (by omega), if_pos hk, hP]; simp
  have HP : Hid (s.m.p.answer m.v m.t = (P, true)) := hP
  clear hP hk
  go_enter Tryz.func118, Tryz.ntmps118
  go_wp2_with (refine box_m3 rfl rfl hvm ?_; intro w0 m0 hb0; have h0 := h.below hb0; have s0 := hs.below hb0; have hm0 := m0.lt)
  refine region_var (by kernel_rfl) (by kernel_rfl) 14 15 4 (by decide) (by decide) rfl rfl (by kernel_rfl) (by decide) (by kernel_rfl) 28 #[.int .i64 0, .bool false, .bool false, .int .i64 0, .int .i64 0, .bool false] #[.int .i64 P.d, .bool P.b, .bool P.l, .int .i64 P.n, .int .i64 P.x, .bool P.t] rfl [.pointer (some ⟨g, 0, none⟩), .pointer (some ⟨g, 0, none⟩), .pointer (some ⟨g, 0, none⟩), .pointer (some ⟨g, 0, none⟩), .pointer (some ⟨g, 18, none⟩), s.m.p.val, .pointer (some ⟨w.heap.size, 2, none⟩), .int .i64 m.v, .pointer (some ⟨w.heap.size, 0, none⟩), .int .i64 m.t, .tuple #[P.val, .bool true], .tuple #[P.val, .bool true], P.val, .bool true, undef, undef, .bool true] ?step ?alloc ?store ?done
  case step =>
   intro L ix o' A W hn1 hn2 hj hI hB hd
   have hin : ix < 17 := by
    by_cases hl : ix < 17
    ·exact hl
    ·simp [hl] at hj
   have hsz : A.tmps.size = 31 := hI.size
   rcases ix with _ | _ | _ | _ | _ | _ | _ | _ | _ | _ | _ | _ | _ | _ | _ | _ | _ | ix
   ·cases hj; exact at_op rfl rfl (move_op rfl ⟨_, rfl, hI.old 0 (by kernel_rfl), Below.refl _ _⟩)
   ·cases hj; exact at_op rfl rfl (nil_op rfl (hI.valV hd 0 7 rfl rfl (by kernel_rfl) (by decide) (by decide)) ⟨_, rfl, rfl, Below.refl _ _⟩)
   ·cases hj; exact at_op rfl rfl (one_op (hI.valV hd 1 8 rfl rfl (by kernel_rfl) (by decide) (by decide)) rfl (by kernel_rfl) ⟨_, rfl, rfl, Below.refl _ _⟩)
   ·cases hj; exact at_op rfl rfl (one_op (hI.valV hd 2 9 rfl rfl (by kernel_rfl) (by decide) (by decide)) rfl (by kernel_rfl) ⟨_, rfl, rfl, Below.refl _ _⟩)
   ·cases hj; exact at_op rfl rfl (one_op (hI.valV hd 3 10 rfl rfl (by kernel_rfl) (by decide) (by decide)) rfl (by kernel_rfl) ⟨_, rfl, rfl, Below.refl _ _⟩)
   ·cases hj
    have e0 : A.eval (.tmp 11) = .pointer (some ⟨g, 18, none⟩) := hI.valV hd 4 11 rfl rfl (by kernel_rfl) (by decide) (by decide)
    exact at_op rfl rfl (ldP_op rfl e0 (h0.below hB) ⟨_, rfl, rfl, Below.refl _ _⟩)
   ·cases hj; exact at_op rfl rfl (one_op (x := .tmp 3) (hI.old 3 (by kernel_rfl)) rfl (by kernel_rfl) ⟨_, rfl, rfl, Below.refl _ _⟩)
   ·cases hj
    have e0 : A.eval (.tmp 13) = .pointer (some ⟨w.heap.size, 2, none⟩) := hI.valV hd 6 13 rfl rfl (by kernel_rfl) (by decide) (by decide)
    exact at_op rfl rfl (load_op rfl Tryz.underlying2 e0 ((m0.below hB).cell 2) ⟨_, rfl, rfl, Below.refl _ _⟩)
   ·cases hj; exact at_op rfl rfl (one_op (x := .tmp 3) (hI.old 3 (by kernel_rfl)) rfl (by kernel_rfl) ⟨_, rfl, rfl, Below.refl _ _⟩)
   ·cases hj
    have e0 : A.eval (.tmp 15) = .pointer (some ⟨w.heap.size, 0, none⟩) := hI.valV hd 8 15 rfl rfl (by kernel_rfl) (by decide) (by decide)
    exact at_op rfl rfl (load_op rfl Tryz.underlying2 e0 ((m0.below hB).cell 0) ⟨_, rfl, rfl, Below.refl _ _⟩)
   ·cases hj
    have e0 : A.eval (.tmp 12) = s.m.p.val := hI.valV hd 5 12 rfl rfl (by kernel_rfl) (by decide) (by decide)
    have e1 : A.eval (.tmp 14) = .int .i64 m.v := hI.valV hd 7 14 rfl rfl (by kernel_rfl) (by decide) (by decide)
    have e2 : A.eval (.tmp 16) = .int .i64 m.t := hI.valV hd 9 16 rfl rfl (by kernel_rfl) (by decide) (by decide)
    refine at_op rfl rfl (call_op rfl Tryz.func165 (by kernel_rfl) (by kernel_rfl) ?_)
    simp only [List.map_cons, List.map_nil, e0, e1, e2]
    refine (serialAnswer_impl s.m.p m.v m.t _).mono ?_
    rw [HP.out]
    rintro e W1 ⟨rfl, hb⟩
    exact ⟨_, rfl, _, rfl, rfl, hb⟩
   ·cases hj; exact at_op rfl rfl (move_op rfl ⟨_, rfl, hI.valV hd 10 17 rfl rfl (by kernel_rfl) (by decide) (by decide), Below.refl _ _⟩)
   ·cases hj; exact at_op rfl rfl (one_op (hI.valV hd 11 6 rfl rfl (by kernel_rfl) (by decide) (by decide)) rfl (by kernel_rfl) ⟨_, rfl, rfl, Below.refl _ _⟩)
   ·cases hj; exact at_op rfl rfl (one_op (hI.valV hd 11 6 rfl rfl (by kernel_rfl) (by decide) (by decide)) rfl (by kernel_rfl) ⟨_, rfl, rfl, Below.refl _ _⟩)
   ·exact absurd rfl hn1
   ·exact absurd rfl hn2
   ·cases hj; exact at_op rfl rfl (assign_op rfl ⟨_, rfl, hI.valV hd 13 19 rfl rfl (by kernel_rfl) (by decide) (by decide), Below.refl _ _⟩)
   omega
  case alloc =>
   intro o' A W hj
   cases hj
   exact at_op rfl rfl (alP_op rfl ⟨rfl, rfl⟩)
  case store =>
   intro L o' A W b cs hj hI hd eb hr hn
   cases hj
   have e0 : A.eval (.tmp 18) = P.val := hI.valV hd 12 18 rfl rfl (by kernel_rfl) (by decide) (by decide)
   exact at_op rfl rfl (stRow_op rfl eb e0 hr info_p hn (by simp [Value.oneCell']) (fun W2 r2 o2 => ⟨rfl, r2, o2⟩))
  case done =>
   intro A W b hI hB eb hr hb
   have s5 : A.tmps.getD 5 undef = .bool true := hI.lastV 16 5 rfl (by decide) (by decide)
   have hA := hI.frame [7, 8, 9, 10, 11, 12, 13, 14, 15, 16, 17, 6, 18, 19, 4, 5] (by kernel_rfl)
   rw [hA]
   simp only [putAll, List.foldl_cons, List.foldl_nil, eb, s5, Act.put, List.setIfInBounds_toArray, List.set_cons_zero, List.set_cons_succ]
   clear hA hI eb s5
   have r1 := h0.below hB
   have s1 := s0.below hB
   have m1 := m0.below hB
   have sB := hB.size
   go_wp2_with (first
    | (refine ld_pp rfl rfl rfl hr ?_)
    | (refine st_gp rfl rfl rfl rfl r1 ?_; rintro w2 r2 o2 -; have s2 := (s1.row o2 r1 plain_g (by decide)).as (s' := s.port P) rfl rfl rfl rfl; have m2 := m1.onto o2 (by omega); have kt2 : w2.cell? ⟨w.heap.size, 0, none⟩ = some (.int .i64 m.t) := m2.cell 0)
    | (go_at_call 164; refine (byteThrough_impl m.t r2 s2 hl2).mono ?_; rintro e w4 ⟨rfl, vo4, ve4, r4, s4, M4⟩))
   refine ret_unit rfl rfl ?_
   rw [HQ.out]
   exact ⟨rfl, vo4, ve4, r4, s4, ((Mid.of (below_more hb0 hB)).trans (Mid.onto o2)).trans M4⟩
set_option maxHeartbeats 1000000 in
theorem passTime_impl (h : GRow w g x y vo ve vi s co fin) (hs : So base w x y vo ve s) :
  Calls Tryz.prog 54 #[.pointer (some ⟨g, 0, none⟩)] w fun e w' => e = .returned (.tuple #[]) ∧ Gd base g w w' x y vi co fin (s.closed co fin) := by
 obtain ⟨TA, RD, hTA⟩ : ∃ TA RD, s.m.t.after co = (TA, RD) := ⟨_, _, rfl⟩
 have hgl := h.lt
 have HT : Hid (s.m.t.after co = (TA, RD)) := hTA
 by_cases hrd : 0 < RD
 ·have HQ : Hid (s.closed co fin = { s with m := { s.m with t := TA, k := fin, fl := bits .or .i64 s.m.fl 1 } }) := show _ = _ by unfold St.closed; rw [hTA, if_pos hrd]
  clear hTA
  go_enter Tryz.func54, Tryz.ntmps54
  go_wp2_with fail
  refine region_var (by kernel_rfl) (by kernel_rfl) 14 15 2 (by decide) (by decide) rfl rfl (by kernel_rfl) (by decide) (by kernel_rfl) 26 #[.int .i64 0, .int .i64 0, .int .i64 0, .int .i64 0] #[.int .i64 TA.c, .int .i64 TA.v, .int .i64 TA.s, .int .i64 TA.m] rfl [.pointer (some ⟨g, 0, none⟩), .pointer (some ⟨g, 0, none⟩), .pointer (some ⟨g, 0, none⟩), .pointer (some ⟨g, 0, none⟩), .pointer (some ⟨g, 14, none⟩), s.m.t.val, .pointer (some ⟨g, 0, none⟩), .pointer (some ⟨g, 0, none⟩), .pointer (some ⟨g, 29, none⟩), .int .i64 co, .tuple #[TA.val, .int .i64 RD], .tuple #[TA.val, .int .i64 RD], TA.val, .int .i64 RD, undef, undef, .int .i64 RD] ?step ?alloc ?store ?done
  case step =>
   intro L ix o' A W hn1 hn2 hj hI hB hd
   have hin : ix < 17 := by
    by_cases hl : ix < 17
    ·exact hl
    ·simp [hl] at hj
   have hsz : A.tmps.size = 37 := hI.size
   rcases ix with _ | _ | _ | _ | _ | _ | _ | _ | _ | _ | _ | _ | _ | _ | _ | _ | _ | ix
   ·cases hj; exact at_op rfl rfl (move_op rfl ⟨_, rfl, hI.old 0 (by kernel_rfl), Below.refl _ _⟩)
   ·cases hj; exact at_op rfl rfl (nil_op rfl (hI.valV hd 0 5 rfl rfl (by kernel_rfl) (by decide) (by decide)) ⟨_, rfl, rfl, Below.refl _ _⟩)
   ·cases hj; exact at_op rfl rfl (one_op (hI.valV hd 1 6 rfl rfl (by kernel_rfl) (by decide) (by decide)) rfl (by kernel_rfl) ⟨_, rfl, rfl, Below.refl _ _⟩)
   ·cases hj; exact at_op rfl rfl (one_op (hI.valV hd 2 7 rfl rfl (by kernel_rfl) (by decide) (by decide)) rfl (by kernel_rfl) ⟨_, rfl, rfl, Below.refl _ _⟩)
   ·cases hj; exact at_op rfl rfl (one_op (hI.valV hd 3 8 rfl rfl (by kernel_rfl) (by decide) (by decide)) rfl (by kernel_rfl) ⟨_, rfl, rfl, Below.refl _ _⟩)
   ·cases hj
    have e0 : A.eval (.tmp 9) = .pointer (some ⟨g, 14, none⟩) := hI.valV hd 4 9 rfl rfl (by kernel_rfl) (by decide) (by decide)
    exact at_op rfl rfl (ldT_op rfl e0 (h.below hB) ⟨_, rfl, rfl, Below.refl _ _⟩)
   ·cases hj; exact at_op rfl rfl (move_op rfl ⟨_, rfl, hI.old 0 (by kernel_rfl), Below.refl _ _⟩)
   ·cases hj; exact at_op rfl rfl (nil_op rfl (hI.valV hd 6 11 rfl rfl (by kernel_rfl) (by decide) (by decide)) ⟨_, rfl, rfl, Below.refl _ _⟩)
   ·cases hj; exact at_op rfl rfl (one_op (hI.valV hd 7 12 rfl rfl (by kernel_rfl) (by decide) (by decide)) rfl (by kernel_rfl) ⟨_, rfl, rfl, Below.refl _ _⟩)
   ·cases hj
    have e0 : A.eval (.tmp 13) = .pointer (some ⟨g, 29, none⟩) := hI.valV hd 8 13 rfl rfl (by kernel_rfl) (by decide) (by decide)
    exact at_op rfl rfl (load_op rfl Tryz.underlying2 e0 (gc (h.below hB)).co ⟨_, rfl, rfl, Below.refl _ _⟩)
   ·cases hj
    have e0 : A.eval (.tmp 10) = s.m.t.val := hI.valV hd 5 10 rfl rfl (by kernel_rfl) (by decide) (by decide)
    have e1 : A.eval (.tmp 14) = .int .i64 co := hI.valV hd 9 14 rfl rfl (by kernel_rfl) (by decide) (by decide)
    refine at_op rfl rfl (call_op rfl Tryz.func120 (by kernel_rfl) (by kernel_rfl) ?_)
    simp only [List.map_cons, List.map_nil, e0, e1]
    refine (timerAfter_impl s.m.t co _).mono ?_
    rw [HT.out]
    rintro e W1 ⟨rfl, hb⟩
    exact ⟨_, rfl, _, rfl, rfl, hb⟩
   ·cases hj; exact at_op rfl rfl (move_op rfl ⟨_, rfl, hI.valV hd 10 15 rfl rfl (by kernel_rfl) (by decide) (by decide), Below.refl _ _⟩)
   ·cases hj; exact at_op rfl rfl (one_op (hI.valV hd 11 4 rfl rfl (by kernel_rfl) (by decide) (by decide)) rfl (by kernel_rfl) ⟨_, rfl, rfl, Below.refl _ _⟩)
   ·cases hj; exact at_op rfl rfl (one_op (hI.valV hd 11 4 rfl rfl (by kernel_rfl) (by decide) (by decide)) rfl (by kernel_rfl) ⟨_, rfl, rfl, Below.refl _ _⟩)
   ·exact absurd rfl hn1
   ·exact absurd rfl hn2
   ·cases hj; exact at_op rfl rfl (assign_op rfl ⟨_, rfl, hI.valV hd 13 17 rfl rfl (by kernel_rfl) (by decide) (by decide), Below.refl _ _⟩)
   omega
  case alloc =>
   intro o' A W hj
   cases hj
   exact at_op rfl rfl (alT_op rfl ⟨rfl, rfl⟩)
  case store =>
   intro L o' A W b cs hj hI hd eb hr hn
   cases hj
   have e0 : A.eval (.tmp 16) = TA.val := hI.valV hd 12 16 rfl rfl (by kernel_rfl) (by decide) (by decide)
   exact at_op rfl rfl (stRow_op rfl eb e0 hr info_t hn (by simp [Value.oneCell']) (fun W2 r2 o2 => ⟨rfl, r2, o2⟩))
  case done =>
   intro A W b hI hB eb hr hb
   have s3 : A.tmps.getD 3 undef = .int .i64 RD := hI.lastV 16 3 rfl (by decide) (by decide)
   have hA := hI.frame [5, 6, 7, 8, 9, 10, 11, 12, 13, 14, 15, 4, 16, 17, 2, 3] (by kernel_rfl)
   rw [hA]
   simp only [putAll, List.foldl_cons, List.foldl_nil, eb, s3, Act.put, List.setIfInBounds_toArray, List.set_cons_zero, List.set_cons_succ]
   clear hA hI eb s3
   have r1 := h.below hB
   have s1 := hs.below hB
   go_wp2_with (first
    | (refine ld_tt rfl rfl rfl hr ?_)
    | (refine st_gt rfl rfl rfl rfl r1 ?_; rintro w2 r2 o2 -; have s2 := (s1.row o2 r1 plain_g (by decide)).as (s' := { s with m := { s.m with t := TA } }) rfl rfl rfl rfl; have kf2 := (gc r2).fin)
    | (go_at_call 119; refine (raise_impl 0 1 (by simp) (by decide) r2).mono ?_; rintro e w3 ⟨rfl, r3, o3⟩; have s3 := (s2.row o3 r2 plain_g (by decide)).as (s' := { s with m := { s.m with t := TA, fl := bits .or .i64 s.m.fl 1 } }) rfl rfl rfl rfl; have kf3 := (gc r3).fin; clear kf2)
    | (refine st_gn (s' := { s with m := { s.m with t := TA, k := fin, fl := bits .or .i64 s.m.fl 1 } }) rfl rfl rfl rfl r3 rfl rfl ?_; rintro w4 r4 o4 -; have s4 := (s3.row o4 r3 plain_g (by decide)).as (s' := { s with m := { s.m with t := TA, k := fin, fl := bits .or .i64 s.m.fl 1 } }) rfl rfl rfl rfl))
   refine ret_unit rfl rfl ?_
   rw [HQ.out]
   exact ⟨rfl, vo, ve, r4, s4, (((Mid.of hB).trans (Mid.onto o2)).trans (Mid.onto o3)).trans (Mid.onto o4)⟩
 ·have HQ : Hid (s.closed co fin = { s with m := { s.m with t := TA, k := fin } }) := show _ = _ by unfold St.closed; rw [hTA, if_neg hrd]
  clear hTA
  go_enter Tryz.func54, Tryz.ntmps54
  go_wp2_with fail
  refine region_var (by kernel_rfl) (by kernel_rfl) 14 15 2 (by decide) (by decide) rfl rfl (by kernel_rfl) (by decide) (by kernel_rfl) 26 #[.int .i64 0, .int .i64 0, .int .i64 0, .int .i64 0] #[.int .i64 TA.c, .int .i64 TA.v, .int .i64 TA.s, .int .i64 TA.m] rfl [.pointer (some ⟨g, 0, none⟩), .pointer (some ⟨g, 0, none⟩), .pointer (some ⟨g, 0, none⟩), .pointer (some ⟨g, 0, none⟩), .pointer (some ⟨g, 14, none⟩), s.m.t.val, .pointer (some ⟨g, 0, none⟩), .pointer (some ⟨g, 0, none⟩), .pointer (some ⟨g, 29, none⟩), .int .i64 co, .tuple #[TA.val, .int .i64 RD], .tuple #[TA.val, .int .i64 RD], TA.val, .int .i64 RD, undef, undef, .int .i64 RD] ?step ?alloc ?store ?done
  case step =>
   intro L ix o' A W hn1 hn2 hj hI hB hd
   have hin : ix < 17 := by
    by_cases hl : ix < 17
    ·exact hl
    ·simp [hl] at hj
   have hsz : A.tmps.size = 37 := hI.size
   rcases ix with _ | _ | _ | _ | _ | _ | _ | _ | _ | _ | _ | _ | _ | _ | _ | _ | _ | ix
   ·cases hj; exact at_op rfl rfl (move_op rfl ⟨_, rfl, hI.old 0 (by kernel_rfl), Below.refl _ _⟩)
   ·cases hj; exact at_op rfl rfl (nil_op rfl (hI.valV hd 0 5 rfl rfl (by kernel_rfl) (by decide) (by decide)) ⟨_, rfl, rfl, Below.refl _ _⟩)
   ·cases hj; exact at_op rfl rfl (one_op (hI.valV hd 1 6 rfl rfl (by kernel_rfl) (by decide) (by decide)) rfl (by kernel_rfl) ⟨_, rfl, rfl, Below.refl _ _⟩)
   ·cases hj; exact at_op rfl rfl (one_op (hI.valV hd 2 7 rfl rfl (by kernel_rfl) (by decide) (by decide)) rfl (by kernel_rfl) ⟨_, rfl, rfl, Below.refl _ _⟩)
   ·cases hj; exact at_op rfl rfl (one_op (hI.valV hd 3 8 rfl rfl (by kernel_rfl) (by decide) (by decide)) rfl (by kernel_rfl) ⟨_, rfl, rfl, Below.refl _ _⟩)
   ·cases hj
    have e0 : A.eval (.tmp 9) = .pointer (some ⟨g, 14, none⟩) := hI.valV hd 4 9 rfl rfl (by kernel_rfl) (by decide) (by decide)
    exact at_op rfl rfl (ldT_op rfl e0 (h.below hB) ⟨_, rfl, rfl, Below.refl _ _⟩)
   ·cases hj; exact at_op rfl rfl (move_op rfl ⟨_, rfl, hI.old 0 (by kernel_rfl), Below.refl _ _⟩)
   ·cases hj; exact at_op rfl rfl (nil_op rfl (hI.valV hd 6 11 rfl rfl (by kernel_rfl) (by decide) (by decide)) ⟨_, rfl, rfl, Below.refl _ _⟩)
   ·cases hj; exact at_op rfl rfl (one_op (hI.valV hd 7 12 rfl rfl (by kernel_rfl) (by decide) (by decide)) rfl (by kernel_rfl) ⟨_, rfl, rfl, Below.refl _ _⟩)
   ·cases hj
    have e0 : A.eval (.tmp 13) = .pointer (some ⟨g, 29, none⟩) := hI.valV hd 8 13 rfl rfl (by kernel_rfl) (by decide) (by decide)
    exact at_op rfl rfl (load_op rfl Tryz.underlying2 e0 (gc (h.below hB)).co ⟨_, rfl, rfl, Below.refl _ _⟩)
   ·cases hj
    have e0 : A.eval (.tmp 10) = s.m.t.val := hI.valV hd 5 10 rfl rfl (by kernel_rfl) (by decide) (by decide)
    have e1 : A.eval (.tmp 14) = .int .i64 co := hI.valV hd 9 14 rfl rfl (by kernel_rfl) (by decide) (by decide)
    refine at_op rfl rfl (call_op rfl Tryz.func120 (by kernel_rfl) (by kernel_rfl) ?_)
    simp only [List.map_cons, List.map_nil, e0, e1]
    refine (timerAfter_impl s.m.t co _).mono ?_
    rw [HT.out]
    rintro e W1 ⟨rfl, hb⟩
    exact ⟨_, rfl, _, rfl, rfl, hb⟩
   ·cases hj; exact at_op rfl rfl (move_op rfl ⟨_, rfl, hI.valV hd 10 15 rfl rfl (by kernel_rfl) (by decide) (by decide), Below.refl _ _⟩)
   ·cases hj; exact at_op rfl rfl (one_op (hI.valV hd 11 4 rfl rfl (by kernel_rfl) (by decide) (by decide)) rfl (by kernel_rfl) ⟨_, rfl, rfl, Below.refl _ _⟩)
   ·cases hj; exact at_op rfl rfl (one_op (hI.valV hd 11 4 rfl rfl (by kernel_rfl) (by decide) (by decide)) rfl (by kernel_rfl) ⟨_, rfl, rfl, Below.refl _ _⟩)
   ·exact absurd rfl hn1
   ·exact absurd rfl hn2
   ·cases hj; exact at_op rfl rfl (assign_op rfl ⟨_, rfl, hI.valV hd 13 17 rfl rfl (by kernel_rfl) (by decide) (by decide), Below.refl _ _⟩)
   omega
  case alloc =>
   intro o' A W hj
   cases hj
   exact at_op rfl rfl (alT_op rfl ⟨rfl, rfl⟩)
  case store =>
   intro L o' A W b cs hj hI hd eb hr hn
   cases hj
   have e0 : A.eval (.tmp 16) = TA.val := hI.valV hd 12 16 rfl rfl (by kernel_rfl) (by decide) (by decide)
   exact at_op rfl rfl (stRow_op rfl eb e0 hr info_t hn (by simp [Value.oneCell']) (fun W2 r2 o2 => ⟨rfl, r2, o2⟩))
  case done =>
   intro A W b hI hB eb hr hb
   have s3 : A.tmps.getD 3 undef = .int .i64 RD := hI.lastV 16 3 rfl (by decide) (by decide)
   have hA := hI.frame [5, 6, 7, 8, 9, 10, 11, 12, 13, 14, 15, 4, 16, 17, 2, 3] (by kernel_rfl)
   rw [hA]
   simp only [putAll, List.foldl_cons, List.foldl_nil, eb, s3, Act.put, List.setIfInBounds_toArray, List.set_cons_zero, List.set_cons_succ]
   clear hA hI eb s3
   have r1 := h.below hB
   have s1 := hs.below hB
   go_wp2_with (first
    | (refine ld_tt rfl rfl rfl hr ?_)
    | (refine st_gt rfl rfl rfl rfl r1 ?_; rintro w2 r2 o2 -; have s2 := (s1.row o2 r1 plain_g (by decide)).as (s' := { s with m := { s.m with t := TA } }) rfl rfl rfl rfl; have kf2 := (gc r2).fin)
    | (refine st_gn (s' := { s with m := { s.m with t := TA, k := fin } }) rfl rfl rfl rfl r2 rfl rfl ?_; rintro w4 r4 o4 -; have s4 := (s2.row o4 r2 plain_g (by decide)).as (s' := { s with m := { s.m with t := TA, k := fin } }) rfl rfl rfl rfl))
   refine ret_unit rfl rfl ?_
   rw [HQ.out]
   exact ⟨rfl, vo, ve, r4, s4, ((Mid.of hB).trans (Mid.onto o2)).trans (Mid.onto o4)⟩
end
end Go.Proofs.YtghmkacamabndaaGreatDoor.Mem
namespace Go.Proofs.YtghmkacamabndaaGreatDoor.Mem
open Go.ChangeShapes Go.WideShapes Go.RowKit Base Num Slc Slf Rw Tmr Reg

def fnv (f : FuncId) : Value := .func (.func f) #[] #[]
section
variable {ops : Array Oper} {rest : List Oper} {o : Oper} {a : Act} {w : World} {K : Act → World → Prop} {Q : Exit → Act → World → Prop} {f : FuncId} {fn : Func} {x : Operand} {tys : Array TypeId}
theorem callv_op {args : List Operand} (ho : o.op = .call { callee := .value x, args := args.toArray, argTypes := tys }) (hx : a.eval x = fnv f) (hf : Tryz.prog.funcs[f]? = some fn) (hn : (fn.name == "runtime.NumGoroutine") = false) (hb : fn.body.isNone = false)
  (h : Calls Tryz.prog f (args.map a.eval).toArray w fun e w' => ∃ v, e = .returned v ∧ K (a.put o.dst v) w') : o.wp Tryz.prog a w K Q := by
 unfold Oper.wp execOp
 have hn' : ¬ fn.name = "runtime.NumGoroutine" := by simpa using hn
 have hb' : ¬ fn.body = none := fun e => by simp [e] at hb
 have e : (do let d ← resolve a.eval { callee := .value x, args := args.toArray, argTypes := tys } o.type; invoke d.target d.args : Sem Next).run Tryz.prog w = .ok (.enter f (args.map a.eval).toArray) w := by
  simp [resolve, hx, fnv, Deferred.ofValue, invoke, callFunc, hf, hn', hb']
 rw [ho]
 show o.upon Tryz.prog a _ Q ((do let d ← resolve a.eval { callee := .value x, args := args.toArray, argTypes := tys } o.type; invoke d.target d.args : Sem Next).run Tryz.prog w)
 rw [e, Oper.upon_enter]
 refine h.mono ?_
 rintro e w' ⟨v, rfl, hk⟩
 exact hk
theorem callv {args : List Operand} (hgd : o.guard = none) (ho : o.op = .call { callee := .value x, args := args.toArray, argTypes := tys }) (hx : a.eval x = fnv f) (hf : Tryz.prog.funcs[f]? = some fn) (hn : (fn.name == "runtime.NumGoroutine") = false) (hb : fn.body.isNone = false)
  (h : Calls Tryz.prog f (args.map a.eval).toArray w fun e w' => ∃ v, e = .returned v ∧ wpList Tryz.prog ops Q rest (a.put o.dst v) w') : wpList Tryz.prog ops Q (o :: rest) a w :=
 wpList_plain hgd fun K' hK => callv_op ho hx hf hn hb (h.mono fun e w' ⟨v, hv, hk⟩ => ⟨v, hv, hK _ _ hk⟩)
end
def cmp3 (a b : Int) : Int := if a < b then -1 else if b < a then 1 else 0
def ord (a b : M3) : Int := if cmp3 a.t b.t = 0 then cmp3 a.k b.k else cmp3 a.t b.t
theorem ord_neg (a b : M3) : decide (ord a b < 0) = later b a := by
 rw [Bool.eq_iff_iff]
 unfold ord cmp3 later
 simp only [decide_eq_true_eq, Bool.or_eq_true, Bool.and_eq_true, beq_iff_eq]
 repeat' split
 all_goals omega
theorem isNaN_any (n : Int) (w : World) : Calls Tryz.prog 180 #[.int .i64 n] w fun e w' => e = .returned (.bool false) ∧ w' = w := by
 go_enter Tryz.func180, Tryz.ntmps180
 go_wp2
 go_ret
 exact ⟨ret_bool (by simp), rfl⟩
theorem compare_any (a b : Int) (w : World) : Calls Tryz.prog 136 #[.int .i64 a, .int .i64 b] w fun e w' => e = .returned (.int .i64 (cmp3 a b)) ∧ w' = w := by
 have HC : Hid (cmp3 a b = if a < b then -1 else if b < a then 1 else 0) := show _ = _ from rfl
 generalize cmp3 a b = r at HC ⊢
 by_cases h1 : a < b
 ·go_enter Tryz.func136, Tryz.ntmps136
  go_wp2_with (go_at_call 180; refine (isNaN_any _ _).mono ?_; rintro e w1 ⟨rfl, rfl⟩)
  go_ret
  exact ⟨ret_int (by rw [HC.out]; split <;> (try split) <;> omega), rfl⟩
 ·by_cases h2 : b < a
  ·go_enter Tryz.func136, Tryz.ntmps136
   go_wp2_with (go_at_call 180; refine (isNaN_any _ _).mono ?_; rintro e w1 ⟨rfl, rfl⟩)
   go_ret
   exact ⟨ret_int (by rw [HC.out]; split <;> (try split) <;> omega), rfl⟩
  ·go_enter Tryz.func136, Tryz.ntmps136
   go_wp2_with (go_at_call 180; refine (isNaN_any _ _).mono ?_; rintro e w1 ⟨rfl, rfl⟩)
   go_ret
   exact ⟨ret_int (by rw [HC.out]; split <;> (try split) <;> omega), rfl⟩
def KTwo (x y : Int) (v : Value) (w : World) : Prop := ∃ b, v = .slice (some ⟨b, 0, none⟩) 2 2 ∧ w.cell? ⟨b, 0, none⟩ = some (.int .i64 x) ∧ w.cell? ⟨b, 1, none⟩ = some (.int .i64 y)
theorem bears_two (x y : Int) : Bears (fun _ => False) (KTwo x y) := fun v w w' ⟨b, e, h0, h1⟩ hr => by
 have hb := hr.2 b id (cell_lt h0)
 exact ⟨b, e, by rw [World.cell?_of_block (w := w) (a := ⟨b, 0, none⟩) hb]; exact h0, by rw [World.cell?_of_block (w := w) (a := ⟨b, 1, none⟩) hb]; exact h1⟩
theorem or_two (x y : Int) (b : Nat) (w : World) (h0 : w.cell? ⟨b, 0, none⟩ = some (.int .i64 x)) (h1 : w.cell? ⟨b, 1, none⟩ = some (.int .i64 y)) :
  Calls Tryz.prog 135 #[.slice (some ⟨b, 0, none⟩) 2 2] w fun e w' => e = .returned (.int .i64 (if x = 0 then y else x)) ∧ w' = w := by
 by_cases hx : x = 0
 ·rw [if_pos hx]
  by_cases hy : y = 0
  ·subst hx hy
   go_enter Tryz.func135, Tryz.ntmps135
   go_wp2
   refine wp_loop_rounds 3 ?_
   rw [rounds_succ]
   go_wp2
   rw [rounds_succ]
   go_wp2
   rw [rounds_succ]
   go_wp2
   go_ret
   exact ⟨rfl, rfl⟩
  ·subst hx
   have hy' : (y != 0) = true := by simpa using hy
   go_enter Tryz.func135, Tryz.ntmps135
   go_wp2
   refine wp_loop_rounds 2 ?_
   rw [rounds_succ]
   go_wp2
   rw [rounds_succ]
   go_wp2
   go_ret
   exact ⟨rfl, rfl⟩
 ·rw [if_neg hx]
  have hx' : (x != 0) = true := by simpa using hx
  go_enter Tryz.func135, Tryz.ntmps135
  go_wp2
  refine wp_loop_rounds 1 ?_
  rw [rounds_succ]
  go_wp2
  go_ret
  exact ⟨rfl, rfl⟩
structure Gt (w : World) (g0 g1 : Nat) (a b : M3) (W : World) : Prop where
 ra : M3Row W g0 a
 rb : M3Row W g1 b
 bel : Below w.heap.size w W
theorem Gt.below {w W W' : World} {g0 g1 : Nat} {a b : M3} (h : Gt w g0 g1 a b W) (hb : Below W.heap.size W W') : Gt w g0 g1 a b W' := ⟨h.ra.below hb, h.rb.below hb, below_more h.bel hb⟩
theorem Gt.drew {w W : World} {g0 g1 : Nat} {a b : M3} (h : Gt w g0 g1 a b W) : Gt w g0 g1 a b W.drew := h.below (drew_below (n := 1) rfl)
theorem infoI : (Tryz.prog.info? 3).map (fun i => (i.zero, i.size, i.bytes)) = some (some (.int .i64 0), 1, 8) := by kernel_rfl
theorem undI : Tryz.prog.underlying 182 = some (.slice 3) := by kernel_rfl
theorem byTime_impl (a b : M3) (w : World) : Calls Tryz.prog 65 #[a.val, b.val] w fun e w' => e = .returned (.int .i64 (ord a b)) ∧ Below w.heap.size w w' := by
 obtain ⟨va, hva⟩ : ∃ va, va = a.val := ⟨_, rfl⟩
 obtain ⟨vb, hvb⟩ : ∃ vb, vb = b.val := ⟨_, rfl⟩
 rw [← hva, ← hvb]
 go_enter Tryz.func65, Tryz.ntmps65
 go_wp2_with (first
  | (refine box_m3 rfl rfl hva ?_; intro w0 r0 hB0)
  | (refine box_m3 rfl rfl hvb ?_; intro w1 r1 hB1; have hG : Gt w w.heap.size w0.heap.size a b w1 := ⟨r0.below hB1, r1, below_more hB0 hB1⟩))
 refine region_by (by kernel_rfl) (by kernel_rfl) (fun W => Gt w w.heap.size w0.heap.size a b W) (kinds [KIs (.pointer (some ⟨w.heap.size, 0, none⟩)), KIs (.int .i64 (a.t)), KIs (.pointer (some ⟨w0.heap.size, 0, none⟩)), KIs (.int .i64 (b.t)), KIs (.int .i64 (cmp3 a.t b.t)), KIs (.pointer (some ⟨w.heap.size, 1, none⟩)), KIs (.int .i64 (a.k)), KIs (.pointer (some ⟨w0.heap.size, 1, none⟩)), KIs (.int .i64 (b.k)), KIs (.int .i64 (cmp3 a.k b.k)), KTwo (cmp3 a.t b.t) (cmp3 a.k b.k), KIs (.int .i64 (ord a b)), KIs (.int .i64 (ord a b))]) (Rel fun _ => False) (by kernel_rfl) (kinds_mono ?mono) hG.drew ?step ?done
 case mono =>
  intro K hK
  simp only [List.mem_cons, List.not_mem_nil, or_false] at hK
  rcases hK with rfl | rfl | rfl | rfl | rfl | rfl | rfl | rfl | rfl | rfl | rfl | rfl | rfl
  all_goals first | exact bears_is _ _ | exact bears_two _ _
 case step =>
  intro L ix o' A W hj hI hL hd
  have hin : ix < 13 := by
   by_cases hl : ix < 13
   ·exact hl
   ·simp [hl] at hj
  have hsz : A.tmps.size = 17 := hI.size
  have hg := hI.g
  rcases ix with _ | _ | _ | _ | _ | _ | _ | _ | _ | _ | _ | _ | _ | ix
  ·cases hj; exact at_op rfl rfl (one_op (x := .tmp 2) (hI.old 2 (by kernel_rfl)) rfl (by kernel_rfl) ⟨_, rfl, rfl, hg, Rel.refl _ _⟩)
  ·cases hj
   have e0 : A.eval (.tmp 5) = .pointer (some ⟨w.heap.size, 0, none⟩) := hI.get hd 0 5 rfl (by kernel_rfl)
   exact at_op rfl rfl (load_op rfl Tryz.underlying2 e0 (hg.ra.cell 0) ⟨_, rfl, rfl, hg, Rel.refl _ _⟩)
  ·cases hj; exact at_op rfl rfl (one_op (x := .tmp 3) (hI.old 3 (by kernel_rfl)) rfl (by kernel_rfl) ⟨_, rfl, rfl, hg, Rel.refl _ _⟩)
  ·cases hj
   have e0 : A.eval (.tmp 7) = .pointer (some ⟨w0.heap.size, 0, none⟩) := hI.get hd 2 7 rfl (by kernel_rfl)
   exact at_op rfl rfl (load_op rfl Tryz.underlying2 e0 (hg.rb.cell 0) ⟨_, rfl, rfl, hg, Rel.refl _ _⟩)
  ·cases hj
   have e0 : A.eval (.tmp 6) = .int .i64 (a.t) := hI.get hd 1 6 rfl (by kernel_rfl)
   have e1 : A.eval (.tmp 8) = .int .i64 (b.t) := hI.get hd 3 8 rfl (by kernel_rfl)
   refine at_op rfl rfl (call_op rfl Tryz.func136 (by kernel_rfl) (by kernel_rfl) ?_)
   simp only [List.map_cons, List.map_nil, e0, e1]
   refine (compare_any _ _ _).mono ?_
   rintro e W1 ⟨rfl, rfl⟩
   exact ⟨_, rfl, _, rfl, rfl, hg, Rel.refl _ _⟩
  ·cases hj; exact at_op rfl rfl (one_op (x := .tmp 2) (hI.old 2 (by kernel_rfl)) rfl (by kernel_rfl) ⟨_, rfl, rfl, hg, Rel.refl _ _⟩)
  ·cases hj
   have e0 : A.eval (.tmp 10) = .pointer (some ⟨w.heap.size, 1, none⟩) := hI.get hd 5 10 rfl (by kernel_rfl)
   exact at_op rfl rfl (load_op rfl Tryz.underlying2 e0 (hg.ra.cell 1) ⟨_, rfl, rfl, hg, Rel.refl _ _⟩)
  ·cases hj; exact at_op rfl rfl (one_op (x := .tmp 3) (hI.old 3 (by kernel_rfl)) rfl (by kernel_rfl) ⟨_, rfl, rfl, hg, Rel.refl _ _⟩)
  ·cases hj
   have e0 : A.eval (.tmp 12) = .pointer (some ⟨w0.heap.size, 1, none⟩) := hI.get hd 7 12 rfl (by kernel_rfl)
   exact at_op rfl rfl (load_op rfl Tryz.underlying2 e0 (hg.rb.cell 1) ⟨_, rfl, rfl, hg, Rel.refl _ _⟩)
  ·cases hj
   have e0 : A.eval (.tmp 11) = .int .i64 (a.k) := hI.get hd 6 11 rfl (by kernel_rfl)
   have e1 : A.eval (.tmp 13) = .int .i64 (b.k) := hI.get hd 8 13 rfl (by kernel_rfl)
   refine at_op rfl rfl (call_op rfl Tryz.func136 (by kernel_rfl) (by kernel_rfl) ?_)
   simp only [List.map_cons, List.map_nil, e0, e1]
   refine (compare_any _ _ _).mono ?_
   rintro e W1 ⟨rfl, rfl⟩
   exact ⟨_, rfl, _, rfl, rfl, hg, Rel.refl _ _⟩
  ·cases hj
   have e0 : A.eval (.tmp 9) = .int .i64 (cmp3 a.t b.t) := hI.get hd 4 9 rfl (by kernel_rfl)
   have e1 : A.eval (.tmp 14) = .int .i64 (cmp3 a.k b.k) := hI.get hd 9 14 rfl (by kernel_rfl)
   refine at_op rfl rfl (lit_op (vals := [(0, .int .i64 (cmp3 a.t b.t)), (1, .int .i64 (cmp3 a.k b.k))]) (cs := #[.int .i64 (cmp3 a.t b.t), .int .i64 (cmp3 a.k b.k)]) rfl undI infoI (by simp only [List.map_cons, List.map_nil, e0, e1]) (by omega) (by omega) (by kernel_rfl) ?_)
   exact ⟨_, rfl, ⟨W.heap.size, rfl, by rw [World.cell?_alloc_new]; rfl, by rw [World.cell?_alloc_new]; rfl⟩, hg.below ((Below.refl _ _).alloc (Nat.le_refl _) _), Rel.alloc _ _ _⟩
  ·cases hj
   have e0 : (KTwo (cmp3 a.t b.t) (cmp3 a.k b.k)) (A.eval (.tmp 15)) W := hI.get hd 10 15 rfl (by kernel_rfl)
   obtain ⟨bb, e1, h0, h1⟩ := e0
   refine at_op rfl rfl (call_op rfl Tryz.func135 (by kernel_rfl) (by kernel_rfl) ?_)
   simp only [List.map_cons, List.map_nil, e1]
   refine (or_two _ _ bb _ h0 h1).mono ?_
   rintro e W1 ⟨rfl, rfl⟩
   exact ⟨_, rfl, _, rfl, rfl, hg, Rel.refl _ _⟩
  ·cases hj; exact at_op rfl rfl (assign_op rfl ⟨_, rfl, hI.get hd 11 16 rfl (by kernel_rfl), hg, Rel.refl _ _⟩)
  omega
 case done =>
  intro A W hI
  have hg := hI.g
  have s4 : A.tmps.getD 4 undef = .int .i64 (ord a b) := hI.slot 12 4 rfl rfl
  have hA := hI.frame [5, 6, 7, 8, 9, 10, 11, 12, 13, 14, 15, 16, 4] (by kernel_rfl)
  rw [hA]
  simp only [putAll, List.foldl_cons, List.foldl_nil, s4, Act.put, List.setIfInBounds_toArray, List.set_cons_zero, List.set_cons_succ]
  clear hA hI s4
  go_wp2
  go_ret
  exact ⟨rfl, hg.bel⟩
theorem arrivalOk_impl (n : Int) (w : World) : Calls Tryz.prog 133 #[.int .i64 n] w fun e w' => e = .returned (.bool (inn n 0 1000000100)) ∧ w' = w := by
 by_cases h0 : 0 ≤ n
 ·go_enter Tryz.func133, Tryz.ntmps133
  go_wp2
  go_ret
  exact ⟨ret_bool (by simp [inn, h0]), rfl⟩
 ·go_enter Tryz.func133, Tryz.ntmps133
  go_wp2
  go_ret
  exact ⟨ret_bool (by rw [Bool.eq_iff_iff]; simp [inn]; omega), rfl⟩
theorem bit_impl (n : Int) (w : World) : Calls Tryz.prog 134 #[.int .i64 n] w fun e w' => e = .returned (.bool (inn n 0 1)) ∧ w' = w := by
 by_cases h0 : n = 0
 ·subst h0
  go_enter Tryz.func134, Tryz.ntmps134
  go_wp2
  go_ret
  exact ⟨rfl, rfl⟩
 ·go_enter Tryz.func134, Tryz.ntmps134
  go_wp2
  go_ret
  exact ⟨ret_bool (by rw [Bool.eq_iff_iff]; simp [inn]; omega), rfl⟩
theorem msgWrong_impl (m : M3) (w : World) : Calls Tryz.prog 63 #[m.val] w fun e w' => e = .returned (.bool (!m.ok)) ∧ Below w.heap.size w w' := by
 obtain ⟨vv, hvv⟩ : ∃ vv, vv = m.val := ⟨_, rfl⟩
 have HO : Hid (m.ok = (inn m.t 0 1000000100 && (if m.k = 1 ∨ m.k = 2 then inn m.v 0 1 else if m.k = 3 then bok m.v else false))) := show _ = _ from rfl
 rw [← hvv]
 cases h0 : inn m.t 0 1000000100
 ·go_enter Tryz.func63, Tryz.ntmps63
  go_wp2_with (first
   | (refine box_m3 rfl rfl hvv ?_; intro w0 r0 hB0; have c0 : w0.cell? ⟨w.heap.size, 0, none⟩ = some (.int .i64 m.t) := r0.cell 0)
   | (go_at_call 133; refine (arrivalOk_impl _ _).mono ?_; rintro e w2 ⟨rfl, rfl⟩; rw [h0]))
  go_ret
  exact ⟨ret_bool (by rw [HO.out, h0]; rfl), hB0⟩
 ·by_cases k1 : m.k = 1
  ·go_enter Tryz.func63, Tryz.ntmps63
   go_wp2_with (first
    | (refine box_m3 rfl rfl hvv ?_; intro w0 r0 hB0; have c0 : w0.cell? ⟨w.heap.size, 0, none⟩ = some (.int .i64 m.t) := r0.cell 0; have c1 : w0.cell? ⟨w.heap.size, 1, none⟩ = some (.int .i64 m.k) := r0.cell 1; rw [k1] at c1; have c2 : w0.cell? ⟨w.heap.size, 2, none⟩ = some (.int .i64 m.v) := r0.cell 2)
    | (go_at_call 133; refine (arrivalOk_impl _ _).mono ?_; rintro e w2 ⟨rfl, rfl⟩; rw [h0])
    | (go_at_call 134; refine (bit_impl _ _).mono ?_; rintro e w2 ⟨rfl, rfl⟩))
   go_ret
   exact ⟨ret_bool (by rw [HO.out, h0, if_pos (.inl k1)]; simp), hB0⟩
  by_cases k2 : m.k = 2
  ·go_enter Tryz.func63, Tryz.ntmps63
   go_wp2_with (first
    | (refine box_m3 rfl rfl hvv ?_; intro w0 r0 hB0; have c0 : w0.cell? ⟨w.heap.size, 0, none⟩ = some (.int .i64 m.t) := r0.cell 0; have c1 : w0.cell? ⟨w.heap.size, 1, none⟩ = some (.int .i64 m.k) := r0.cell 1; rw [k2] at c1; have c2 : w0.cell? ⟨w.heap.size, 2, none⟩ = some (.int .i64 m.v) := r0.cell 2)
    | (go_at_call 133; refine (arrivalOk_impl _ _).mono ?_; rintro e w2 ⟨rfl, rfl⟩; rw [h0])
    | (go_at_call 134; refine (bit_impl _ _).mono ?_; rintro e w2 ⟨rfl, rfl⟩))
   go_ret
   exact ⟨ret_bool (by rw [HO.out, h0, if_pos (.inr k2)]; simp), hB0⟩
  by_cases k3 : m.k = 3
  ·go_enter Tryz.func63, Tryz.ntmps63
   go_wp2_with (first
    | (refine box_m3 rfl rfl hvv ?_; intro w0 r0 hB0; have c0 : w0.cell? ⟨w.heap.size, 0, none⟩ = some (.int .i64 m.t) := r0.cell 0; have c1 : w0.cell? ⟨w.heap.size, 1, none⟩ = some (.int .i64 m.k) := r0.cell 1; rw [k3] at c1; have c2 : w0.cell? ⟨w.heap.size, 2, none⟩ = some (.int .i64 m.v) := r0.cell 2)
    | (go_at_call 133; refine (arrivalOk_impl _ _).mono ?_; rintro e w2 ⟨rfl, rfl⟩; rw [h0])
    | (go_at_call 75; refine (byteOk_impl _ _).mono ?_; rintro e w2 ⟨rfl, rfl⟩))
   go_ret
   exact ⟨ret_bool (by rw [HO.out, h0, if_neg (by omega), if_pos k3]; simp), hB0⟩
  have b1 : (m.k == 1) = false := by simpa using k1
  have b2 : (m.k == 2) = false := by simpa using k2
  have b3 : (m.k == 3) = false := by simpa using k3
  go_enter Tryz.func63, Tryz.ntmps63
  go_wp2_with (first
   | (refine box_m3 rfl rfl hvv ?_; intro w0 r0 hB0; have c0 : w0.cell? ⟨w.heap.size, 0, none⟩ = some (.int .i64 m.t) := r0.cell 0; have c1 : w0.cell? ⟨w.heap.size, 1, none⟩ = some (.int .i64 m.k) := r0.cell 1; have c2 : w0.cell? ⟨w.heap.size, 2, none⟩ = some (.int .i64 m.v) := r0.cell 2)
   | (go_at_call 133; refine (arrivalOk_impl _ _).mono ?_; rintro e w2 ⟨rfl, rfl⟩; rw [h0]))
  go_ret
  exact ⟨ret_bool (by rw [HO.out, h0, if_neg (by omega), if_neg k3]; simp), hB0⟩
theorem indexWrong_impl (v : Value) (l : List M3) (w : World) (h : SlF fM w v l) :
  Calls Tryz.prog 138 #[v, fnv 63] w fun e w' => ∃ z : Int, e = .returned (.int .i64 z) ∧ decide (0 ≤ z) = l.any (fun m => !m.ok) ∧ Below w.heap.size w w' := by
 by_cases h0 : 0 < l.length
 ·obtain ⟨b, off, c, rfl, hbl, hlc, hcm⟩ := h.shape h0
  unfold maxLen at hcm
  have hG : Gi w (.slice (some ⟨b, off, none⟩) l.length c) l w := ⟨h, Below.refl _ _⟩
  clear h hbl
  go_enter Tryz.func138, Tryz.ntmps138
  go_wp2_with fail
  go_loopw [8] (fun i wr => ∃ k : Nat, k ≤ l.length ∧ i = .int .i64 k ∧ (∀ j, j < k → (M3.at' l j).ok = true) ∧ Gi w (.slice (some ⟨b, off, none⟩) l.length c) l wr) (fun i _ => l.length - (intOf i).toNat)
  case atStart => exact ⟨0, Nat.zero_le _, rfl, fun j hj => by omega, hG⟩
  case round =>
   clear hG
   obtain ⟨k, hk, rfl, hall, hG⟩ := hrel
   by_cases hlt : k < l.length
   ·cases hok : (M3.at' l k).ok
    ·have HF : Hid (l.any (fun m => !m.ok) = true) := show _ = _ by
      rw [List.any_eq_true]
      exact ⟨M3.at' l k, List.mem_of_getElem? (at_some hlt), by simp [hok]⟩
     clear hall
     go_wp2_with (first
      | (refine ixF okM (r := k) rfl rfl rfl rfl hlt ?_)
      | (refine elF okM rfl rfl rfl (hG.sl.range okM (at_some hlt)) ?_)
      | (refine callv (args := [.tmp 15]) rfl rfl rfl Tryz.func63 (by kernel_rfl) (by kernel_rfl) ?_; refine (msgWrong_impl (M3.at' l k) _).mono ?_; rintro e w1 ⟨rfl, hb1⟩; refine ⟨_, rfl, ?_⟩; rw [hok]))
     go_ret
     exact ⟨_, rfl, by rw [HF.out]; simp, below_more hG.bel hb1⟩
    ·have HK : Hid (∀ j, j < k + 1 → (M3.at' l j).ok = true) := show ∀ _, _ from fun j hj => by
      by_cases e : j = k
      ·rw [e]; exact hok
      ·exact hall j (by omega)
     clear hall
     go_wp2_with (first
      | (refine ixF okM (r := k) rfl rfl rfl rfl hlt ?_)
      | (refine elF okM rfl rfl rfl (hG.sl.range okM (at_some hlt)) ?_)
      | (refine callv (args := [.tmp 15]) rfl rfl rfl Tryz.func63 (by kernel_rfl) (by kernel_rfl) ?_; refine (msgWrong_impl (M3.at' l k) _).mono ?_; rintro e w1 ⟨rfl, hb1⟩; refine ⟨_, rfl, ?_⟩; rw [hok]))
     go_roundw
     case rel => exact ⟨k + 1, by omega, by go_num, HK.out, hG.below hb1⟩
     case measure => simp [intOf]; omega
   ·have HF : Hid (l.any (fun m => !m.ok) = false) := show _ = _ by
     rw [List.any_eq_false]
     intro x hx
     obtain ⟨j, hj, rfl⟩ := List.mem_iff_getElem.1 hx
     have := hall j (by omega)
     unfold M3.at' at this
     rw [List.getD_eq_getElem?_getD, List.getElem?_eq_getElem hj] at this
     simpa using this
    have hbel := hG.bel
    clear hall
    go_wp2
    go_ret
    exact ⟨_, rfl, by rw [HF.out]; simp, hbel⟩
 ·obtain ⟨a, cap, rfl, h1⟩ := h
  have hl : l = [] := List.eq_nil_of_length_eq_zero (by omega)
  subst hl
  go_enter Tryz.func138, Tryz.ntmps138
  go_wp2_with fail
  go_loopw [8] (fun i wr => i = .int .i64 0 ∧ wr = w) (fun i _ => 0)
  case atStart => exact ⟨rfl, rfl⟩
  case round =>
   obtain ⟨rfl, rfl⟩ := hrel
   go_wp2
   go_ret
   exact ⟨_, rfl, by simp, Below.refl _ _⟩
theorem containsWrong_impl (v : Value) (l : List M3) (w : World) (h : SlF fM w v l) :
  Calls Tryz.prog 70 #[v, fnv 63] w fun e w' => e = .returned (.bool (l.any (fun m => !m.ok))) ∧ Below w.heap.size w w' := by
 generalize hr : l.any (fun m => !m.ok) = r
 have HR : Hid (l.any (fun m => !m.ok) = r) := hr
 clear hr
 obtain ⟨fv, hfv⟩ : ∃ fv, fv = fnv 63 := ⟨_, rfl⟩
 rw [← hfv]
 go_enter Tryz.func70, Tryz.ntmps70
 go_wp2_with (go_at_call 138; rw [hfv]; refine (indexWrong_impl _ _ _ h).mono ?_; rintro e w1 ⟨z, rfl, hz, hb1⟩)
 go_ret
 exact ⟨ret_bool (by rw [← HR.out, ← hz]), hb1⟩
theorem sorted_impl (v : Value) (l : List M3) (w : World) (h : SlF fM w v l) :
  Calls Tryz.prog 71 #[v, fnv 65] w fun e w' => ∃ r : Bool, e = .returned (.bool r) ∧ (r = true ↔ ∀ i, i + 1 < l.length → later (M3.at' l i) (M3.at' l (i + 1)) = false) ∧ Below w.heap.size w w' := by
 by_cases h0 : 0 < l.length
 ·obtain ⟨b, off, c, rfl, hbl, hlc, hcm⟩ := h.shape h0
  unfold maxLen at hcm
  have hG : Gi w (.slice (some ⟨b, off, none⟩) l.length c) l w := ⟨h, Below.refl _ _⟩
  clear h hbl
  obtain ⟨fv, hfv⟩ : ∃ fv, fv = fnv 65 := ⟨_, rfl⟩
  rw [← hfv]
  have HV : Hid (fv = fnv 65) := hfv
  clear hfv
  go_enter Tryz.func71, Tryz.ntmps71
  go_wp2_with fail
  go_loopw [5] (fun i wr => ∃ k : Nat, k < l.length ∧ i = .int .i64 k ∧ (∀ j, k ≤ j → j + 1 < l.length → later (M3.at' l j) (M3.at' l (j + 1)) = false) ∧ Gi w (.slice (some ⟨b, off, none⟩) l.length c) l wr) (fun i _ => (intOf i).toNat)
  case atStart => exact ⟨l.length - 1, by omega, by rw [show ((l.length - 1 : Nat) : Int) = (l.length : Int) - 1 by omega], fun j hj hl => by omega, hG⟩
  case round =>
   clear hG
   obtain ⟨k, hk, rfl, hall, hG⟩ := hrel
   rcases k with _ | j
   ·have HF : Hid (∀ i, i + 1 < l.length → later (M3.at' l i) (M3.at' l (i + 1)) = false) := show ∀ _, _ from fun i hi => hall i (by omega) hi
    have hbel := hG.bel
    clear hall
    go_wp2
    go_ret
    exact ⟨true, rfl, ⟨fun _ => HF.out, fun _ => rfl⟩, hbel⟩
   ·cases hlt : later (M3.at' l j) (M3.at' l (j + 1))
    ·have hn : ¬ ord (M3.at' l (j + 1)) (M3.at' l j) < 0 := by
      have := ord_neg (M3.at' l (j + 1)) (M3.at' l j)
      rw [hlt] at this
      simpa using this
     have HK : Hid (∀ i, j ≤ i → i + 1 < l.length → later (M3.at' l i) (M3.at' l (i + 1)) = false) := show ∀ _, _ from fun i h1 h2 => by
      by_cases e : i = j
      ·rw [e]; exact hlt
      ·exact hall i (by omega) h2
     clear hall hlt
     go_wp2_with fail
     refine region_known (by kernel_rfl) (by kernel_rfl) 0 (by decide) (by kernel_rfl) (fun _ W => Gi w (.slice (some ⟨b, off, none⟩) l.length c) l W) [fv, .slice (some ⟨b, off, none⟩) l.length c, .int .i64 ((j + 1 : Nat) : Int), .pointer (some ⟨b, off + (j + 1) * 3, none⟩), (M3.at' l (j + 1)).val, .slice (some ⟨b, off, none⟩) l.length c, .int .i64 ((j + 1 : Nat) : Int), .int .i64 (j : Int), .pointer (some ⟨b, off + j * 3, none⟩), (M3.at' l j).val, .int .i64 (ord (M3.at' l (j + 1)) (M3.at' l j)), .bool false] hG.drew ?step ?done
     case step =>
      intro L ix o' A W hj hI hL hd
      have hin : ix < 12 := by
       by_cases hl : ix < 12
       ·exact hl
       ·simp [hl] at hj
      have hsz : A.tmps.size = 25 := hI.size
      have hg := hI.g
      rcases ix with _ | _ | _ | _ | _ | _ | _ | _ | _ | _ | _ | _ | ix
      ·cases hj; exact at_op rfl rfl (move_op rfl ⟨_, rfl, hI.old 1 (by kernel_rfl), hg⟩)
      ·cases hj; exact at_op rfl rfl (move_op rfl ⟨_, rfl, hI.old 0 (by kernel_rfl), hg⟩)
      ·cases hj; exact at_op rfl rfl (move_op rfl ⟨_, rfl, hI.old 5 (by kernel_rfl), hg⟩)
      ·cases hj
       have e0 : A.eval (.tmp 14) = .slice (some ⟨b, off, none⟩) l.length c := hI.val hd 1 14 rfl rfl (by kernel_rfl)
       have e1 : A.eval (.tmp 15) = .int .i64 ((j + 1 : Nat) : Int) := hI.val hd 2 15 rfl rfl (by kernel_rfl)
       exact at_op rfl rfl (ixF_op okM rfl e0 e1 (by omega) ⟨_, rfl, rfl, hg⟩)
      ·cases hj
       have e0 : A.eval (.tmp 16) = .pointer (some ⟨b, off + (j + 1) * 3, none⟩) := hI.val hd 3 16 rfl rfl (by kernel_rfl)
       exact at_op rfl rfl (elF_op okM rfl e0 (hg.sl.range okM (at_some (by omega))) ⟨_, rfl, rfl, hg⟩)
      ·cases hj; exact at_op rfl rfl (move_op rfl ⟨_, rfl, hI.old 0 (by kernel_rfl), hg⟩)
      ·cases hj; exact at_op rfl rfl (move_op rfl ⟨_, rfl, hI.old 5 (by kernel_rfl), hg⟩)
      ·cases hj
       have e0 : A.eval (.tmp 19) = .int .i64 ((j + 1 : Nat) : Int) := hI.val hd 6 19 rfl rfl (by kernel_rfl)
       exact at_op rfl rfl (bin_op (vy := .int .i64 1) rfl e0 rfl (fun w => by rw [show (j : Int) = ((j + 1 : Nat) : Int) - 1 from by omega]; exact subN _ _ _ _ w (by omega) (by omega)) ⟨_, rfl, rfl, hg⟩)
      ·cases hj
       have e0 : A.eval (.tmp 18) = .slice (some ⟨b, off, none⟩) l.length c := hI.val hd 5 18 rfl rfl (by kernel_rfl)
       have e1 : A.eval (.tmp 20) = .int .i64 (j : Int) := hI.val hd 7 20 rfl rfl (by kernel_rfl)
       exact at_op rfl rfl (ixF_op okM rfl e0 e1 (by omega) ⟨_, rfl, rfl, hg⟩)
      ·cases hj
       have e0 : A.eval (.tmp 21) = .pointer (some ⟨b, off + j * 3, none⟩) := hI.val hd 8 21 rfl rfl (by kernel_rfl)
       exact at_op rfl rfl (elF_op okM rfl e0 (hg.sl.range okM (at_some (by omega))) ⟨_, rfl, rfl, hg⟩)
      ·cases hj
       have e0 : A.eval (.tmp 13) = fv := hI.val hd 0 13 rfl rfl (by kernel_rfl)
       have e1 : A.eval (.tmp 17) = (M3.at' l (j + 1)).val := hI.val hd 4 17 rfl rfl (by kernel_rfl)
       have e2 : A.eval (.tmp 22) = (M3.at' l j).val := hI.val hd 9 22 rfl rfl (by kernel_rfl)
       refine at_op rfl rfl (callv_op (args := [.tmp 17, .tmp 22]) rfl (e0.trans HV.out) Tryz.func65 (by kernel_rfl) (by kernel_rfl) ?_)
       simp only [List.map_cons, List.map_nil, e1, e2]
       refine (byTime_impl _ _ _).mono ?_
       rintro e W1 ⟨rfl, hb⟩
       exact ⟨_, rfl, _, rfl, rfl, hg.below hb⟩
      ·cases hj
       have e0 : A.eval (.tmp 23) = .int .i64 (ord (M3.at' l (j + 1)) (M3.at' l j)) := hI.val hd 10 23 rfl rfl (by kernel_rfl)
       exact at_op rfl rfl (bin_op (vy := .int .i64 0) rfl e0 rfl (fun w => by first | (simp [go_sem, hn]; done) | (simp [go_sem]; omega)) ⟨_, rfl, rfl, hg⟩)
      omega
     case done =>
      intro A W hI
      have hg := hI.g
      have s24 : A.tmps.getD 24 undef = .bool false := hI.last 11 24 rfl
      have hA := hI.frame [13, 14, 15, 16, 17, 18, 19, 20, 21, 22, 23, 24] (by kernel_rfl)
      rw [hA]
      simp only [putAll, List.foldl_cons, List.foldl_nil, s24, Act.put, List.setIfInBounds_toArray, List.set_cons_zero, List.set_cons_succ]
      clear hA hI s24
      go_wp2
      go_roundw
      case rel => exact ⟨j, by omega, by go_num, HK.out, hg⟩
      case measure => simp [intOf]
    ·have hn : ord (M3.at' l (j + 1)) (M3.at' l j) < 0 := by
      have := ord_neg (M3.at' l (j + 1)) (M3.at' l j)
      rw [hlt] at this
      simpa using this
     have HK : Hid (¬ ∀ i, i + 1 < l.length → later (M3.at' l i) (M3.at' l (i + 1)) = false) := show ¬ _ from fun hh => by
      have := hh j (by omega)
      rw [hlt] at this
      cases this
     clear hall hlt
     go_wp2_with fail
     refine region_known (by kernel_rfl) (by kernel_rfl) 0 (by decide) (by kernel_rfl) (fun _ W => Gi w (.slice (some ⟨b, off, none⟩) l.length c) l W) [fv, .slice (some ⟨b, off, none⟩) l.length c, .int .i64 ((j + 1 : Nat) : Int), .pointer (some ⟨b, off + (j + 1) * 3, none⟩), (M3.at' l (j + 1)).val, .slice (some ⟨b, off, none⟩) l.length c, .int .i64 ((j + 1 : Nat) : Int), .int .i64 (j : Int), .pointer (some ⟨b, off + j * 3, none⟩), (M3.at' l j).val, .int .i64 (ord (M3.at' l (j + 1)) (M3.at' l j)), .bool true] hG.drew ?step ?done
     case step =>
      intro L ix o' A W hj hI hL hd
      have hin : ix < 12 := by
       by_cases hl : ix < 12
       ·exact hl
       ·simp [hl] at hj
      have hsz : A.tmps.size = 25 := hI.size
      have hg := hI.g
      rcases ix with _ | _ | _ | _ | _ | _ | _ | _ | _ | _ | _ | _ | ix
      ·cases hj; exact at_op rfl rfl (move_op rfl ⟨_, rfl, hI.old 1 (by kernel_rfl), hg⟩)
      ·cases hj; exact at_op rfl rfl (move_op rfl ⟨_, rfl, hI.old 0 (by kernel_rfl), hg⟩)
      ·cases hj; exact at_op rfl rfl (move_op rfl ⟨_, rfl, hI.old 5 (by kernel_rfl), hg⟩)
      ·cases hj
       have e0 : A.eval (.tmp 14) = .slice (some ⟨b, off, none⟩) l.length c := hI.val hd 1 14 rfl rfl (by kernel_rfl)
       have e1 : A.eval (.tmp 15) = .int .i64 ((j + 1 : Nat) : Int) := hI.val hd 2 15 rfl rfl (by kernel_rfl)
       exact at_op rfl rfl (ixF_op okM rfl e0 e1 (by omega) ⟨_, rfl, rfl, hg⟩)
      ·cases hj
       have e0 : A.eval (.tmp 16) = .pointer (some ⟨b, off + (j + 1) * 3, none⟩) := hI.val hd 3 16 rfl rfl (by kernel_rfl)
       exact at_op rfl rfl (elF_op okM rfl e0 (hg.sl.range okM (at_some (by omega))) ⟨_, rfl, rfl, hg⟩)
      ·cases hj; exact at_op rfl rfl (move_op rfl ⟨_, rfl, hI.old 0 (by kernel_rfl), hg⟩)
      ·cases hj; exact at_op rfl rfl (move_op rfl ⟨_, rfl, hI.old 5 (by kernel_rfl), hg⟩)
      ·cases hj
       have e0 : A.eval (.tmp 19) = .int .i64 ((j + 1 : Nat) : Int) := hI.val hd 6 19 rfl rfl (by kernel_rfl)
       exact at_op rfl rfl (bin_op (vy := .int .i64 1) rfl e0 rfl (fun w => by rw [show (j : Int) = ((j + 1 : Nat) : Int) - 1 from by omega]; exact subN _ _ _ _ w (by omega) (by omega)) ⟨_, rfl, rfl, hg⟩)
      ·cases hj
       have e0 : A.eval (.tmp 18) = .slice (some ⟨b, off, none⟩) l.length c := hI.val hd 5 18 rfl rfl (by kernel_rfl)
       have e1 : A.eval (.tmp 20) = .int .i64 (j : Int) := hI.val hd 7 20 rfl rfl (by kernel_rfl)
       exact at_op rfl rfl (ixF_op okM rfl e0 e1 (by omega) ⟨_, rfl, rfl, hg⟩)
      ·cases hj
       have e0 : A.eval (.tmp 21) = .pointer (some ⟨b, off + j * 3, none⟩) := hI.val hd 8 21 rfl rfl (by kernel_rfl)
       exact at_op rfl rfl (elF_op okM rfl e0 (hg.sl.range okM (at_some (by omega))) ⟨_, rfl, rfl, hg⟩)
      ·cases hj
       have e0 : A.eval (.tmp 13) = fv := hI.val hd 0 13 rfl rfl (by kernel_rfl)
       have e1 : A.eval (.tmp 17) = (M3.at' l (j + 1)).val := hI.val hd 4 17 rfl rfl (by kernel_rfl)
       have e2 : A.eval (.tmp 22) = (M3.at' l j).val := hI.val hd 9 22 rfl rfl (by kernel_rfl)
       refine at_op rfl rfl (callv_op (args := [.tmp 17, .tmp 22]) rfl (e0.trans HV.out) Tryz.func65 (by kernel_rfl) (by kernel_rfl) ?_)
       simp only [List.map_cons, List.map_nil, e1, e2]
       refine (byTime_impl _ _ _).mono ?_
       rintro e W1 ⟨rfl, hb⟩
       exact ⟨_, rfl, _, rfl, rfl, hg.below hb⟩
      ·cases hj
       have e0 : A.eval (.tmp 23) = .int .i64 (ord (M3.at' l (j + 1)) (M3.at' l j)) := hI.val hd 10 23 rfl rfl (by kernel_rfl)
       exact at_op rfl rfl (bin_op (vy := .int .i64 0) rfl e0 rfl (fun w => by first | (simp [go_sem, hn]; done) | (simp [go_sem]; omega)) ⟨_, rfl, rfl, hg⟩)
      omega
     case done =>
      intro A W hI
      have hg := hI.g
      have s24 : A.tmps.getD 24 undef = .bool true := hI.last 11 24 rfl
      have hA := hI.frame [13, 14, 15, 16, 17, 18, 19, 20, 21, 22, 23, 24] (by kernel_rfl)
      rw [hA]
      simp only [putAll, List.foldl_cons, List.foldl_nil, s24, Act.put, List.setIfInBounds_toArray, List.set_cons_zero, List.set_cons_succ]
      clear hA hI s24
      go_wp2
      go_ret
      exact ⟨false, rfl, ⟨fun h => (by cases h), fun h => absurd h HK.out⟩, hg.bel⟩
 ·obtain ⟨a, cap, rfl, h1⟩ := h
  have hl : l = [] := List.eq_nil_of_length_eq_zero (by omega)
  subst hl
  go_enter Tryz.func71, Tryz.ntmps71
  go_wp2_with fail
  go_loopw [5] (fun i wr => i = .int .i64 (-1) ∧ wr = w) (fun i _ => 0)
  case atStart => exact ⟨rfl, rfl⟩
  case round =>
   obtain ⟨rfl, rfl⟩ := hrel
   go_wp2
   go_ret
   exact ⟨true, rfl, ⟨fun _ i hi => by simp at hi, fun _ => rfl⟩, Below.refl _ _⟩
theorem any_wrong (l : List M3) : l.any (fun m => !m.ok) = false ↔ ∀ i, i < l.length → (M3.at' l i).ok = true := by
 rw [List.any_eq_false]
 constructor
 ·intro h i hi
  have := h (M3.at' l i) (List.mem_of_getElem? (at_some hi))
  simpa using this
 ·intro h x hx
  obtain ⟨j, hj, rfl⟩ := List.mem_iff_getElem.1 hx
  have := h j hj
  unfold M3.at' at this
  rw [List.getD_eq_getElem?_getD, List.getElem?_eq_getElem hj] at this
  simpa using this
theorem inboxOk_impl (v : Value) (l : List M3) (w : World) (h : SlF fM w v l) :
  Calls Tryz.prog 17 #[v] w fun e w' => e = .returned (.bool (inboxOk l)) ∧ Below w.heap.size w w' := by
 have HO : Hid (inboxOk l = true ↔ l.any (fun m => !m.ok) = false ∧ (∀ i, i + 1 < l.length → later (M3.at' l i) (M3.at' l (i + 1)) = false) ∧ l.length ≤ 200) := show _ ↔ _ by rw [fits_all, any_wrong]
 have hS : Hid (SlF fM w v l) := h
 obtain ⟨a, cap, rfl, -, hlc, hcm, -⟩ := h
 unfold maxLen at hcm
 by_cases hn : l.length ≤ 200
 ·cases hany : l.any (fun m => !m.ok)
  ·have HA : Hid (l.any (fun m => !m.ok) = false) := hany
   clear hany
   go_enter Tryz.func17, Tryz.ntmps17
   go_wp2_with (first
    | (go_at_call 70; refine (containsWrong_impl _ _ _ hS.out).mono ?_; rintro e w1 ⟨rfl, hb1⟩; rw [HA.out])
    | (go_at_call 71; refine (sorted_impl _ _ _ (hS.out.below hb1)).mono ?_; rintro e w2 ⟨r, rfl, hr, hb2⟩; have HR : Hid (r = true ↔ ∀ i, i + 1 < l.length → later (M3.at' l i) (M3.at' l (i + 1)) = false) := hr; clear hr))
   go_ret
   exact ⟨ret_bool (by rw [Bool.eq_iff_iff, HO.out, HR.out]; exact ⟨fun h => ⟨HA.out, h, hn⟩, fun h => h.2.1⟩), below_more hb1 hb2⟩
  ·have HA : Hid (l.any (fun m => !m.ok) = true) := hany
   have HF : Hid (inboxOk l = false) := show _ = _ by
    rw [Bool.eq_false_iff]
    intro e
    have := HO.out.1 e
    rw [hany] at this
    simp at this
   clear hany
   go_enter Tryz.func17, Tryz.ntmps17
   go_wp2_with (first
    | (go_at_call 70; refine (containsWrong_impl _ _ _ hS.out).mono ?_; rintro e w1 ⟨rfl, hb1⟩; rw [HA.out]))
   go_ret
   exact ⟨ret_bool HF.out.symm, hb1⟩
 ·have HF : Hid (inboxOk l = false) := show _ = _ by
   rw [Bool.eq_false_iff]
   intro e
   exact hn (HO.out.1 e).2.2
  go_enter Tryz.func17, Tryz.ntmps17
  go_wp2
  go_ret
  exact ⟨ret_bool HF.out.symm, Below.refl _ _⟩
end Go.Proofs.YtghmkacamabndaaGreatDoor.Mem
namespace Go.Proofs.YtghmkacamabndaaGreatDoor.Mem
open Go.ChangeShapes Go.WideShapes Go.RowKit Base Num Slc Slf Rw Tmr Reg

end Go.Proofs.YtghmkacamabndaaGreatDoor.Mem
namespace Go.Proofs.YtghmkacamabndaaGreatDoor.Mem
open Go.ChangeShapes Go.WideShapes Go.RowKit Base Num Slc Slf Rw Tmr Reg

section
variable {o : Oper} {a : Act} {w : World} {K : Act → World → Prop} {Q : Exit → Act → World → Prop} {x y z : Operand} {v : Value} {l : List M3} {k : Nat}
theorem lenM_op {ad : Option Addr} {n c : Nat} (ho : o.op = .call { callee := .builtin .len, args := #[x], argTypes := #[31] }) (hx : a.eval x = .slice ad n c) (h : K (a.put o.dst (.int .i64 (n : Int))) w) : o.wp Tryz.prog a w K Q := by
 refine val_op (v := .int .i64 (n : Int)) ?_ h
 clear h
 generalize a.eval = ev at hx ⊢
 unfold execOp
 simp only [ho]
 have hu := okM.und
 simp [go_sem, hx, hu]
end
end Go.Proofs.YtghmkacamabndaaGreatDoor.Mem
namespace Go.Proofs.YtghmkacamabndaaGreatDoor.Mem
open Go.ChangeShapes Go.WideShapes Go.RowKit Base Num Slc Slf Rw Tmr Srl Rom Opl Reg

def St.met (s : St) (m : M3) (fin : Int) : St := if m.k = 0 then s.beats fin else { s.arrive m with u := s.u + 1 }
def St.nextAt (s : St) : Int := if s.m.p.x = 0 then 1000000101 else s.m.p.x
def St.next (s : St) (l : List M3) : M3 := if s.u < l.length ∧ (M3.at' l s.u.toNat).t ≤ s.nextAt then M3.at' l s.u.toNat else ⟨s.nextAt, 0, 0⟩
theorem arrive_used (s : St) (z : Int) (m : M3) : ({ s with u := z } : St).arrive m = { s.arrive m with u := z } := by
 unfold St.arrive
 split
 ·have e : ∀ p, ({ s with u := z } : St).port p = { s.port p with u := z } := fun _ => rfl
  show (if (s.m.p.beat m.v).2.2 = true then _ else _) = _
  split <;> rfl
 split
 ·show (if (s.m.p.answer m.v m.t).2 = true then _ else _) = _
  split <;> rfl
 split <;> rfl
theorem ret_unitR {fn : Func} {R : Ending → World → Prop} {a : Act} {w : World} (h : fn.results = #[]) (hde : a.defers = []) (hR : R (.returned (.tuple #[])) w) : bodyPost Tryz.prog fn R .ret a w :=
 bodyPost_ret (by simp [results, h]) hde hR
section
variable {w : World} {base g : Nat} {x y vo ve vi : Value} {s : St} {co fin : Int}
set_option maxHeartbeats 1000000 in
theorem meet_impl (m : M3) (ht : 0 ≤ m.t ∧ m.t ≤ 1000000100 ∨ m.k = 0) (hu : 0 ≤ s.u ∧ s.u ≤ 10000) (h : GRow w g x y vo ve vi s co fin) (hs : So base w x y vo ve s) (hl : s.o.length ≤ 10000) (hl2 : s.e.length ≤ 10000) :
  Calls Tryz.prog 53 #[.pointer (some ⟨g, 0, none⟩), m.val] w fun e w' => e = .returned (.tuple #[]) ∧ Gd base g w w' x y vi co fin (s.met m fin) := by
 have hgl := h.lt
 obtain ⟨vm, hvm⟩ : ∃ vm, vm = m.val := ⟨_, rfl⟩
 rw [← hvm]
 by_cases k0 : m.k = 0
 ·have HQ : Hid (s.met m fin = s.beats fin) := show _ = _ by unfold St.met; rw [if_pos k0]
  go_enter Tryz.func53, Tryz.ntmps53
  go_wp2_with (first
   | (refine box_m3 rfl rfl hvm ?_; intro w0 m0 hb0; have h0 := h.below hb0; have s0 := hs.below hb0; have km : w0.cell? ⟨w.heap.size, 1, none⟩ = some (.int .i64 m.k) := m0.cell 1; rw [k0] at km)
   | (go_at_call 116; refine (sendBeat_impl h0 s0 hl).mono ?_; rintro e w1 ⟨rfl, vo1, ve1, r1, s1, M1⟩))
  refine ret_unitR rfl rfl ?_
  rw [HQ.out]
  exact ⟨rfl, vo1, ve1, r1, s1, (Mid.of hb0).trans M1⟩
 have b0 : (m.k == 0) = false := by simpa using k0
 have HQ : Hid (s.met m fin = ({ s with u := s.u + 1 } : St).arrive m) := show _ = _ by unfold St.met; rw [if_neg k0]; exact (arrive_used s (s.u + 1) m).symm
 have htt : 0 ≤ m.t ∧ m.t ≤ 1000000100 := ht.resolve_right k0
 obtain ⟨S1, hS1⟩ : ∃ S1 : St, { s with u := s.u + 1 } = S1 := ⟨_, rfl⟩
 have e1 : S1.o = s.o ∧ S1.e = s.e ∧ S1.m = s.m := by rw [← hS1]; exact ⟨rfl, rfl, rfl⟩
 have hl' : S1.o.length ≤ 10000 := by rw [e1.1]; exact hl
 have hl2' : S1.e.length ≤ 10000 := by rw [e1.2.1]; exact hl2
 rw [hS1] at HQ
 have HS1 : Hid ((gcells x y vo ve vi s co fin).setIfInBounds 27 (.int .i64 (s.u + 1)) = gcells x y vo ve vi S1 co fin) := show _ = _ by rw [← hS1]; rfl
 have HS2 : Hid (S1.m.rom = s.m.rom ∧ S1.m.ram = s.m.ram ∧ S1.o = s.o ∧ S1.e = s.e) := ⟨by rw [e1.2.2], by rw [e1.2.2], e1.1, e1.2.1⟩
 clear ht hS1 e1 hl hl2
 by_cases k1 : m.k = 1
 ·have HK : Hid (m.k = 1) := k1
  go_enter Tryz.func53, Tryz.ntmps53
  go_wp2_with (first
   | (refine box_m3 rfl rfl hvm ?_; intro w0 m0 hb0; have h0 := h.below hb0; have s0 := hs.below hb0; have km : w0.cell? ⟨w.heap.size, 1, none⟩ = some (.int .i64 m.k) := m0.cell 1; have ku := (gc h0).u; have lm := m0.lt; rw [k1] at km)
   | (refine st_gn (s' := S1) rfl rfl rfl rfl h0 rfl HS1.out ?_; rintro w1 r1 o1 -; have s1 := (s0.row o1 h0 plain_g (by decide)).as (s' := S1) HS2.out.1 HS2.out.2.1 HS2.out.2.2.1 HS2.out.2.2.2; have m1 := m0.onto o1 (by omega); have km1 : w1.cell? ⟨w.heap.size, 1, none⟩ = some (.int .i64 m.k) := m1.cell 1; have kv1 : w1.cell? ⟨w.heap.size, 2, none⟩ = some (.int .i64 m.v) := m1.cell 2; rw [k1] at km1; clear km ku)
   | (refine ld_m3 rfl rfl rfl m1 ?_)
   | (go_at_call 117; refine (meetBeat_impl m HK.out htt r1 s1 hl' hl2').mono ?_; rintro e w2 ⟨rfl, vo2, ve2, r2, s2, M2⟩))
  refine ret_unit rfl rfl ?_
  rw [HQ.out]
  exact ⟨rfl, vo2, ve2, r2, s2, ((Mid.of hb0).trans (Mid.onto o1)).trans M2⟩
 by_cases k2 : m.k = 2
 ·have HK : Hid (m.k = 2) := k2
  go_enter Tryz.func53, Tryz.ntmps53
  go_wp2_with (first
   | (refine box_m3 rfl rfl hvm ?_; intro w0 m0 hb0; have h0 := h.below hb0; have s0 := hs.below hb0; have km : w0.cell? ⟨w.heap.size, 1, none⟩ = some (.int .i64 m.k) := m0.cell 1; have ku := (gc h0).u; have lm := m0.lt; rw [k2] at km)
   | (refine st_gn (s' := S1) rfl rfl rfl rfl h0 rfl HS1.out ?_; rintro w1 r1 o1 -; have s1 := (s0.row o1 h0 plain_g (by decide)).as (s' := S1) HS2.out.1 HS2.out.2.1 HS2.out.2.2.1 HS2.out.2.2.2; have m1 := m0.onto o1 (by omega); have km1 : w1.cell? ⟨w.heap.size, 1, none⟩ = some (.int .i64 m.k) := m1.cell 1; have kv1 : w1.cell? ⟨w.heap.size, 2, none⟩ = some (.int .i64 m.v) := m1.cell 2; rw [k2] at km1; clear km ku)
   | (refine ld_m3 rfl rfl rfl m1 ?_)
   | (go_at_call 118; refine (meetAnswer_impl m HK.out r1 s1 hl2').mono ?_; rintro e w2 ⟨rfl, vo2, ve2, r2, s2, M2⟩))
  refine ret_unit rfl rfl ?_
  rw [HQ.out]
  exact ⟨rfl, vo2, ve2, r2, s2, ((Mid.of hb0).trans (Mid.onto o1)).trans M2⟩
 have b1 : (m.k == 1) = false := by simpa using k1
 have b2 : (m.k == 2) = false := by simpa using k2
 by_cases k3 : m.k = 3
 ·have HA : Hid (S1.arrive m = ({ S1 with m := { S1.m with ky := m.v } } : St).flag 4) := show _ = _ by unfold St.arrive; rw [if_neg k1, if_neg k2, if_pos k3]; rfl
  go_enter Tryz.func53, Tryz.ntmps53
  go_wp2_with (first
   | (refine box_m3 rfl rfl hvm ?_; intro w0 m0 hb0; have h0 := h.below hb0; have s0 := hs.below hb0; have km : w0.cell? ⟨w.heap.size, 1, none⟩ = some (.int .i64 m.k) := m0.cell 1; have ku := (gc h0).u; have lm := m0.lt; rw [k3] at km)
   | (refine st_gn (s' := S1) rfl rfl rfl rfl h0 rfl HS1.out ?_; rintro w1 r1 o1 -; have s1 := (s0.row o1 h0 plain_g (by decide)).as (s' := S1) HS2.out.1 HS2.out.2.1 HS2.out.2.2.1 HS2.out.2.2.2; have m1 := m0.onto o1 (by omega); have km1 : w1.cell? ⟨w.heap.size, 1, none⟩ = some (.int .i64 m.k) := m1.cell 1; have kv1 : w1.cell? ⟨w.heap.size, 2, none⟩ = some (.int .i64 m.v) := m1.cell 2; rw [k3] at km1; clear km ku)
   | (refine st_gn (s' := ({ S1 with m := { S1.m with ky := m.v } } : St)) rfl rfl rfl rfl r1 rfl rfl ?_; rintro w2 r2 o2 -; have s2 := (s1.row o2 r1 plain_g (by decide)).as (s' := ({ S1 with m := { S1.m with ky := m.v } } : St)) rfl rfl rfl rfl)
   | (go_at_call 119; refine (raise_impl 2 4 (by simp) (by decide) r2).mono ?_; rintro e w3 ⟨rfl, r3, o3⟩; have s3 := (s2.row o3 r2 plain_g (by decide)).as (s' := (({ S1 with m := { S1.m with ky := m.v } } : St)).flag 4) rfl rfl rfl rfl))
  refine ret_unit rfl rfl ?_
  rw [HQ.out, HA.out]
  exact ⟨rfl, vo, ve, r3, s3, (((Mid.of hb0).trans (Mid.onto o1)).trans (Mid.onto o2)).trans (Mid.onto o3)⟩
 have HA : Hid (S1.arrive m = S1) := show _ = _ by unfold St.arrive; rw [if_neg k1, if_neg k2, if_neg k3]
 have b3 : (m.k == 3) = false := by simpa using k3
 go_enter Tryz.func53, Tryz.ntmps53
 go_wp2_with (first
  | (refine box_m3 rfl rfl hvm ?_; intro w0 m0 hb0; have h0 := h.below hb0; have s0 := hs.below hb0; have km : w0.cell? ⟨w.heap.size, 1, none⟩ = some (.int .i64 m.k) := m0.cell 1; have ku := (gc h0).u; have lm := m0.lt)
  | (refine st_gn (s' := S1) rfl rfl rfl rfl h0 rfl HS1.out ?_; rintro w1 r1 o1 -; have s1 := (s0.row o1 h0 plain_g (by decide)).as (s' := S1) HS2.out.1 HS2.out.2.1 HS2.out.2.2.1 HS2.out.2.2.2; have m1 := m0.onto o1 (by omega); have km1 : w1.cell? ⟨w.heap.size, 1, none⟩ = some (.int .i64 m.k) := m1.cell 1; have kv1 : w1.cell? ⟨w.heap.size, 2, none⟩ = some (.int .i64 m.v) := m1.cell 2; clear km ku))
 refine ret_unit rfl rfl ?_
 rw [HQ.out, HA.out]
 exact ⟨rfl, vo, ve, r1, s1, (Mid.of hb0).trans (Mid.onto o1)⟩
end
section
variable {op : Oper} {a : Act} {w : World} {K : Act → World → Prop} {Q : Exit → Act → World → Prop} {p : Operand} {ops : Array Oper} {rest : List Oper}
theorem ldv_op {ty : TypeId} {d : TypeDesc} {ad : Addr} {v : Value} (ho : op.op = .load ty p) (hu : Tryz.prog.underlying ty = some d) (hd : d.isRow = false) (hx : a.eval p = .pointer (some ad)) (hc : w.cell? ad = some v) (h : K (a.put op.dst v) w) : op.wp Tryz.prog a w K Q := by
 have e : (loadVar ty ad).run Tryz.prog w = .ok v w := by
  cases d <;> first | (simp [TypeDesc.isRow] at hd; done) | simp [loadVar, isAgg, run_underlying hu, run_load, hc]
 unfold Oper.wp execOp
 simp only [ho, hx, Instr.loadAt, Instr.sureAddr, Sem.run_bind, Sem.run_pure, Result.andThen_ok, e]
 exact h
theorem al_m3 (hgd : op.guard = none) (ho : op.op = .alloc 40)
  (h : ∀ w', M3Row w' w.heap.size M3.nul → Below w.heap.size w w' → wpList Tryz.prog ops Q rest (a.put op.dst (.pointer (some ⟨w.heap.size, 0, none⟩))) w') : wpList Tryz.prog ops Q (op :: rest) a w :=
 wpList_plain hgd fun _ hK => by
  have e : (execOp a.eval op).run Tryz.prog w = .ok (.value (.pointer (some ⟨w.heap.size, 0, none⟩))) (w.alloc (.cells #[.int .i64 0, .int .i64 0, .int .i64 0] 40)) := by
   unfold execOp
   rw [ho]
   kernel_rfl
  unfold Oper.wp
  rw [e]
  exact hK _ _ (h _ (Row.new _ _ _) ((Below.refl _ _).alloc (Nat.le_refl _) _))
theorem st_m3 {g : Nat} {q : Operand} {m m0 : M3} (hgd : op.guard = none) (ho : op.op = .store 40 p q) (hx : a.eval p = .pointer (some ⟨g, 0, none⟩)) (hy : a.eval q = m.val) (hr : M3Row w g m0)
  (h : ∀ w', M3Row w' g m → Onto g w w' → wpList Tryz.prog ops Q rest (a.put op.dst undef) w') : wpList Tryz.prog ops Q (op :: rest) a w :=
 st_row hgd _ p q ho hx hy hr info_m3 rfl (by simp [Value.oneCell']) (fun w' h1 h2 _ => h w' h1 h2)
theorem st_m3t {g : Nat} {q : Operand} {m : M3} {z : Int} (hgd : op.guard = none) (ho : op.op = .store 2 p q) (hx : a.eval p = .pointer (some ⟨g, 0, none⟩)) (hy : a.eval q = .int .i64 z) (hr : M3Row w g m)
  (h : ∀ w', M3Row w' g ⟨z, m.k, m.v⟩ → Onto g w w' → wpList Tryz.prog ops Q rest (a.put op.dst undef) w') : wpList Tryz.prog ops Q (op :: rest) a w :=
 st_in (vs := [.int .i64 z]) (cs' := #[.int .i64 z, .int .i64 m.k, .int .i64 m.v]) hgd ho hx hy hr rfl info_i rfl rfl rfl (fun w' h1 h2 _ => h w' h1 h2)
theorem built_m2 (z : Int) : Tryz.prog.built 40 [(0, .int .i64 z), (1, .int .i64 0)] = some #[.int .i64 z, .int .i64 0, .int .i64 0] := by kernel_rfl
theorem bd_m2 {z : Int} (hgd : op.guard = none) (ho : op.op = .build 40 #[(0, p), (1, .const (.int .i64 0))]) (hp : a.eval p = .int .i64 z) (h : wpList Tryz.prog ops Q rest (a.put op.dst (M3.val ⟨z, 0, 0⟩)) w) : wpList Tryz.prog ops Q (op :: rest) a w :=
 wpList_plain hgd fun _ hK => build_op (parts := [(0, p), (1, .const (.int .i64 0))]) (vals := [(0, .int .i64 z), (1, .int .i64 0)]) ho (by simp only [List.map_cons, List.map_nil, hp]; rfl) (built_m2 z) (hK _ _ h)
theorem ret_m3 {fn : Func} {R : Ending → World → Prop} {q : Tmp} {g : Nat} {m : M3} (h : fn.results = #[.cell q 40]) (hp : a.tmps.getD q undef = .pointer (some ⟨g, 0, none⟩)) (hr : M3Row w g m) (hde : a.defers = []) (hR : R (.returned m.val) w) :
  bodyPost Tryz.prog fn R .ret a w := ret_row h hp hr Tryz.underlying40 rfl info_m3 hde hR
end
theorem slF_onto {α : Type} {f : Fl α} {p : Nat} {w w' : World} {v : Value} {l : List α} (h : SlF f w v l) (ho : Onto p w w') (hv : 0 < l.length → ∀ k, v.ownBlock = some k → k ≠ p) : SlF f w' v l := by
 obtain ⟨a, cap, rfl, h1, h2⟩ := h
 exact ⟨a, cap, rfl, h1.onto ho (fun h0 x hx => hv h0 _ (by subst hx; rfl)), h2⟩
structure Gn (w : World) (g go gr : Nat) (x y vo ve vi : Value) (s : St) (co fin : Int) (l : List M3) (own : M3) (W : World) : Prop where
 row : GRow W g x y vo ve vi s co fin
 own : M3Row W go own
 res : M3Row W gr M3.nul
 sl : SlF fM W vi l
 bel : Below w.heap.size w W
section
variable {w W W' : World} {base g go gr : Nat} {x y vo ve vi : Value} {s : St} {co fin : Int} {l : List M3} {own : M3}
theorem Gn.below (h : Gn w g go gr x y vo ve vi s co fin l own W) (hb : Below W.heap.size W W') : Gn w g go gr x y vo ve vi s co fin l own W' := ⟨h.row.below hb, h.own.below hb, h.res.below hb, h.sl.below hb, below_more h.bel hb⟩
theorem Gn.drew (h : Gn w g go gr x y vo ve vi s co fin l own W) : Gn w g go gr x y vo ve vi s co fin l own W.drew := h.below (drew_below (n := 1) rfl)
set_option maxHeartbeats 2000000 in
theorem next_impl (hu : 0 ≤ s.u) (h : GRow w g x y vo ve vi s co fin) (hsl : SlF fM w vi l) :
  Calls Tryz.prog 115 #[.pointer (some ⟨g, 0, none⟩)] w fun e w' => e = .returned (s.next l).val ∧ Below w.heap.size w w' := by
 have hgl := h.lt
 obtain ⟨j, hj⟩ : ∃ j : Nat, s.u = (j : Int) := ⟨s.u.toNat, by omega⟩
 have hju : s.u.toNat = j := by omega
 obtain ⟨X, hX⟩ : ∃ X, s.m.p.x = X := ⟨_, rfl⟩
 obtain ⟨a, c, rfl, -, hlc, hcm, -⟩ := id hsl
 unfold maxLen at hcm
 obtain ⟨r, hr⟩ : ∃ r, s.next l = r := ⟨_, rfl⟩
 rw [hr]
 have HU : Hid (s.u = (j : Int)) := hj
 have kx : w.cell? ⟨g, 22, none⟩ = some (.int .i64 X) := by rw [← hX]; exact (gc h).px
 obtain ⟨N, hN⟩ : ∃ N, s.nextAt = N := ⟨_, rfl⟩
 have hNX : N = if X = 0 then 1000000101 else X := by rw [← hN, ← hX]; rfl
 by_cases hx : X = 0
 ·rw [if_pos hx] at hNX
  subst hx
  go_enter Tryz.func115, Tryz.ntmps115
  go_wp2_with (first
   | (refine al_m3 rfl rfl ?_; intro w0 z0 hb0; have h0 := h.below hb0; have sl0 := hsl.below hb0; have lz0 := z0.lt; have kx0 : w0.cell? ⟨g, 22, none⟩ = some (.int .i64 0) := by rw [hb0.cell (p := ⟨g, 22, none⟩) hgl]; exact kx)
   | (refine bd_m2 rfl rfl rfl ?_)
   | (refine al_m3 rfl rfl ?_; intro w1 q1 hb1; have h1 := h0.below hb1; have sl1 := sl0.below hb1; have z1 := z0.below hb1; have lq1 := q1.lt)
   | (refine st_m3 (m := ⟨0, 0, 0⟩) rfl rfl rfl rfl q1 ?_; rintro w2 q2 o2; have h2 := h1.onto o2 (by omega); have z2 := z1.onto o2 (by omega); have B2 := below_onto (below_more hb0 hb1) o2 (by omega); have sl2 := slF_onto sl1 o2 (fun h0' k hk => by have := sl0.lt h0' k hk; omega); have kq2 : w2.cell? ⟨w0.heap.size, 0, none⟩ = some (.int .i64 0) := q2.cell 0; clear kx kx0)
   | (refine st_m3t rfl rfl rfl rfl q2 ?_; rintro w3 q3 o3; have h3 := h2.onto o3 (by omega); have z3 := z2.onto o3 (by omega); have B3 := below_onto B2 o3 (by omega); have sl3 := slF_onto sl2 o3 (fun h0' k hk => by have := sl0.lt h0' k hk; omega)))
  have hG : Gn w g w0.heap.size w.heap.size x y vo ve (.slice a l.length c) s co fin l ⟨N, 0, 0⟩ w3 := ⟨h3, by rw [hNX]; exact q3, z3, sl3, B3⟩
  by_cases hlt : j < l.length
  ·obtain ⟨b, off, c', e, -, -, -⟩ := hG.sl.shape (by omega)
   simp only [Value.slice.injEq] at e
   obtain ⟨rfl, -, rfl⟩ := e
   have hlt' : (j : Int) < (l.length : Int) := by omega
   obtain ⟨tt, htt⟩ : ∃ tt, (M3.at' l j).t = tt := ⟨_, rfl⟩
   have HT : Hid ((M3.at' l j).t = tt) := htt
   by_cases hn : tt ≤ N
   ·have HR : Hid (r = M3.at' l j) := show _ = _ by rw [← hr]; unfold St.next; rw [hju, if_pos ⟨by omega, by rw [hN, htt]; exact hn⟩]
    clear htt hr hN hNX hX hju hj
    refine region_known (by kernel_rfl) (by kernel_rfl) 0 (by decide) (by kernel_rfl) (fun _ W => Gn w g w0.heap.size w.heap.size x y vo ve (.slice (some ⟨b, off, none⟩) l.length c) s co fin l ⟨N, 0, 0⟩ W) [.pointer (some ⟨g, 0, none⟩), .pointer (some ⟨g, 0, none⟩), .pointer (some ⟨g, 0, none⟩), .pointer (some ⟨g, 27, none⟩), .int .i64 (j : Int), .pointer (some ⟨g, 0, none⟩), .pointer (some ⟨g, 0, none⟩), .pointer (some ⟨g, 28, none⟩), .slice (some ⟨b, off, none⟩) l.length c, .int .i64 (l.length : Int), .bool true, .bool true, .pointer (some ⟨g, 0, none⟩), .pointer (some ⟨g, 0, none⟩), .pointer (some ⟨g, 28, none⟩), .slice (some ⟨b, off, none⟩) l.length c, .pointer (some ⟨g, 0, none⟩), .pointer (some ⟨g, 0, none⟩), .pointer (some ⟨g, 0, none⟩), .pointer (some ⟨g, 27, none⟩), .int .i64 (j : Int), .pointer (some ⟨b, off + j * 3, none⟩), .pointer (some ⟨b, off + j * 3, none⟩), .int .i64 tt, .pointer (some ⟨w0.heap.size, 0, none⟩), .int .i64 N, .bool true, .bool true] hG.drew ?step ?done
    case step =>
     intro L ix o' A W hj hI hL hd
     have hin : ix < 28 := by
      by_cases hl : ix < 28
      ·exact hl
      ·simp [hl] at hj
     have hsz : A.tmps.size = 56 := hI.size
     have hg := hI.g
     rcases ix with _ | _ | _ | _ | _ | _ | _ | _ | _ | _ | _ | _ | _ | _ | _ | _ | _ | _ | _ | _ | _ | _ | _ | _ | _ | _ | _ | _ | ix
     ·cases hj; exact at_op rfl rfl (move_op rfl ⟨_, rfl, hI.old 0 (by kernel_rfl), hg⟩)
     ·cases hj; exact at_op rfl rfl (nil_op rfl (hI.val hd 0 16 rfl rfl (by kernel_rfl)) ⟨_, rfl, rfl, hg⟩)
     ·cases hj; exact at_op rfl rfl (one_op (hI.val hd 1 17 rfl rfl (by kernel_rfl)) rfl (by kernel_rfl) ⟨_, rfl, rfl, hg⟩)
     ·cases hj; exact at_op rfl rfl (one_op (hI.val hd 2 18 rfl rfl (by kernel_rfl)) rfl (by kernel_rfl) ⟨_, rfl, rfl, hg⟩)
     ·cases hj
      have e0 : A.eval (.tmp 19) = .pointer (some ⟨g, 27, none⟩) := hI.val hd 3 19 rfl rfl (by kernel_rfl)
      exact at_op rfl rfl (load_op rfl Tryz.underlying2 e0 (by have := (gc hg.row).u; rwa [HU.out] at this) ⟨_, rfl, rfl, hg⟩)
     ·cases hj; exact at_op rfl rfl (move_op rfl ⟨_, rfl, hI.old 0 (by kernel_rfl), hg⟩)
     ·cases hj; exact at_op rfl rfl (nil_op rfl (hI.val hd 5 21 rfl rfl (by kernel_rfl)) ⟨_, rfl, rfl, hg⟩)
     ·cases hj; exact at_op rfl rfl (one_op (hI.val hd 6 22 rfl rfl (by kernel_rfl)) rfl (by kernel_rfl) ⟨_, rfl, rfl, hg⟩)
     ·cases hj
      have e0 : A.eval (.tmp 23) = .pointer (some ⟨g, 28, none⟩) := hI.val hd 7 23 rfl rfl (by kernel_rfl)
      exact at_op rfl rfl (ldv_op rfl Tryz.underlying31 rfl e0 (gc hg.row).vi ⟨_, rfl, rfl, hg⟩)
     ·cases hj
      have e0 : A.eval (.tmp 24) = .slice (some ⟨b, off, none⟩) l.length c := hI.val hd 8 24 rfl rfl (by kernel_rfl)
      exact at_op rfl rfl (lenM_op rfl e0 ⟨_, rfl, rfl, hg⟩)
     ·cases hj
      have e0 : A.eval (.tmp 20) = .int .i64 (j : Int) := hI.val hd 4 20 rfl rfl (by kernel_rfl)
      have e1 : A.eval (.tmp 25) = .int .i64 (l.length : Int) := hI.val hd 9 25 rfl rfl (by kernel_rfl)
      exact at_op rfl rfl (bin_op rfl e0 e1 (fun w => by first | (simp [go_sem]; done) | (simp [go_sem]; omega)) ⟨_, rfl, rfl, hg⟩)
     ·cases hj; exact at_op rfl rfl (move_op rfl ⟨_, rfl, hI.val hd 10 26 rfl rfl (by kernel_rfl), hg⟩)
     ·cases hj; exact at_guard rfl rfl (j := 11) (k := 27) rfl (by omega) (hI.val hd 11 27 rfl rfl (by kernel_rfl)) (move_op rfl ⟨_, rfl, hI.old 0 (by kernel_rfl), hg⟩)
     ·cases hj; exact at_guard rfl rfl (j := 11) (k := 27) rfl (by omega) (hI.val hd 11 27 rfl rfl (by kernel_rfl)) (nil_op rfl (hI.val hd 12 28 rfl rfl (by kernel_rfl)) ⟨_, rfl, rfl, hg⟩)
     ·cases hj; exact at_guard rfl rfl (j := 11) (k := 27) rfl (by omega) (hI.val hd 11 27 rfl rfl (by kernel_rfl)) (one_op (hI.val hd 13 29 rfl rfl (by kernel_rfl)) rfl (by kernel_rfl) ⟨_, rfl, rfl, hg⟩)
     ·cases hj
      have hgv : A.tmps.getD 27 undef = .bool true := hI.val hd 11 27 rfl rfl (by kernel_rfl)
      have e0 : A.eval (.tmp 30) = .pointer (some ⟨g, 28, none⟩) := hI.val hd 14 30 rfl rfl (by kernel_rfl)
      exact at_guard rfl rfl (j := 11) (k := 27) rfl (by omega) hgv (ldv_op rfl Tryz.underlying31 rfl e0 (gc hg.row).vi ⟨_, rfl, rfl, hg⟩)
     ·cases hj; exact at_guard rfl rfl (j := 11) (k := 27) rfl (by omega) (hI.val hd 11 27 rfl rfl (by kernel_rfl)) (move_op rfl ⟨_, rfl, hI.old 0 (by kernel_rfl), hg⟩)
     ·cases hj; exact at_guard rfl rfl (j := 11) (k := 27) rfl (by omega) (hI.val hd 11 27 rfl rfl (by kernel_rfl)) (nil_op rfl (hI.val hd 16 32 rfl rfl (by kernel_rfl)) ⟨_, rfl, rfl, hg⟩)
     ·cases hj; exact at_guard rfl rfl (j := 11) (k := 27) rfl (by omega) (hI.val hd 11 27 rfl rfl (by kernel_rfl)) (one_op (hI.val hd 17 33 rfl rfl (by kernel_rfl)) rfl (by kernel_rfl) ⟨_, rfl, rfl, hg⟩)
     ·cases hj; exact at_guard rfl rfl (j := 11) (k := 27) rfl (by omega) (hI.val hd 11 27 rfl rfl (by kernel_rfl)) (one_op (hI.val hd 18 34 rfl rfl (by kernel_rfl)) rfl (by kernel_rfl) ⟨_, rfl, rfl, hg⟩)
     ·cases hj
      have hgv : A.tmps.getD 27 undef = .bool true := hI.val hd 11 27 rfl rfl (by kernel_rfl)
      have e0 : A.eval (.tmp 35) = .pointer (some ⟨g, 27, none⟩) := hI.val hd 19 35 rfl rfl (by kernel_rfl)
      exact at_guard rfl rfl (j := 11) (k := 27) rfl (by omega) hgv (load_op rfl Tryz.underlying2 e0 (by have := (gc hg.row).u; rwa [HU.out] at this) ⟨_, rfl, rfl, hg⟩)
     ·cases hj
      have hgv : A.tmps.getD 27 undef = .bool true := hI.val hd 11 27 rfl rfl (by kernel_rfl)
      have e0 : A.eval (.tmp 31) = .slice (some ⟨b, off, none⟩) l.length c := hI.val hd 15 31 rfl rfl (by kernel_rfl)
      have e1 : A.eval (.tmp 36) = .int .i64 (j : Int) := hI.val hd 20 36 rfl rfl (by kernel_rfl)
      exact at_guard rfl rfl (j := 11) (k := 27) rfl (by omega) hgv (ixF_op okM rfl e0 e1 (by omega) ⟨_, rfl, rfl, hg⟩)
     ·cases hj; exact at_guard rfl rfl (j := 11) (k := 27) rfl (by omega) (hI.val hd 11 27 rfl rfl (by kernel_rfl)) (one_op (hI.val hd 21 37 rfl rfl (by kernel_rfl)) rfl (by kernel_rfl) ⟨_, rfl, rfl, hg⟩)
     ·cases hj
      have hgv : A.tmps.getD 27 undef = .bool true := hI.val hd 11 27 rfl rfl (by kernel_rfl)
      have e0 : A.eval (.tmp 38) = .pointer (some ⟨b, off + j * 3, none⟩) := hI.val hd 22 38 rfl rfl (by kernel_rfl)
      exact at_guard rfl rfl (j := 11) (k := 27) rfl (by omega) hgv (load_op rfl Tryz.underlying2 e0 (by rw [← HT.out]; exact hg.sl.cell okM (at_some (by omega)) (j := 0) (by decide)) ⟨_, rfl, rfl, hg⟩)
     ·cases hj; exact at_guard rfl rfl (j := 11) (k := 27) rfl (by omega) (hI.val hd 11 27 rfl rfl (by kernel_rfl)) (one_op (x := .tmp 3) (hI.old 3 (by kernel_rfl)) rfl (by kernel_rfl) ⟨_, rfl, rfl, hg⟩)
     ·cases hj
      have hgv : A.tmps.getD 27 undef = .bool true := hI.val hd 11 27 rfl rfl (by kernel_rfl)
      have e0 : A.eval (.tmp 40) = .pointer (some ⟨w0.heap.size, 0, none⟩) := hI.val hd 24 40 rfl rfl (by kernel_rfl)
      exact at_guard rfl rfl (j := 11) (k := 27) rfl (by omega) hgv (load_op rfl Tryz.underlying2 e0 (hg.own.cell 0) ⟨_, rfl, rfl, hg⟩)
     ·cases hj
      have hgv : A.tmps.getD 27 undef = .bool true := hI.val hd 11 27 rfl rfl (by kernel_rfl)
      have e0 : A.eval (.tmp 39) = .int .i64 tt := hI.val hd 23 39 rfl rfl (by kernel_rfl)
      have e1 : A.eval (.tmp 41) = .int .i64 N := hI.val hd 25 41 rfl rfl (by kernel_rfl)
      exact at_guard rfl rfl (j := 11) (k := 27) rfl (by omega) hgv (bin_op rfl e0 e1 (fun w => by first | (simp [go_sem, hn]; done) | (simp [go_sem]; omega)) ⟨_, rfl, rfl, hg⟩)
     ·cases hj
      have e0 : A.eval (.tmp 27) = .bool true := hI.val hd 11 27 rfl rfl (by kernel_rfl)
      have e1 : A.eval (.tmp 42) = .bool true := hI.val hd 26 42 rfl rfl (by kernel_rfl)
      exact at_op rfl rfl (pick_op rfl e0 ⟨_, rfl, e1, hg⟩)
     omega
    case done =>
     intro A W hI
     have hg := hI.g
     have s43 : A.tmps.getD 43 undef = .bool true := hI.last 27 43 rfl
     have hA := hI.frame [16, 17, 18, 19, 20, 21, 22, 23, 24, 25, 26, 27, 28, 29, 30, 31, 32, 33, 34, 35, 36, 37, 38, 39, 40, 41, 42, 43] (by kernel_rfl)
     rw [hA]
     simp only [putAll, List.foldl_cons, List.foldl_nil, s43, Act.put, List.setIfInBounds_toArray, List.set_cons_zero, List.set_cons_succ]
     clear hA hI s43
     go_wp2_with fail
     refine region_last (by kernel_rfl) (by kernel_rfl) 11 (by decide) (by kernel_rfl) (by kernel_rfl) (fun W => Gn w g w0.heap.size w.heap.size x y vo ve (.slice (some ⟨b, off, none⟩) l.length c) s co fin l ⟨N, 0, 0⟩ W) (fun W => M3Row W w.heap.size (M3.at' l j) ∧ Below w.heap.size w W) [.pointer (some ⟨g, 0, none⟩), .pointer (some ⟨g, 0, none⟩), .pointer (some ⟨g, 28, none⟩), .slice (some ⟨b, off, none⟩) l.length c, .pointer (some ⟨g, 0, none⟩), .pointer (some ⟨g, 0, none⟩), .pointer (some ⟨g, 0, none⟩), .pointer (some ⟨g, 27, none⟩), .int .i64 (j : Int), .pointer (some ⟨b, off + j * 3, none⟩), (M3.at' l j).val, undef] hg.drew ?step ?last ?done
     case step =>
      intro L ix o' A W hne hj hI hg hd
      have hin : ix < 12 := by
       by_cases hl : ix < 12
       ·exact hl
       ·simp [hl] at hj
      have hsz : A.tmps.size = 56 := hI.size
      rcases ix with _ | _ | _ | _ | _ | _ | _ | _ | _ | _ | _ | _ | ix
      ·cases hj; exact at_op rfl rfl (move_op rfl ⟨_, rfl, hI.old 0 (by kernel_rfl), hg⟩)
      ·cases hj; exact at_op rfl rfl (nil_op rfl (hI.val hd 0 44 rfl rfl (by kernel_rfl)) ⟨_, rfl, rfl, hg⟩)
      ·cases hj; exact at_op rfl rfl (one_op (hI.val hd 1 45 rfl rfl (by kernel_rfl)) rfl (by kernel_rfl) ⟨_, rfl, rfl, hg⟩)
      ·cases hj
       have e0 : A.eval (.tmp 46) = .pointer (some ⟨g, 28, none⟩) := hI.val hd 2 46 rfl rfl (by kernel_rfl)
       exact at_op rfl rfl (ldv_op rfl Tryz.underlying31 rfl e0 (gc hg.row).vi ⟨_, rfl, rfl, hg⟩)
      ·cases hj; exact at_op rfl rfl (move_op rfl ⟨_, rfl, hI.old 0 (by kernel_rfl), hg⟩)
      ·cases hj; exact at_op rfl rfl (nil_op rfl (hI.val hd 4 48 rfl rfl (by kernel_rfl)) ⟨_, rfl, rfl, hg⟩)
      ·cases hj; exact at_op rfl rfl (one_op (hI.val hd 5 49 rfl rfl (by kernel_rfl)) rfl (by kernel_rfl) ⟨_, rfl, rfl, hg⟩)
      ·cases hj; exact at_op rfl rfl (one_op (hI.val hd 6 50 rfl rfl (by kernel_rfl)) rfl (by kernel_rfl) ⟨_, rfl, rfl, hg⟩)
      ·cases hj
       have e0 : A.eval (.tmp 51) = .pointer (some ⟨g, 27, none⟩) := hI.val hd 7 51 rfl rfl (by kernel_rfl)
       exact at_op rfl rfl (load_op rfl Tryz.underlying2 e0 (by have := (gc hg.row).u; rwa [HU.out] at this) ⟨_, rfl, rfl, hg⟩)
      ·cases hj
       have e0 : A.eval (.tmp 47) = .slice (some ⟨b, off, none⟩) l.length c := hI.val hd 3 47 rfl rfl (by kernel_rfl)
       have e1 : A.eval (.tmp 52) = .int .i64 (j : Int) := hI.val hd 8 52 rfl rfl (by kernel_rfl)
       exact at_op rfl rfl (ixF_op okM rfl e0 e1 (by omega) ⟨_, rfl, rfl, hg⟩)
      ·cases hj
       have e0 : A.eval (.tmp 53) = .pointer (some ⟨b, off + j * 3, none⟩) := hI.val hd 9 53 rfl rfl (by kernel_rfl)
       exact at_op rfl rfl (elF_op okM rfl e0 (hg.sl.range okM (at_some (by omega))) ⟨_, rfl, rfl, hg⟩)
      ·exact absurd rfl hne
      omega
     case last =>
      intro L o' A W hj hI hg hd
      cases hj
      have e0 : A.eval (.tmp 2) = .pointer (some ⟨w.heap.size, 0, none⟩) := hI.old 2 (by kernel_rfl)
      have e1 : A.eval (.tmp 54) = (M3.at' l j).val := hI.val hd 10 54 rfl rfl (by kernel_rfl)
      exact at_op rfl rfl (stRow_op rfl e0 e1 hg.res info_m3 rfl (by simp [Value.oneCell']) (fun W2 r2 o2 => ⟨_, rfl, rfl, r2, below_onto hg.bel o2 (Nat.le_refl _)⟩))
     case done =>
      intro A W hI hE
      have hA := hI.frame [44, 45, 46, 47, 48, 49, 50, 51, 52, 53, 54] (by kernel_rfl)
      rw [hA]
      simp only [putAll, List.foldl_cons, List.foldl_nil, Act.put, List.setIfInBounds_toArray, List.set_cons_zero, List.set_cons_succ]
      clear hA hI 
      go_wp2_with fail
      refine ret_m3 rfl rfl hE.1 rfl ?_
      exact ⟨by rw [HR.out], hE.2⟩
   ·have HR : Hid (r = ⟨N, 0, 0⟩) := show _ = _ by rw [← hr]; unfold St.next; rw [hju, if_neg (fun hh => hn (by have := hh.2; rwa [hN, htt] at this)), hN]
    clear htt hr hN hNX hX hju hj
    refine region_known (by kernel_rfl) (by kernel_rfl) 0 (by decide) (by kernel_rfl) (fun _ W => Gn w g w0.heap.size w.heap.size x y vo ve (.slice (some ⟨b, off, none⟩) l.length c) s co fin l ⟨N, 0, 0⟩ W) [.pointer (some ⟨g, 0, none⟩), .pointer (some ⟨g, 0, none⟩), .pointer (some ⟨g, 0, none⟩), .pointer (some ⟨g, 27, none⟩), .int .i64 (j : Int), .pointer (some ⟨g, 0, none⟩), .pointer (some ⟨g, 0, none⟩), .pointer (some ⟨g, 28, none⟩), .slice (some ⟨b, off, none⟩) l.length c, .int .i64 (l.length : Int), .bool true, .bool true, .pointer (some ⟨g, 0, none⟩), .pointer (some ⟨g, 0, none⟩), .pointer (some ⟨g, 28, none⟩), .slice (some ⟨b, off, none⟩) l.length c, .pointer (some ⟨g, 0, none⟩), .pointer (some ⟨g, 0, none⟩), .pointer (some ⟨g, 0, none⟩), .pointer (some ⟨g, 27, none⟩), .int .i64 (j : Int), .pointer (some ⟨b, off + j * 3, none⟩), .pointer (some ⟨b, off + j * 3, none⟩), .int .i64 tt, .pointer (some ⟨w0.heap.size, 0, none⟩), .int .i64 N, .bool false, .bool false] hG.drew ?step ?done
    case step =>
     intro L ix o' A W hj hI hL hd
     have hin : ix < 28 := by
      by_cases hl : ix < 28
      ·exact hl
      ·simp [hl] at hj
     have hsz : A.tmps.size = 56 := hI.size
     have hg := hI.g
     rcases ix with _ | _ | _ | _ | _ | _ | _ | _ | _ | _ | _ | _ | _ | _ | _ | _ | _ | _ | _ | _ | _ | _ | _ | _ | _ | _ | _ | _ | ix
     ·cases hj; exact at_op rfl rfl (move_op rfl ⟨_, rfl, hI.old 0 (by kernel_rfl), hg⟩)
     ·cases hj; exact at_op rfl rfl (nil_op rfl (hI.val hd 0 16 rfl rfl (by kernel_rfl)) ⟨_, rfl, rfl, hg⟩)
     ·cases hj; exact at_op rfl rfl (one_op (hI.val hd 1 17 rfl rfl (by kernel_rfl)) rfl (by kernel_rfl) ⟨_, rfl, rfl, hg⟩)
     ·cases hj; exact at_op rfl rfl (one_op (hI.val hd 2 18 rfl rfl (by kernel_rfl)) rfl (by kernel_rfl) ⟨_, rfl, rfl, hg⟩)
     ·cases hj
      have e0 : A.eval (.tmp 19) = .pointer (some ⟨g, 27, none⟩) := hI.val hd 3 19 rfl rfl (by kernel_rfl)
      exact at_op rfl rfl (load_op rfl Tryz.underlying2 e0 (by have := (gc hg.row).u; rwa [HU.out] at this) ⟨_, rfl, rfl, hg⟩)
     ·cases hj; exact at_op rfl rfl (move_op rfl ⟨_, rfl, hI.old 0 (by kernel_rfl), hg⟩)
     ·cases hj; exact at_op rfl rfl (nil_op rfl (hI.val hd 5 21 rfl rfl (by kernel_rfl)) ⟨_, rfl, rfl, hg⟩)
     ·cases hj; exact at_op rfl rfl (one_op (hI.val hd 6 22 rfl rfl (by kernel_rfl)) rfl (by kernel_rfl) ⟨_, rfl, rfl, hg⟩)
     ·cases hj
      have e0 : A.eval (.tmp 23) = .pointer (some ⟨g, 28, none⟩) := hI.val hd 7 23 rfl rfl (by kernel_rfl)
      exact at_op rfl rfl (ldv_op rfl Tryz.underlying31 rfl e0 (gc hg.row).vi ⟨_, rfl, rfl, hg⟩)
     ·cases hj
      have e0 : A.eval (.tmp 24) = .slice (some ⟨b, off, none⟩) l.length c := hI.val hd 8 24 rfl rfl (by kernel_rfl)
      exact at_op rfl rfl (lenM_op rfl e0 ⟨_, rfl, rfl, hg⟩)
     ·cases hj
      have e0 : A.eval (.tmp 20) = .int .i64 (j : Int) := hI.val hd 4 20 rfl rfl (by kernel_rfl)
      have e1 : A.eval (.tmp 25) = .int .i64 (l.length : Int) := hI.val hd 9 25 rfl rfl (by kernel_rfl)
      exact at_op rfl rfl (bin_op rfl e0 e1 (fun w => by first | (simp [go_sem]; done) | (simp [go_sem]; omega)) ⟨_, rfl, rfl, hg⟩)
     ·cases hj; exact at_op rfl rfl (move_op rfl ⟨_, rfl, hI.val hd 10 26 rfl rfl (by kernel_rfl), hg⟩)
     ·cases hj; exact at_guard rfl rfl (j := 11) (k := 27) rfl (by omega) (hI.val hd 11 27 rfl rfl (by kernel_rfl)) (move_op rfl ⟨_, rfl, hI.old 0 (by kernel_rfl), hg⟩)
     ·cases hj; exact at_guard rfl rfl (j := 11) (k := 27) rfl (by omega) (hI.val hd 11 27 rfl rfl (by kernel_rfl)) (nil_op rfl (hI.val hd 12 28 rfl rfl (by kernel_rfl)) ⟨_, rfl, rfl, hg⟩)
     ·cases hj; exact at_guard rfl rfl (j := 11) (k := 27) rfl (by omega) (hI.val hd 11 27 rfl rfl (by kernel_rfl)) (one_op (hI.val hd 13 29 rfl rfl (by kernel_rfl)) rfl (by kernel_rfl) ⟨_, rfl, rfl, hg⟩)
     ·cases hj
      have hgv : A.tmps.getD 27 undef = .bool true := hI.val hd 11 27 rfl rfl (by kernel_rfl)
      have e0 : A.eval (.tmp 30) = .pointer (some ⟨g, 28, none⟩) := hI.val hd 14 30 rfl rfl (by kernel_rfl)
      exact at_guard rfl rfl (j := 11) (k := 27) rfl (by omega) hgv (ldv_op rfl Tryz.underlying31 rfl e0 (gc hg.row).vi ⟨_, rfl, rfl, hg⟩)
     ·cases hj; exact at_guard rfl rfl (j := 11) (k := 27) rfl (by omega) (hI.val hd 11 27 rfl rfl (by kernel_rfl)) (move_op rfl ⟨_, rfl, hI.old 0 (by kernel_rfl), hg⟩)
     ·cases hj; exact at_guard rfl rfl (j := 11) (k := 27) rfl (by omega) (hI.val hd 11 27 rfl rfl (by kernel_rfl)) (nil_op rfl (hI.val hd 16 32 rfl rfl (by kernel_rfl)) ⟨_, rfl, rfl, hg⟩)
     ·cases hj; exact at_guard rfl rfl (j := 11) (k := 27) rfl (by omega) (hI.val hd 11 27 rfl rfl (by kernel_rfl)) (one_op (hI.val hd 17 33 rfl rfl (by kernel_rfl)) rfl (by kernel_rfl) ⟨_, rfl, rfl, hg⟩)
     ·cases hj; exact at_guard rfl rfl (j := 11) (k := 27) rfl (by omega) (hI.val hd 11 27 rfl rfl (by kernel_rfl)) (one_op (hI.val hd 18 34 rfl rfl (by kernel_rfl)) rfl (by kernel_rfl) ⟨_, rfl, rfl, hg⟩)
     ·cases hj
      have hgv : A.tmps.getD 27 undef = .bool true := hI.val hd 11 27 rfl rfl (by kernel_rfl)
      have e0 : A.eval (.tmp 35) = .pointer (some ⟨g, 27, none⟩) := hI.val hd 19 35 rfl rfl (by kernel_rfl)
      exact at_guard rfl rfl (j := 11) (k := 27) rfl (by omega) hgv (load_op rfl Tryz.underlying2 e0 (by have := (gc hg.row).u; rwa [HU.out] at this) ⟨_, rfl, rfl, hg⟩)
     ·cases hj
      have hgv : A.tmps.getD 27 undef = .bool true := hI.val hd 11 27 rfl rfl (by kernel_rfl)
      have e0 : A.eval (.tmp 31) = .slice (some ⟨b, off, none⟩) l.length c := hI.val hd 15 31 rfl rfl (by kernel_rfl)
      have e1 : A.eval (.tmp 36) = .int .i64 (j : Int) := hI.val hd 20 36 rfl rfl (by kernel_rfl)
      exact at_guard rfl rfl (j := 11) (k := 27) rfl (by omega) hgv (ixF_op okM rfl e0 e1 (by omega) ⟨_, rfl, rfl, hg⟩)
     ·cases hj; exact at_guard rfl rfl (j := 11) (k := 27) rfl (by omega) (hI.val hd 11 27 rfl rfl (by kernel_rfl)) (one_op (hI.val hd 21 37 rfl rfl (by kernel_rfl)) rfl (by kernel_rfl) ⟨_, rfl, rfl, hg⟩)
     ·cases hj
      have hgv : A.tmps.getD 27 undef = .bool true := hI.val hd 11 27 rfl rfl (by kernel_rfl)
      have e0 : A.eval (.tmp 38) = .pointer (some ⟨b, off + j * 3, none⟩) := hI.val hd 22 38 rfl rfl (by kernel_rfl)
      exact at_guard rfl rfl (j := 11) (k := 27) rfl (by omega) hgv (load_op rfl Tryz.underlying2 e0 (by rw [← HT.out]; exact hg.sl.cell okM (at_some (by omega)) (j := 0) (by decide)) ⟨_, rfl, rfl, hg⟩)
     ·cases hj; exact at_guard rfl rfl (j := 11) (k := 27) rfl (by omega) (hI.val hd 11 27 rfl rfl (by kernel_rfl)) (one_op (x := .tmp 3) (hI.old 3 (by kernel_rfl)) rfl (by kernel_rfl) ⟨_, rfl, rfl, hg⟩)
     ·cases hj
      have hgv : A.tmps.getD 27 undef = .bool true := hI.val hd 11 27 rfl rfl (by kernel_rfl)
      have e0 : A.eval (.tmp 40) = .pointer (some ⟨w0.heap.size, 0, none⟩) := hI.val hd 24 40 rfl rfl (by kernel_rfl)
      exact at_guard rfl rfl (j := 11) (k := 27) rfl (by omega) hgv (load_op rfl Tryz.underlying2 e0 (hg.own.cell 0) ⟨_, rfl, rfl, hg⟩)
     ·cases hj
      have hgv : A.tmps.getD 27 undef = .bool true := hI.val hd 11 27 rfl rfl (by kernel_rfl)
      have e0 : A.eval (.tmp 39) = .int .i64 tt := hI.val hd 23 39 rfl rfl (by kernel_rfl)
      have e1 : A.eval (.tmp 41) = .int .i64 N := hI.val hd 25 41 rfl rfl (by kernel_rfl)
      exact at_guard rfl rfl (j := 11) (k := 27) rfl (by omega) hgv (bin_op rfl e0 e1 (fun w => by first | (simp [go_sem, hn]; done) | (simp [go_sem]; omega)) ⟨_, rfl, rfl, hg⟩)
     ·cases hj
      have e0 : A.eval (.tmp 27) = .bool true := hI.val hd 11 27 rfl rfl (by kernel_rfl)
      have e1 : A.eval (.tmp 42) = .bool false := hI.val hd 26 42 rfl rfl (by kernel_rfl)
      exact at_op rfl rfl (pick_op rfl e0 ⟨_, rfl, e1, hg⟩)
     omega
    case done =>
     intro A W hI
     have hg := hI.g
     have s43 : A.tmps.getD 43 undef = .bool false := hI.last 27 43 rfl
     have hA := hI.frame [16, 17, 18, 19, 20, 21, 22, 23, 24, 25, 26, 27, 28, 29, 30, 31, 32, 33, 34, 35, 36, 37, 38, 39, 40, 41, 42, 43] (by kernel_rfl)
     rw [hA]
     simp only [putAll, List.foldl_cons, List.foldl_nil, s43, Act.put, List.setIfInBounds_toArray, List.set_cons_zero, List.set_cons_succ]
     clear hA hI s43
     go_wp2_with (first
      | (refine ld_m3 rfl rfl rfl hg.own ?_)
      | (refine st_m3 rfl rfl rfl rfl hg.res ?_; rintro w9 r9 o9; have hB9 := below_onto hg.bel o9 (Nat.le_refl _)))
     refine ret_m3 rfl rfl r9 rfl ?_
     exact ⟨by rw [HR.out], hB9⟩
  ·have hlt' : ¬ (j : Int) < (l.length : Int) := by omega
   have HR : Hid (r = ⟨N, 0, 0⟩) := show _ = _ by rw [← hr]; unfold St.next; rw [if_neg (fun hh => by have := hh.1; omega), hN]
   clear hr hN hNX hX hju hj
   refine region_known (by kernel_rfl) (by kernel_rfl) 0 (by decide) (by kernel_rfl) (fun _ W => Gn w g w0.heap.size w.heap.size x y vo ve (.slice a l.length c) s co fin l ⟨N, 0, 0⟩ W) [.pointer (some ⟨g, 0, none⟩), .pointer (some ⟨g, 0, none⟩), .pointer (some ⟨g, 0, none⟩), .pointer (some ⟨g, 27, none⟩), .int .i64 (j : Int), .pointer (some ⟨g, 0, none⟩), .pointer (some ⟨g, 0, none⟩), .pointer (some ⟨g, 28, none⟩), .slice a l.length c, .int .i64 (l.length : Int), .bool false, .bool false, undef, undef, undef, undef, undef, undef, undef, undef, undef, undef, undef, undef, undef, undef, undef, .bool false] hG.drew ?step ?done
   case step =>
    intro L ix o' A W hj hI hL hd
    have hin : ix < 28 := by
     by_cases hl : ix < 28
     ·exact hl
     ·simp [hl] at hj
    have hsz : A.tmps.size = 56 := hI.size
    have hg := hI.g
    rcases ix with _ | _ | _ | _ | _ | _ | _ | _ | _ | _ | _ | _ | _ | _ | _ | _ | _ | _ | _ | _ | _ | _ | _ | _ | _ | _ | _ | _ | ix
    ·cases hj; exact at_op rfl rfl (move_op rfl ⟨_, rfl, hI.old 0 (by kernel_rfl), hg⟩)
    ·cases hj; exact at_op rfl rfl (nil_op rfl (hI.val hd 0 16 rfl rfl (by kernel_rfl)) ⟨_, rfl, rfl, hg⟩)
    ·cases hj; exact at_op rfl rfl (one_op (hI.val hd 1 17 rfl rfl (by kernel_rfl)) rfl (by kernel_rfl) ⟨_, rfl, rfl, hg⟩)
    ·cases hj; exact at_op rfl rfl (one_op (hI.val hd 2 18 rfl rfl (by kernel_rfl)) rfl (by kernel_rfl) ⟨_, rfl, rfl, hg⟩)
    ·cases hj
     have e0 : A.eval (.tmp 19) = .pointer (some ⟨g, 27, none⟩) := hI.val hd 3 19 rfl rfl (by kernel_rfl)
     exact at_op rfl rfl (load_op rfl Tryz.underlying2 e0 (by have := (gc hg.row).u; rwa [HU.out] at this) ⟨_, rfl, rfl, hg⟩)
    ·cases hj; exact at_op rfl rfl (move_op rfl ⟨_, rfl, hI.old 0 (by kernel_rfl), hg⟩)
    ·cases hj; exact at_op rfl rfl (nil_op rfl (hI.val hd 5 21 rfl rfl (by kernel_rfl)) ⟨_, rfl, rfl, hg⟩)
    ·cases hj; exact at_op rfl rfl (one_op (hI.val hd 6 22 rfl rfl (by kernel_rfl)) rfl (by kernel_rfl) ⟨_, rfl, rfl, hg⟩)
    ·cases hj
     have e0 : A.eval (.tmp 23) = .pointer (some ⟨g, 28, none⟩) := hI.val hd 7 23 rfl rfl (by kernel_rfl)
     exact at_op rfl rfl (ldv_op rfl Tryz.underlying31 rfl e0 (gc hg.row).vi ⟨_, rfl, rfl, hg⟩)
    ·cases hj
     have e0 : A.eval (.tmp 24) = .slice a l.length c := hI.val hd 8 24 rfl rfl (by kernel_rfl)
     exact at_op rfl rfl (lenM_op rfl e0 ⟨_, rfl, rfl, hg⟩)
    ·cases hj
     have e0 : A.eval (.tmp 20) = .int .i64 (j : Int) := hI.val hd 4 20 rfl rfl (by kernel_rfl)
     have e1 : A.eval (.tmp 25) = .int .i64 (l.length : Int) := hI.val hd 9 25 rfl rfl (by kernel_rfl)
     exact at_op rfl rfl (bin_op rfl e0 e1 (fun w => by first | (simp [go_sem]; done) | (simp [go_sem]; omega)) ⟨_, rfl, rfl, hg⟩)
    ·cases hj; exact at_op rfl rfl (move_op rfl ⟨_, rfl, hI.val hd 10 26 rfl rfl (by kernel_rfl), hg⟩)
    ·cases hj
     have hgv : A.tmps.getD 27 undef = .bool false := hI.val hd 11 27 rfl rfl (by kernel_rfl)
     exact at_skip rfl rfl (j := 11) (k := 27) rfl (by rw [hgv]; simp [undef]) ⟨_, rfl, rfl, hg⟩
    ·cases hj
     have hgv : A.tmps.getD 27 undef = .bool false := hI.val hd 11 27 rfl rfl (by kernel_rfl)
     exact at_skip rfl rfl (j := 11) (k := 27) rfl (by rw [hgv]; simp [undef]) ⟨_, rfl, rfl, hg⟩
    ·cases hj
     have hgv : A.tmps.getD 27 undef = .bool false := hI.val hd 11 27 rfl rfl (by kernel_rfl)
     exact at_skip rfl rfl (j := 11) (k := 27) rfl (by rw [hgv]; simp [undef]) ⟨_, rfl, rfl, hg⟩
    ·cases hj
     have hgv : A.tmps.getD 27 undef = .bool false := hI.val hd 11 27 rfl rfl (by kernel_rfl)
     exact at_skip rfl rfl (j := 11) (k := 27) rfl (by rw [hgv]; simp [undef]) ⟨_, rfl, rfl, hg⟩
    ·cases hj
     have hgv : A.tmps.getD 27 undef = .bool false := hI.val hd 11 27 rfl rfl (by kernel_rfl)
     exact at_skip rfl rfl (j := 11) (k := 27) rfl (by rw [hgv]; simp [undef]) ⟨_, rfl, rfl, hg⟩
    ·cases hj
     have hgv : A.tmps.getD 27 undef = .bool false := hI.val hd 11 27 rfl rfl (by kernel_rfl)
     exact at_skip rfl rfl (j := 11) (k := 27) rfl (by rw [hgv]; simp [undef]) ⟨_, rfl, rfl, hg⟩
    ·cases hj
     have hgv : A.tmps.getD 27 undef = .bool false := hI.val hd 11 27 rfl rfl (by kernel_rfl)
     exact at_skip rfl rfl (j := 11) (k := 27) rfl (by rw [hgv]; simp [undef]) ⟨_, rfl, rfl, hg⟩
    ·cases hj
     have hgv : A.tmps.getD 27 undef = .bool false := hI.val hd 11 27 rfl rfl (by kernel_rfl)
     exact at_skip rfl rfl (j := 11) (k := 27) rfl (by rw [hgv]; simp [undef]) ⟨_, rfl, rfl, hg⟩
    ·cases hj
     have hgv : A.tmps.getD 27 undef = .bool false := hI.val hd 11 27 rfl rfl (by kernel_rfl)
     exact at_skip rfl rfl (j := 11) (k := 27) rfl (by rw [hgv]; simp [undef]) ⟨_, rfl, rfl, hg⟩
    ·cases hj
     have hgv : A.tmps.getD 27 undef = .bool false := hI.val hd 11 27 rfl rfl (by kernel_rfl)
     exact at_skip rfl rfl (j := 11) (k := 27) rfl (by rw [hgv]; simp [undef]) ⟨_, rfl, rfl, hg⟩
    ·cases hj
     have hgv : A.tmps.getD 27 undef = .bool false := hI.val hd 11 27 rfl rfl (by kernel_rfl)
     exact at_skip rfl rfl (j := 11) (k := 27) rfl (by rw [hgv]; simp [undef]) ⟨_, rfl, rfl, hg⟩
    ·cases hj
     have hgv : A.tmps.getD 27 undef = .bool false := hI.val hd 11 27 rfl rfl (by kernel_rfl)
     exact at_skip rfl rfl (j := 11) (k := 27) rfl (by rw [hgv]; simp [undef]) ⟨_, rfl, rfl, hg⟩
    ·cases hj
     have hgv : A.tmps.getD 27 undef = .bool false := hI.val hd 11 27 rfl rfl (by kernel_rfl)
     exact at_skip rfl rfl (j := 11) (k := 27) rfl (by rw [hgv]; simp [undef]) ⟨_, rfl, rfl, hg⟩
    ·cases hj
     have hgv : A.tmps.getD 27 undef = .bool false := hI.val hd 11 27 rfl rfl (by kernel_rfl)
     exact at_skip rfl rfl (j := 11) (k := 27) rfl (by rw [hgv]; simp [undef]) ⟨_, rfl, rfl, hg⟩
    ·cases hj
     have hgv : A.tmps.getD 27 undef = .bool false := hI.val hd 11 27 rfl rfl (by kernel_rfl)
     exact at_skip rfl rfl (j := 11) (k := 27) rfl (by rw [hgv]; simp [undef]) ⟨_, rfl, rfl, hg⟩
    ·cases hj
     have e0 : A.eval (.tmp 27) = .bool false := hI.val hd 11 27 rfl rfl (by kernel_rfl)
     have e1 : A.eval (.tmp 42) = undef := hI.val hd 26 42 rfl rfl (by kernel_rfl)
     exact at_op rfl rfl (pick_op rfl e0 ⟨_, rfl, rfl, hg⟩)
    omega
   case done =>
    intro A W hI
    have hg := hI.g
    have s43 : A.tmps.getD 43 undef = .bool false := hI.last 27 43 rfl
    have hA := hI.frame [16, 17, 18, 19, 20, 21, 22, 23, 24, 25, 26, 27, 28, 29, 30, 31, 32, 33, 34, 35, 36, 37, 38, 39, 40, 41, 42, 43] (by kernel_rfl)
    rw [hA]
    simp only [putAll, List.foldl_cons, List.foldl_nil, s43, Act.put, List.setIfInBounds_toArray, List.set_cons_zero, List.set_cons_succ]
    clear hA hI s43
    go_wp2_with (first
     | (refine ld_m3 rfl rfl rfl hg.own ?_)
     | (refine st_m3 rfl rfl rfl rfl hg.res ?_; rintro w9 r9 o9; have hB9 := below_onto hg.bel o9 (Nat.le_refl _)))
    refine ret_m3 rfl rfl r9 rfl ?_
    exact ⟨by rw [HR.out], hB9⟩
 ·rw [if_neg hx] at hNX
  have hd : (X == 0) = false := by simpa using hx
  go_enter Tryz.func115, Tryz.ntmps115
  go_wp2_with (first
   | (refine al_m3 rfl rfl ?_; intro w0 z0 hb0; have h0 := h.below hb0; have sl0 := hsl.below hb0; have lz0 := z0.lt; have kx0 : w0.cell? ⟨g, 22, none⟩ = some (.int .i64 X) := by rw [hb0.cell (p := ⟨g, 22, none⟩) hgl]; exact kx)
   | (refine bd_m2 rfl rfl rfl ?_)
   | (refine al_m3 rfl rfl ?_; intro w1 q1 hb1; have h1 := h0.below hb1; have sl1 := sl0.below hb1; have z1 := z0.below hb1; have lq1 := q1.lt)
   | (refine st_m3 (m := ⟨X, 0, 0⟩) rfl rfl rfl rfl q1 ?_; rintro w2 q2 o2; have h2 := h1.onto o2 (by omega); have z2 := z1.onto o2 (by omega); have B2 := below_onto (below_more hb0 hb1) o2 (by omega); have sl2 := slF_onto sl1 o2 (fun h0' k hk => by have := sl0.lt h0' k hk; omega); have kq2 : w2.cell? ⟨w0.heap.size, 0, none⟩ = some (.int .i64 X) := q2.cell 0; clear kx kx0))
  have hG : Gn w g w0.heap.size w.heap.size x y vo ve (.slice a l.length c) s co fin l ⟨N, 0, 0⟩ w2 := ⟨h2, by rw [hNX]; exact q2, z2, sl2, B2⟩
  by_cases hlt : j < l.length
  ·obtain ⟨b, off, c', e, -, -, -⟩ := hG.sl.shape (by omega)
   simp only [Value.slice.injEq] at e
   obtain ⟨rfl, -, rfl⟩ := e
   have hlt' : (j : Int) < (l.length : Int) := by omega
   obtain ⟨tt, htt⟩ : ∃ tt, (M3.at' l j).t = tt := ⟨_, rfl⟩
   have HT : Hid ((M3.at' l j).t = tt) := htt
   by_cases hn : tt ≤ N
   ·have HR : Hid (r = M3.at' l j) := show _ = _ by rw [← hr]; unfold St.next; rw [hju, if_pos ⟨by omega, by rw [hN, htt]; exact hn⟩]
    clear htt hr hN hNX hX hju hj
    refine region_known (by kernel_rfl) (by kernel_rfl) 0 (by decide) (by kernel_rfl) (fun _ W => Gn w g w0.heap.size w.heap.size x y vo ve (.slice (some ⟨b, off, none⟩) l.length c) s co fin l ⟨N, 0, 0⟩ W) [.pointer (some ⟨g, 0, none⟩), .pointer (some ⟨g, 0, none⟩), .pointer (some ⟨g, 0, none⟩), .pointer (some ⟨g, 27, none⟩), .int .i64 (j : Int), .pointer (some ⟨g, 0, none⟩), .pointer (some ⟨g, 0, none⟩), .pointer (some ⟨g, 28, none⟩), .slice (some ⟨b, off, none⟩) l.length c, .int .i64 (l.length : Int), .bool true, .bool true, .pointer (some ⟨g, 0, none⟩), .pointer (some ⟨g, 0, none⟩), .pointer (some ⟨g, 28, none⟩), .slice (some ⟨b, off, none⟩) l.length c, .pointer (some ⟨g, 0, none⟩), .pointer (some ⟨g, 0, none⟩), .pointer (some ⟨g, 0, none⟩), .pointer (some ⟨g, 27, none⟩), .int .i64 (j : Int), .pointer (some ⟨b, off + j * 3, none⟩), .pointer (some ⟨b, off + j * 3, none⟩), .int .i64 tt, .pointer (some ⟨w0.heap.size, 0, none⟩), .int .i64 N, .bool true, .bool true] hG.drew ?step ?done
    case step =>
     intro L ix o' A W hj hI hL hd
     have hin : ix < 28 := by
      by_cases hl : ix < 28
      ·exact hl
      ·simp [hl] at hj
     have hsz : A.tmps.size = 56 := hI.size
     have hg := hI.g
     rcases ix with _ | _ | _ | _ | _ | _ | _ | _ | _ | _ | _ | _ | _ | _ | _ | _ | _ | _ | _ | _ | _ | _ | _ | _ | _ | _ | _ | _ | ix
     ·cases hj; exact at_op rfl rfl (move_op rfl ⟨_, rfl, hI.old 0 (by kernel_rfl), hg⟩)
     ·cases hj; exact at_op rfl rfl (nil_op rfl (hI.val hd 0 16 rfl rfl (by kernel_rfl)) ⟨_, rfl, rfl, hg⟩)
     ·cases hj; exact at_op rfl rfl (one_op (hI.val hd 1 17 rfl rfl (by kernel_rfl)) rfl (by kernel_rfl) ⟨_, rfl, rfl, hg⟩)
     ·cases hj; exact at_op rfl rfl (one_op (hI.val hd 2 18 rfl rfl (by kernel_rfl)) rfl (by kernel_rfl) ⟨_, rfl, rfl, hg⟩)
     ·cases hj
      have e0 : A.eval (.tmp 19) = .pointer (some ⟨g, 27, none⟩) := hI.val hd 3 19 rfl rfl (by kernel_rfl)
      exact at_op rfl rfl (load_op rfl Tryz.underlying2 e0 (by have := (gc hg.row).u; rwa [HU.out] at this) ⟨_, rfl, rfl, hg⟩)
     ·cases hj; exact at_op rfl rfl (move_op rfl ⟨_, rfl, hI.old 0 (by kernel_rfl), hg⟩)
     ·cases hj; exact at_op rfl rfl (nil_op rfl (hI.val hd 5 21 rfl rfl (by kernel_rfl)) ⟨_, rfl, rfl, hg⟩)
     ·cases hj; exact at_op rfl rfl (one_op (hI.val hd 6 22 rfl rfl (by kernel_rfl)) rfl (by kernel_rfl) ⟨_, rfl, rfl, hg⟩)
     ·cases hj
      have e0 : A.eval (.tmp 23) = .pointer (some ⟨g, 28, none⟩) := hI.val hd 7 23 rfl rfl (by kernel_rfl)
      exact at_op rfl rfl (ldv_op rfl Tryz.underlying31 rfl e0 (gc hg.row).vi ⟨_, rfl, rfl, hg⟩)
     ·cases hj
      have e0 : A.eval (.tmp 24) = .slice (some ⟨b, off, none⟩) l.length c := hI.val hd 8 24 rfl rfl (by kernel_rfl)
      exact at_op rfl rfl (lenM_op rfl e0 ⟨_, rfl, rfl, hg⟩)
     ·cases hj
      have e0 : A.eval (.tmp 20) = .int .i64 (j : Int) := hI.val hd 4 20 rfl rfl (by kernel_rfl)
      have e1 : A.eval (.tmp 25) = .int .i64 (l.length : Int) := hI.val hd 9 25 rfl rfl (by kernel_rfl)
      exact at_op rfl rfl (bin_op rfl e0 e1 (fun w => by first | (simp [go_sem]; done) | (simp [go_sem]; omega)) ⟨_, rfl, rfl, hg⟩)
     ·cases hj; exact at_op rfl rfl (move_op rfl ⟨_, rfl, hI.val hd 10 26 rfl rfl (by kernel_rfl), hg⟩)
     ·cases hj; exact at_guard rfl rfl (j := 11) (k := 27) rfl (by omega) (hI.val hd 11 27 rfl rfl (by kernel_rfl)) (move_op rfl ⟨_, rfl, hI.old 0 (by kernel_rfl), hg⟩)
     ·cases hj; exact at_guard rfl rfl (j := 11) (k := 27) rfl (by omega) (hI.val hd 11 27 rfl rfl (by kernel_rfl)) (nil_op rfl (hI.val hd 12 28 rfl rfl (by kernel_rfl)) ⟨_, rfl, rfl, hg⟩)
     ·cases hj; exact at_guard rfl rfl (j := 11) (k := 27) rfl (by omega) (hI.val hd 11 27 rfl rfl (by kernel_rfl)) (one_op (hI.val hd 13 29 rfl rfl (by kernel_rfl)) rfl (by kernel_rfl) ⟨_, rfl, rfl, hg⟩)
     ·cases hj
      have hgv : A.tmps.getD 27 undef = .bool true := hI.val hd 11 27 rfl rfl (by kernel_rfl)
      have e0 : A.eval (.tmp 30) = .pointer (some ⟨g, 28, none⟩) := hI.val hd 14 30 rfl rfl (by kernel_rfl)
      exact at_guard rfl rfl (j := 11) (k := 27) rfl (by omega) hgv (ldv_op rfl Tryz.underlying31 rfl e0 (gc hg.row).vi ⟨_, rfl, rfl, hg⟩)
     ·cases hj; exact at_guard rfl rfl (j := 11) (k := 27) rfl (by omega) (hI.val hd 11 27 rfl rfl (by kernel_rfl)) (move_op rfl ⟨_, rfl, hI.old 0 (by kernel_rfl), hg⟩)
     ·cases hj; exact at_guard rfl rfl (j := 11) (k := 27) rfl (by omega) (hI.val hd 11 27 rfl rfl (by kernel_rfl)) (nil_op rfl (hI.val hd 16 32 rfl rfl (by kernel_rfl)) ⟨_, rfl, rfl, hg⟩)
     ·cases hj; exact at_guard rfl rfl (j := 11) (k := 27) rfl (by omega) (hI.val hd 11 27 rfl rfl (by kernel_rfl)) (one_op (hI.val hd 17 33 rfl rfl (by kernel_rfl)) rfl (by kernel_rfl) ⟨_, rfl, rfl, hg⟩)
     ·cases hj; exact at_guard rfl rfl (j := 11) (k := 27) rfl (by omega) (hI.val hd 11 27 rfl rfl (by kernel_rfl)) (one_op (hI.val hd 18 34 rfl rfl (by kernel_rfl)) rfl (by kernel_rfl) ⟨_, rfl, rfl, hg⟩)
     ·cases hj
      have hgv : A.tmps.getD 27 undef = .bool true := hI.val hd 11 27 rfl rfl (by kernel_rfl)
      have e0 : A.eval (.tmp 35) = .pointer (some ⟨g, 27, none⟩) := hI.val hd 19 35 rfl rfl (by kernel_rfl)
      exact at_guard rfl rfl (j := 11) (k := 27) rfl (by omega) hgv (load_op rfl Tryz.underlying2 e0 (by have := (gc hg.row).u; rwa [HU.out] at this) ⟨_, rfl, rfl, hg⟩)
     ·cases hj
      have hgv : A.tmps.getD 27 undef = .bool true := hI.val hd 11 27 rfl rfl (by kernel_rfl)
      have e0 : A.eval (.tmp 31) = .slice (some ⟨b, off, none⟩) l.length c := hI.val hd 15 31 rfl rfl (by kernel_rfl)
      have e1 : A.eval (.tmp 36) = .int .i64 (j : Int) := hI.val hd 20 36 rfl rfl (by kernel_rfl)
      exact at_guard rfl rfl (j := 11) (k := 27) rfl (by omega) hgv (ixF_op okM rfl e0 e1 (by omega) ⟨_, rfl, rfl, hg⟩)
     ·cases hj; exact at_guard rfl rfl (j := 11) (k := 27) rfl (by omega) (hI.val hd 11 27 rfl rfl (by kernel_rfl)) (one_op (hI.val hd 21 37 rfl rfl (by kernel_rfl)) rfl (by kernel_rfl) ⟨_, rfl, rfl, hg⟩)
     ·cases hj
      have hgv : A.tmps.getD 27 undef = .bool true := hI.val hd 11 27 rfl rfl (by kernel_rfl)
      have e0 : A.eval (.tmp 38) = .pointer (some ⟨b, off + j * 3, none⟩) := hI.val hd 22 38 rfl rfl (by kernel_rfl)
      exact at_guard rfl rfl (j := 11) (k := 27) rfl (by omega) hgv (load_op rfl Tryz.underlying2 e0 (by rw [← HT.out]; exact hg.sl.cell okM (at_some (by omega)) (j := 0) (by decide)) ⟨_, rfl, rfl, hg⟩)
     ·cases hj; exact at_guard rfl rfl (j := 11) (k := 27) rfl (by omega) (hI.val hd 11 27 rfl rfl (by kernel_rfl)) (one_op (x := .tmp 3) (hI.old 3 (by kernel_rfl)) rfl (by kernel_rfl) ⟨_, rfl, rfl, hg⟩)
     ·cases hj
      have hgv : A.tmps.getD 27 undef = .bool true := hI.val hd 11 27 rfl rfl (by kernel_rfl)
      have e0 : A.eval (.tmp 40) = .pointer (some ⟨w0.heap.size, 0, none⟩) := hI.val hd 24 40 rfl rfl (by kernel_rfl)
      exact at_guard rfl rfl (j := 11) (k := 27) rfl (by omega) hgv (load_op rfl Tryz.underlying2 e0 (hg.own.cell 0) ⟨_, rfl, rfl, hg⟩)
     ·cases hj
      have hgv : A.tmps.getD 27 undef = .bool true := hI.val hd 11 27 rfl rfl (by kernel_rfl)
      have e0 : A.eval (.tmp 39) = .int .i64 tt := hI.val hd 23 39 rfl rfl (by kernel_rfl)
      have e1 : A.eval (.tmp 41) = .int .i64 N := hI.val hd 25 41 rfl rfl (by kernel_rfl)
      exact at_guard rfl rfl (j := 11) (k := 27) rfl (by omega) hgv (bin_op rfl e0 e1 (fun w => by first | (simp [go_sem, hn]; done) | (simp [go_sem]; omega)) ⟨_, rfl, rfl, hg⟩)
     ·cases hj
      have e0 : A.eval (.tmp 27) = .bool true := hI.val hd 11 27 rfl rfl (by kernel_rfl)
      have e1 : A.eval (.tmp 42) = .bool true := hI.val hd 26 42 rfl rfl (by kernel_rfl)
      exact at_op rfl rfl (pick_op rfl e0 ⟨_, rfl, e1, hg⟩)
     omega
    case done =>
     intro A W hI
     have hg := hI.g
     have s43 : A.tmps.getD 43 undef = .bool true := hI.last 27 43 rfl
     have hA := hI.frame [16, 17, 18, 19, 20, 21, 22, 23, 24, 25, 26, 27, 28, 29, 30, 31, 32, 33, 34, 35, 36, 37, 38, 39, 40, 41, 42, 43] (by kernel_rfl)
     rw [hA]
     simp only [putAll, List.foldl_cons, List.foldl_nil, s43, Act.put, List.setIfInBounds_toArray, List.set_cons_zero, List.set_cons_succ]
     clear hA hI s43
     go_wp2_with fail
     refine region_last (by kernel_rfl) (by kernel_rfl) 11 (by decide) (by kernel_rfl) (by kernel_rfl) (fun W => Gn w g w0.heap.size w.heap.size x y vo ve (.slice (some ⟨b, off, none⟩) l.length c) s co fin l ⟨N, 0, 0⟩ W) (fun W => M3Row W w.heap.size (M3.at' l j) ∧ Below w.heap.size w W) [.pointer (some ⟨g, 0, none⟩), .pointer (some ⟨g, 0, none⟩), .pointer (some ⟨g, 28, none⟩), .slice (some ⟨b, off, none⟩) l.length c, .pointer (some ⟨g, 0, none⟩), .pointer (some ⟨g, 0, none⟩), .pointer (some ⟨g, 0, none⟩), .pointer (some ⟨g, 27, none⟩), .int .i64 (j : Int), .pointer (some ⟨b, off + j * 3, none⟩), (M3.at' l j).val, undef] hg.drew ?step ?last ?done
     case step =>
      intro L ix o' A W hne hj hI hg hd
      have hin : ix < 12 := by
       by_cases hl : ix < 12
       ·exact hl
       ·simp [hl] at hj
      have hsz : A.tmps.size = 56 := hI.size
      rcases ix with _ | _ | _ | _ | _ | _ | _ | _ | _ | _ | _ | _ | ix
      ·cases hj; exact at_op rfl rfl (move_op rfl ⟨_, rfl, hI.old 0 (by kernel_rfl), hg⟩)
      ·cases hj; exact at_op rfl rfl (nil_op rfl (hI.val hd 0 44 rfl rfl (by kernel_rfl)) ⟨_, rfl, rfl, hg⟩)
      ·cases hj; exact at_op rfl rfl (one_op (hI.val hd 1 45 rfl rfl (by kernel_rfl)) rfl (by kernel_rfl) ⟨_, rfl, rfl, hg⟩)
      ·cases hj
       have e0 : A.eval (.tmp 46) = .pointer (some ⟨g, 28, none⟩) := hI.val hd 2 46 rfl rfl (by kernel_rfl)
       exact at_op rfl rfl (ldv_op rfl Tryz.underlying31 rfl e0 (gc hg.row).vi ⟨_, rfl, rfl, hg⟩)
      ·cases hj; exact at_op rfl rfl (move_op rfl ⟨_, rfl, hI.old 0 (by kernel_rfl), hg⟩)
      ·cases hj; exact at_op rfl rfl (nil_op rfl (hI.val hd 4 48 rfl rfl (by kernel_rfl)) ⟨_, rfl, rfl, hg⟩)
      ·cases hj; exact at_op rfl rfl (one_op (hI.val hd 5 49 rfl rfl (by kernel_rfl)) rfl (by kernel_rfl) ⟨_, rfl, rfl, hg⟩)
      ·cases hj; exact at_op rfl rfl (one_op (hI.val hd 6 50 rfl rfl (by kernel_rfl)) rfl (by kernel_rfl) ⟨_, rfl, rfl, hg⟩)
      ·cases hj
       have e0 : A.eval (.tmp 51) = .pointer (some ⟨g, 27, none⟩) := hI.val hd 7 51 rfl rfl (by kernel_rfl)
       exact at_op rfl rfl (load_op rfl Tryz.underlying2 e0 (by have := (gc hg.row).u; rwa [HU.out] at this) ⟨_, rfl, rfl, hg⟩)
      ·cases hj
       have e0 : A.eval (.tmp 47) = .slice (some ⟨b, off, none⟩) l.length c := hI.val hd 3 47 rfl rfl (by kernel_rfl)
       have e1 : A.eval (.tmp 52) = .int .i64 (j : Int) := hI.val hd 8 52 rfl rfl (by kernel_rfl)
       exact at_op rfl rfl (ixF_op okM rfl e0 e1 (by omega) ⟨_, rfl, rfl, hg⟩)
      ·cases hj
       have e0 : A.eval (.tmp 53) = .pointer (some ⟨b, off + j * 3, none⟩) := hI.val hd 9 53 rfl rfl (by kernel_rfl)
       exact at_op rfl rfl (elF_op okM rfl e0 (hg.sl.range okM (at_some (by omega))) ⟨_, rfl, rfl, hg⟩)
      ·exact absurd rfl hne
      omega
     case last =>
      intro L o' A W hj hI hg hd
      cases hj
      have e0 : A.eval (.tmp 2) = .pointer (some ⟨w.heap.size, 0, none⟩) := hI.old 2 (by kernel_rfl)
      have e1 : A.eval (.tmp 54) = (M3.at' l j).val := hI.val hd 10 54 rfl rfl (by kernel_rfl)
      exact at_op rfl rfl (stRow_op rfl e0 e1 hg.res info_m3 rfl (by simp [Value.oneCell']) (fun W2 r2 o2 => ⟨_, rfl, rfl, r2, below_onto hg.bel o2 (Nat.le_refl _)⟩))
     case done =>
      intro A W hI hE
      have hA := hI.frame [44, 45, 46, 47, 48, 49, 50, 51, 52, 53, 54] (by kernel_rfl)
      rw [hA]
      simp only [putAll, List.foldl_cons, List.foldl_nil, Act.put, List.setIfInBounds_toArray, List.set_cons_zero, List.set_cons_succ]
      clear hA hI 
      go_wp2_with fail
      refine ret_m3 rfl rfl hE.1 rfl ?_
      exact ⟨by rw [HR.out], hE.2⟩
   ·have HR : Hid (r = ⟨N, 0, 0⟩) := show _ = _ by rw [← hr]; unfold St.next; rw [hju, if_neg (fun hh => hn (by have := hh.2; rwa [hN, htt] at this)), hN]
    clear htt hr hN hNX hX hju hj
    refine region_known (by kernel_rfl) (by kernel_rfl) 0 (by decide) (by kernel_rfl) (fun _ W => Gn w g w0.heap.size w.heap.size x y vo ve (.slice (some ⟨b, off, none⟩) l.length c) s co fin l ⟨N, 0, 0⟩ W) [.pointer (some ⟨g, 0, none⟩), .pointer (some ⟨g, 0, none⟩), .pointer (some ⟨g, 0, none⟩), .pointer (some ⟨g, 27, none⟩), .int .i64 (j : Int), .pointer (some ⟨g, 0, none⟩), .pointer (some ⟨g, 0, none⟩), .pointer (some ⟨g, 28, none⟩), .slice (some ⟨b, off, none⟩) l.length c, .int .i64 (l.length : Int), .bool true, .bool true, .pointer (some ⟨g, 0, none⟩), .pointer (some ⟨g, 0, none⟩), .pointer (some ⟨g, 28, none⟩), .slice (some ⟨b, off, none⟩) l.length c, .pointer (some ⟨g, 0, none⟩), .pointer (some ⟨g, 0, none⟩), .pointer (some ⟨g, 0, none⟩), .pointer (some ⟨g, 27, none⟩), .int .i64 (j : Int), .pointer (some ⟨b, off + j * 3, none⟩), .pointer (some ⟨b, off + j * 3, none⟩), .int .i64 tt, .pointer (some ⟨w0.heap.size, 0, none⟩), .int .i64 N, .bool false, .bool false] hG.drew ?step ?done
    case step =>
     intro L ix o' A W hj hI hL hd
     have hin : ix < 28 := by
      by_cases hl : ix < 28
      ·exact hl
      ·simp [hl] at hj
     have hsz : A.tmps.size = 56 := hI.size
     have hg := hI.g
     rcases ix with _ | _ | _ | _ | _ | _ | _ | _ | _ | _ | _ | _ | _ | _ | _ | _ | _ | _ | _ | _ | _ | _ | _ | _ | _ | _ | _ | _ | ix
     ·cases hj; exact at_op rfl rfl (move_op rfl ⟨_, rfl, hI.old 0 (by kernel_rfl), hg⟩)
     ·cases hj; exact at_op rfl rfl (nil_op rfl (hI.val hd 0 16 rfl rfl (by kernel_rfl)) ⟨_, rfl, rfl, hg⟩)
     ·cases hj; exact at_op rfl rfl (one_op (hI.val hd 1 17 rfl rfl (by kernel_rfl)) rfl (by kernel_rfl) ⟨_, rfl, rfl, hg⟩)
     ·cases hj; exact at_op rfl rfl (one_op (hI.val hd 2 18 rfl rfl (by kernel_rfl)) rfl (by kernel_rfl) ⟨_, rfl, rfl, hg⟩)
     ·cases hj
      have e0 : A.eval (.tmp 19) = .pointer (some ⟨g, 27, none⟩) := hI.val hd 3 19 rfl rfl (by kernel_rfl)
      exact at_op rfl rfl (load_op rfl Tryz.underlying2 e0 (by have := (gc hg.row).u; rwa [HU.out] at this) ⟨_, rfl, rfl, hg⟩)
     ·cases hj; exact at_op rfl rfl (move_op rfl ⟨_, rfl, hI.old 0 (by kernel_rfl), hg⟩)
     ·cases hj; exact at_op rfl rfl (nil_op rfl (hI.val hd 5 21 rfl rfl (by kernel_rfl)) ⟨_, rfl, rfl, hg⟩)
     ·cases hj; exact at_op rfl rfl (one_op (hI.val hd 6 22 rfl rfl (by kernel_rfl)) rfl (by kernel_rfl) ⟨_, rfl, rfl, hg⟩)
     ·cases hj
      have e0 : A.eval (.tmp 23) = .pointer (some ⟨g, 28, none⟩) := hI.val hd 7 23 rfl rfl (by kernel_rfl)
      exact at_op rfl rfl (ldv_op rfl Tryz.underlying31 rfl e0 (gc hg.row).vi ⟨_, rfl, rfl, hg⟩)
     ·cases hj
      have e0 : A.eval (.tmp 24) = .slice (some ⟨b, off, none⟩) l.length c := hI.val hd 8 24 rfl rfl (by kernel_rfl)
      exact at_op rfl rfl (lenM_op rfl e0 ⟨_, rfl, rfl, hg⟩)
     ·cases hj
      have e0 : A.eval (.tmp 20) = .int .i64 (j : Int) := hI.val hd 4 20 rfl rfl (by kernel_rfl)
      have e1 : A.eval (.tmp 25) = .int .i64 (l.length : Int) := hI.val hd 9 25 rfl rfl (by kernel_rfl)
      exact at_op rfl rfl (bin_op rfl e0 e1 (fun w => by first | (simp [go_sem]; done) | (simp [go_sem]; omega)) ⟨_, rfl, rfl, hg⟩)
     ·cases hj; exact at_op rfl rfl (move_op rfl ⟨_, rfl, hI.val hd 10 26 rfl rfl (by kernel_rfl), hg⟩)
     ·cases hj; exact at_guard rfl rfl (j := 11) (k := 27) rfl (by omega) (hI.val hd 11 27 rfl rfl (by kernel_rfl)) (move_op rfl ⟨_, rfl, hI.old 0 (by kernel_rfl), hg⟩)
     ·cases hj; exact at_guard rfl rfl (j := 11) (k := 27) rfl (by omega) (hI.val hd 11 27 rfl rfl (by kernel_rfl)) (nil_op rfl (hI.val hd 12 28 rfl rfl (by kernel_rfl)) ⟨_, rfl, rfl, hg⟩)
     ·cases hj; exact at_guard rfl rfl (j := 11) (k := 27) rfl (by omega) (hI.val hd 11 27 rfl rfl (by kernel_rfl)) (one_op (hI.val hd 13 29 rfl rfl (by kernel_rfl)) rfl (by kernel_rfl) ⟨_, rfl, rfl, hg⟩)
     ·cases hj
      have hgv : A.tmps.getD 27 undef = .bool true := hI.val hd 11 27 rfl rfl (by kernel_rfl)
      have e0 : A.eval (.tmp 30) = .pointer (some ⟨g, 28, none⟩) := hI.val hd 14 30 rfl rfl (by kernel_rfl)
      exact at_guard rfl rfl (j := 11) (k := 27) rfl (by omega) hgv (ldv_op rfl Tryz.underlying31 rfl e0 (gc hg.row).vi ⟨_, rfl, rfl, hg⟩)
     ·cases hj; exact at_guard rfl rfl (j := 11) (k := 27) rfl (by omega) (hI.val hd 11 27 rfl rfl (by kernel_rfl)) (move_op rfl ⟨_, rfl, hI.old 0 (by kernel_rfl), hg⟩)
     ·cases hj; exact at_guard rfl rfl (j := 11) (k := 27) rfl (by omega) (hI.val hd 11 27 rfl rfl (by kernel_rfl)) (nil_op rfl (hI.val hd 16 32 rfl rfl (by kernel_rfl)) ⟨_, rfl, rfl, hg⟩)
     ·cases hj; exact at_guard rfl rfl (j := 11) (k := 27) rfl (by omega) (hI.val hd 11 27 rfl rfl (by kernel_rfl)) (one_op (hI.val hd 17 33 rfl rfl (by kernel_rfl)) rfl (by kernel_rfl) ⟨_, rfl, rfl, hg⟩)
     ·cases hj; exact at_guard rfl rfl (j := 11) (k := 27) rfl (by omega) (hI.val hd 11 27 rfl rfl (by kernel_rfl)) (one_op (hI.val hd 18 34 rfl rfl (by kernel_rfl)) rfl (by kernel_rfl) ⟨_, rfl, rfl, hg⟩)
     ·cases hj
      have hgv : A.tmps.getD 27 undef = .bool true := hI.val hd 11 27 rfl rfl (by kernel_rfl)
      have e0 : A.eval (.tmp 35) = .pointer (some ⟨g, 27, none⟩) := hI.val hd 19 35 rfl rfl (by kernel_rfl)
      exact at_guard rfl rfl (j := 11) (k := 27) rfl (by omega) hgv (load_op rfl Tryz.underlying2 e0 (by have := (gc hg.row).u; rwa [HU.out] at this) ⟨_, rfl, rfl, hg⟩)
     ·cases hj
      have hgv : A.tmps.getD 27 undef = .bool true := hI.val hd 11 27 rfl rfl (by kernel_rfl)
      have e0 : A.eval (.tmp 31) = .slice (some ⟨b, off, none⟩) l.length c := hI.val hd 15 31 rfl rfl (by kernel_rfl)
      have e1 : A.eval (.tmp 36) = .int .i64 (j : Int) := hI.val hd 20 36 rfl rfl (by kernel_rfl)
      exact at_guard rfl rfl (j := 11) (k := 27) rfl (by omega) hgv (ixF_op okM rfl e0 e1 (by omega) ⟨_, rfl, rfl, hg⟩)
     ·cases hj; exact at_guard rfl rfl (j := 11) (k := 27) rfl (by omega) (hI.val hd 11 27 rfl rfl (by kernel_rfl)) (one_op (hI.val hd 21 37 rfl rfl (by kernel_rfl)) rfl (by kernel_rfl) ⟨_, rfl, rfl, hg⟩)
     ·cases hj
      have hgv : A.tmps.getD 27 undef = .bool true := hI.val hd 11 27 rfl rfl (by kernel_rfl)
      have e0 : A.eval (.tmp 38) = .pointer (some ⟨b, off + j * 3, none⟩) := hI.val hd 22 38 rfl rfl (by kernel_rfl)
      exact at_guard rfl rfl (j := 11) (k := 27) rfl (by omega) hgv (load_op rfl Tryz.underlying2 e0 (by rw [← HT.out]; exact hg.sl.cell okM (at_some (by omega)) (j := 0) (by decide)) ⟨_, rfl, rfl, hg⟩)
     ·cases hj; exact at_guard rfl rfl (j := 11) (k := 27) rfl (by omega) (hI.val hd 11 27 rfl rfl (by kernel_rfl)) (one_op (x := .tmp 3) (hI.old 3 (by kernel_rfl)) rfl (by kernel_rfl) ⟨_, rfl, rfl, hg⟩)
     ·cases hj
      have hgv : A.tmps.getD 27 undef = .bool true := hI.val hd 11 27 rfl rfl (by kernel_rfl)
      have e0 : A.eval (.tmp 40) = .pointer (some ⟨w0.heap.size, 0, none⟩) := hI.val hd 24 40 rfl rfl (by kernel_rfl)
      exact at_guard rfl rfl (j := 11) (k := 27) rfl (by omega) hgv (load_op rfl Tryz.underlying2 e0 (hg.own.cell 0) ⟨_, rfl, rfl, hg⟩)
     ·cases hj
      have hgv : A.tmps.getD 27 undef = .bool true := hI.val hd 11 27 rfl rfl (by kernel_rfl)
      have e0 : A.eval (.tmp 39) = .int .i64 tt := hI.val hd 23 39 rfl rfl (by kernel_rfl)
      have e1 : A.eval (.tmp 41) = .int .i64 N := hI.val hd 25 41 rfl rfl (by kernel_rfl)
      exact at_guard rfl rfl (j := 11) (k := 27) rfl (by omega) hgv (bin_op rfl e0 e1 (fun w => by first | (simp [go_sem, hn]; done) | (simp [go_sem]; omega)) ⟨_, rfl, rfl, hg⟩)
     ·cases hj
      have e0 : A.eval (.tmp 27) = .bool true := hI.val hd 11 27 rfl rfl (by kernel_rfl)
      have e1 : A.eval (.tmp 42) = .bool false := hI.val hd 26 42 rfl rfl (by kernel_rfl)
      exact at_op rfl rfl (pick_op rfl e0 ⟨_, rfl, e1, hg⟩)
     omega
    case done =>
     intro A W hI
     have hg := hI.g
     have s43 : A.tmps.getD 43 undef = .bool false := hI.last 27 43 rfl
     have hA := hI.frame [16, 17, 18, 19, 20, 21, 22, 23, 24, 25, 26, 27, 28, 29, 30, 31, 32, 33, 34, 35, 36, 37, 38, 39, 40, 41, 42, 43] (by kernel_rfl)
     rw [hA]
     simp only [putAll, List.foldl_cons, List.foldl_nil, s43, Act.put, List.setIfInBounds_toArray, List.set_cons_zero, List.set_cons_succ]
     clear hA hI s43
     go_wp2_with (first
      | (refine ld_m3 rfl rfl rfl hg.own ?_)
      | (refine st_m3 rfl rfl rfl rfl hg.res ?_; rintro w9 r9 o9; have hB9 := below_onto hg.bel o9 (Nat.le_refl _)))
     refine ret_m3 rfl rfl r9 rfl ?_
     exact ⟨by rw [HR.out], hB9⟩
  ·have hlt' : ¬ (j : Int) < (l.length : Int) := by omega
   have HR : Hid (r = ⟨N, 0, 0⟩) := show _ = _ by rw [← hr]; unfold St.next; rw [if_neg (fun hh => by have := hh.1; omega), hN]
   clear hr hN hNX hX hju hj
   refine region_known (by kernel_rfl) (by kernel_rfl) 0 (by decide) (by kernel_rfl) (fun _ W => Gn w g w0.heap.size w.heap.size x y vo ve (.slice a l.length c) s co fin l ⟨N, 0, 0⟩ W) [.pointer (some ⟨g, 0, none⟩), .pointer (some ⟨g, 0, none⟩), .pointer (some ⟨g, 0, none⟩), .pointer (some ⟨g, 27, none⟩), .int .i64 (j : Int), .pointer (some ⟨g, 0, none⟩), .pointer (some ⟨g, 0, none⟩), .pointer (some ⟨g, 28, none⟩), .slice a l.length c, .int .i64 (l.length : Int), .bool false, .bool false, undef, undef, undef, undef, undef, undef, undef, undef, undef, undef, undef, undef, undef, undef, undef, .bool false] hG.drew ?step ?done
   case step =>
    intro L ix o' A W hj hI hL hd
    have hin : ix < 28 := by
     by_cases hl : ix < 28
     ·exact hl
     ·simp [hl] at hj
    have hsz : A.tmps.size = 56 := hI.size
    have hg := hI.g
    rcases ix with _ | _ | _ | _ | _ | _ | _ | _ | _ | _ | _ | _ | _ | _ | _ | _ | _ | _ | _ | _ | _ | _ | _ | _ | _ | _ | _ | _ | ix
    ·cases hj; exact at_op rfl rfl (move_op rfl ⟨_, rfl, hI.old 0 (by kernel_rfl), hg⟩)
    ·cases hj; exact at_op rfl rfl (nil_op rfl (hI.val hd 0 16 rfl rfl (by kernel_rfl)) ⟨_, rfl, rfl, hg⟩)
    ·cases hj; exact at_op rfl rfl (one_op (hI.val hd 1 17 rfl rfl (by kernel_rfl)) rfl (by kernel_rfl) ⟨_, rfl, rfl, hg⟩)
    ·cases hj; exact at_op rfl rfl (one_op (hI.val hd 2 18 rfl rfl (by kernel_rfl)) rfl (by kernel_rfl) ⟨_, rfl, rfl, hg⟩)
    ·cases hj
     have e0 : A.eval (.tmp 19) = .pointer (some ⟨g, 27, none⟩) := hI.val hd 3 19 rfl rfl (by kernel_rfl)
     exact at_op rfl rfl (load_op rfl Tryz.underlying2 e0 (by have := (gc hg.row).u; rwa [HU.out] at this) ⟨_, rfl, rfl, hg⟩)
    ·cases hj; exact at_op rfl rfl (move_op rfl ⟨_, rfl, hI.old 0 (by kernel_rfl), hg⟩)
    ·cases hj; exact at_op rfl rfl (nil_op rfl (hI.val hd 5 21 rfl rfl (by kernel_rfl)) ⟨_, rfl, rfl, hg⟩)
    ·cases hj; exact at_op rfl rfl (one_op (hI.val hd 6 22 rfl rfl (by kernel_rfl)) rfl (by kernel_rfl) ⟨_, rfl, rfl, hg⟩)
    ·cases hj
     have e0 : A.eval (.tmp 23) = .pointer (some ⟨g, 28, none⟩) := hI.val hd 7 23 rfl rfl (by kernel_rfl)
     exact at_op rfl rfl (ldv_op rfl Tryz.underlying31 rfl e0 (gc hg.row).vi ⟨_, rfl, rfl, hg⟩)
    ·cases hj
     have e0 : A.eval (.tmp 24) = .slice a l.length c := hI.val hd 8 24 rfl rfl (by kernel_rfl)
     exact at_op rfl rfl (lenM_op rfl e0 ⟨_, rfl, rfl, hg⟩)
    ·cases hj
     have e0 : A.eval (.tmp 20) = .int .i64 (j : Int) := hI.val hd 4 20 rfl rfl (by kernel_rfl)
     have e1 : A.eval (.tmp 25) = .int .i64 (l.length : Int) := hI.val hd 9 25 rfl rfl (by kernel_rfl)
     exact at_op rfl rfl (bin_op rfl e0 e1 (fun w => by first | (simp [go_sem]; done) | (simp [go_sem]; omega)) ⟨_, rfl, rfl, hg⟩)
    ·cases hj; exact at_op rfl rfl (move_op rfl ⟨_, rfl, hI.val hd 10 26 rfl rfl (by kernel_rfl), hg⟩)
    ·cases hj
     have hgv : A.tmps.getD 27 undef = .bool false := hI.val hd 11 27 rfl rfl (by kernel_rfl)
     exact at_skip rfl rfl (j := 11) (k := 27) rfl (by rw [hgv]; simp [undef]) ⟨_, rfl, rfl, hg⟩
    ·cases hj
     have hgv : A.tmps.getD 27 undef = .bool false := hI.val hd 11 27 rfl rfl (by kernel_rfl)
     exact at_skip rfl rfl (j := 11) (k := 27) rfl (by rw [hgv]; simp [undef]) ⟨_, rfl, rfl, hg⟩
    ·cases hj
     have hgv : A.tmps.getD 27 undef = .bool false := hI.val hd 11 27 rfl rfl (by kernel_rfl)
     exact at_skip rfl rfl (j := 11) (k := 27) rfl (by rw [hgv]; simp [undef]) ⟨_, rfl, rfl, hg⟩
    ·cases hj
     have hgv : A.tmps.getD 27 undef = .bool false := hI.val hd 11 27 rfl rfl (by kernel_rfl)
     exact at_skip rfl rfl (j := 11) (k := 27) rfl (by rw [hgv]; simp [undef]) ⟨_, rfl, rfl, hg⟩
    ·cases hj
     have hgv : A.tmps.getD 27 undef = .bool false := hI.val hd 11 27 rfl rfl (by kernel_rfl)
     exact at_skip rfl rfl (j := 11) (k := 27) rfl (by rw [hgv]; simp [undef]) ⟨_, rfl, rfl, hg⟩
    ·cases hj
     have hgv : A.tmps.getD 27 undef = .bool false := hI.val hd 11 27 rfl rfl (by kernel_rfl)
     exact at_skip rfl rfl (j := 11) (k := 27) rfl (by rw [hgv]; simp [undef]) ⟨_, rfl, rfl, hg⟩
    ·cases hj
     have hgv : A.tmps.getD 27 undef = .bool false := hI.val hd 11 27 rfl rfl (by kernel_rfl)
     exact at_skip rfl rfl (j := 11) (k := 27) rfl (by rw [hgv]; simp [undef]) ⟨_, rfl, rfl, hg⟩
    ·cases hj
     have hgv : A.tmps.getD 27 undef = .bool false := hI.val hd 11 27 rfl rfl (by kernel_rfl)
     exact at_skip rfl rfl (j := 11) (k := 27) rfl (by rw [hgv]; simp [undef]) ⟨_, rfl, rfl, hg⟩
    ·cases hj
     have hgv : A.tmps.getD 27 undef = .bool false := hI.val hd 11 27 rfl rfl (by kernel_rfl)
     exact at_skip rfl rfl (j := 11) (k := 27) rfl (by rw [hgv]; simp [undef]) ⟨_, rfl, rfl, hg⟩
    ·cases hj
     have hgv : A.tmps.getD 27 undef = .bool false := hI.val hd 11 27 rfl rfl (by kernel_rfl)
     exact at_skip rfl rfl (j := 11) (k := 27) rfl (by rw [hgv]; simp [undef]) ⟨_, rfl, rfl, hg⟩
    ·cases hj
     have hgv : A.tmps.getD 27 undef = .bool false := hI.val hd 11 27 rfl rfl (by kernel_rfl)
     exact at_skip rfl rfl (j := 11) (k := 27) rfl (by rw [hgv]; simp [undef]) ⟨_, rfl, rfl, hg⟩
    ·cases hj
     have hgv : A.tmps.getD 27 undef = .bool false := hI.val hd 11 27 rfl rfl (by kernel_rfl)
     exact at_skip rfl rfl (j := 11) (k := 27) rfl (by rw [hgv]; simp [undef]) ⟨_, rfl, rfl, hg⟩
    ·cases hj
     have hgv : A.tmps.getD 27 undef = .bool false := hI.val hd 11 27 rfl rfl (by kernel_rfl)
     exact at_skip rfl rfl (j := 11) (k := 27) rfl (by rw [hgv]; simp [undef]) ⟨_, rfl, rfl, hg⟩
    ·cases hj
     have hgv : A.tmps.getD 27 undef = .bool false := hI.val hd 11 27 rfl rfl (by kernel_rfl)
     exact at_skip rfl rfl (j := 11) (k := 27) rfl (by rw [hgv]; simp [undef]) ⟨_, rfl, rfl, hg⟩
    ·cases hj
     have hgv : A.tmps.getD 27 undef = .bool false := hI.val hd 11 27 rfl rfl (by kernel_rfl)
     exact at_skip rfl rfl (j := 11) (k := 27) rfl (by rw [hgv]; simp [undef]) ⟨_, rfl, rfl, hg⟩
    ·cases hj
     have e0 : A.eval (.tmp 27) = .bool false := hI.val hd 11 27 rfl rfl (by kernel_rfl)
     have e1 : A.eval (.tmp 42) = undef := hI.val hd 26 42 rfl rfl (by kernel_rfl)
     exact at_op rfl rfl (pick_op rfl e0 ⟨_, rfl, rfl, hg⟩)
    omega
   case done =>
    intro A W hI
    have hg := hI.g
    have s43 : A.tmps.getD 43 undef = .bool false := hI.last 27 43 rfl
    have hA := hI.frame [16, 17, 18, 19, 20, 21, 22, 23, 24, 25, 26, 27, 28, 29, 30, 31, 32, 33, 34, 35, 36, 37, 38, 39, 40, 41, 42, 43] (by kernel_rfl)
    rw [hA]
    simp only [putAll, List.foldl_cons, List.foldl_nil, s43, Act.put, List.setIfInBounds_toArray, List.set_cons_zero, List.set_cons_succ]
    clear hA hI s43
    go_wp2_with (first
     | (refine ld_m3 rfl rfl rfl hg.own ?_)
     | (refine st_m3 rfl rfl rfl rfl hg.res ?_; rintro w9 r9 o9; have hB9 := below_onto hg.bel o9 (Nat.le_refl _)))
    refine ret_m3 rfl rfl r9 rfl ?_
    exact ⟨by rw [HR.out], hB9⟩
end
end Go.Proofs.YtghmkacamabndaaGreatDoor.Mem
