/-
  What FnSteps leans on: part 9.
-/
import Derived.Lib.AppendZerosOnto
import Derived.Test.YtamldhflkfbdnaaGreatDoorStsP2
import Derived.Test.YtamldhflkfbdnaaGreatDoorStsP7
import Derived.Test.YtamldhflkfbdnaaGreatDoorStsP8
set_option linter.unusedVariables false
set_option linter.unusedSimpArgs false
set_option maxRecDepth 20000
namespace Go.Proofs.YtamldhflkfbdnaaGreatDoor.Mem
open Go.ChangeShapes Go.WideShapes Go.RowKit Base Num Slc Slf Rw Tmr Srl Rom Opl Reg

section
variable {w : World} {base g : Nat} {x y vo ve vi : Value} {s : St} {co fin : Int}
def St.flag (s : St) (b : Int) : St := { s with m := { s.m with fl := bits .or .i64 s.m.fl b } }
def St.tells (s : St) (m : M3) : St := { s with e := s.e ++ [m] }
theorem zEy (i b : Int) (hi : i = 0 ∨ i = 1 ∨ i = 2) (hb : zA1 i = b) (h : GRow w g x y vo ve vi s co fin) :
  Calls Tryz.prog 143 #[.pointer (some ⟨g, 0, none⟩), .int .i64 i] w fun e w' => e = .returned (.tuple #[]) ∧ GRow w' g x y vo ve vi (s.flag b) co fin ∧ Onto g w w' := by
 have HB : Hid (zA1 i = b) := hb
 have hG : GRow w g x y vo ve vi s co fin ∧ Onto g w w := ⟨h, Onto.refl _ _⟩
 clear hb
 go_enter Tryz.func143, Tryz.ntmps143
 go_wp2_with fail
 refine xA (by kernel_rfl) (by kernel_rfl) 13 (by decide) (by kernel_rfl) (by kernel_rfl) (fun W => GRow W g x y vo ve vi s co fin ∧ Onto g w W) (fun W => GRow W g x y vo ve vi (s.flag b) co fin ∧ Onto g w W) [pt g 0, pt g 0, pt g 0, pt g 0, pt g 11, .int .i64 s.m.fl, .int .i64 i, .int .i64 b, .int .i64 (bits .or .i64 s.m.fl b), pt g 0, pt g 0, pt g 0, pt g 11, undef] ⟨hG.1.drewN 1, hG.2.drew⟩ ?step ?last ?done
 case step =>
  intro L ix o' A W hne hj hI hg hd
  have hin : ix < 14 := qB hj
  have hsz : A.tmps.size = 17 := hI.size
  rcases ix with _ | _ | _ | _ | _ | _ | _ | _ | _ | _ | _ | _ | _ | _ | ix
  ·cases hj; exact am rfl rfl rfl (kv (hI.ol 0 rfl) hg)
  ·cases hj; exact zC rfl rfl (qK rfl (hI.vl hd 0 rfl) (kk hg))
  ·cases hj; exact zC rfl rfl (zH (hI.vl hd 1 rfl) rfl (by kernel_rfl) (kk hg))
  ·cases hj; exact zC rfl rfl (zH (hI.vl hd 2 rfl) rfl (by kernel_rfl) (kk hg))
  ·cases hj; exact zC rfl rfl (zH (hI.vl hd 3 rfl) rfl (by kernel_rfl) (kk hg))
  ·cases hj; exact zC rfl rfl (zN rfl Tryz.underlying2 (hI.vl hd 4 rfl) (gc hg.1).fl (kk hg))
  ·cases hj; exact am rfl rfl rfl (kv (hI.ol 1 rfl) hg)
  ·cases hj; have e0 := hI.vl hd 6 rfl
   refine zC rfl rfl (zS rfl Tryz.func213 (by kernel_rfl) (by kernel_rfl) ?_)
   simp only [List.map_cons, List.map_nil, e0]
   refine (xS i _ hi).mono ?_
   rw [HB.out]
   rintro e W1 ⟨rfl, rfl⟩
   exact ⟨_, rfl, _, rfl, rfl, hg⟩
  ·cases hj; exact zC rfl rfl (qP rfl (hI.vl hd 5 rfl) (hI.vl hd 7 rfl) (fun w => by simp [go_sem]) (kk hg))
  ·cases hj; exact zC rfl rfl (qK rfl (hI.vl hd 0 rfl) (kk hg))
  ·cases hj; exact zC rfl rfl (zH (hI.vl hd 9 rfl) rfl (by kernel_rfl) (kk hg))
  ·cases hj; exact zC rfl rfl (zH (hI.vl hd 10 rfl) rfl (by kernel_rfl) (kk hg))
  ·cases hj; exact zC rfl rfl (zH (hI.vl hd 11 rfl) rfl (by kernel_rfl) (kk hg))
  ·exact absurd rfl hne
  omega
 case last =>
  intro L o' A W hj hI hg hd
  cases hj
  have e0 : A.eval (.tmp 16) = .pointer (some ⟨g, 11, none⟩) := hI.val hd 12 16 rfl rfl (by kernel_rfl)
  have e1 : A.eval (.tmp 12) = .int .i64 (bits .or .i64 s.m.fl b) := hI.val hd 8 12 rfl rfl (by kernel_rfl)
  refine zC rfl rfl (zVc rfl e0 e1 hg.1 (by show 11 < 31; omega) (fun W2 r2 o2 => ⟨_, rfl, rfl, r2, hg.2.trans o2⟩))
 case done =>
  intro A W hI hE
  have hA := hI.frame [4, 5, 6, 7, 8, 9, 10, 11, 12, 13, 14, 15, 16] (by kernel_rfl)
  rw [hA]
  simp only [qJ, List.foldl_cons, List.foldl_nil, Act.put, List.setIfInBounds_toArray, List.set_cons_zero, List.set_cons_succ]
  clear hA hI 
  go_wp2
  refine zZ rfl rfl ?_
  exact ⟨rfl, hE⟩
theorem zFw (t k v : Int) (h : GRow w g x y vo ve vi s co fin) (hs : So base w x y vo ve s) (hl : s.e.length ≤ 10000) :
  Calls Tryz.prog 136 #[.pointer (some ⟨g, 0, none⟩), .int .i64 t, .int .i64 k, .int .i64 v] w fun e w' => e = .returned (.tuple #[]) ∧ Gd base g w w' x y vi co fin (s.tells ⟨t, k, v⟩) := by
 have ke := (gc h).e
 have hal : Below w.heap.size w (w.alloc (.cells #[.int .i64 t, .int .i64 k, .int .i64 v] 82)) := (Below.refl _ _).alloc (Nat.le_refl _) _
 have hlit := xO fE okE w.heap.size w #[.int .i64 t, .int .i64 k, .int .i64 v] [⟨t, k, v⟩] rfl (by unfold maxLen; simp) (Nat.le_refl _)
 have h1 := h.below hal
 have hs1 := hs.below hal
 go_enter Tryz.func136, Tryz.ntmps136
 go_wp2_with (first
  | (at_builtin; refine appF okE rfl (.tmp 13) (.tmp 18) rfl base s.e [⟨t, k, v⟩] hs1.e (hlit.sl okE) (by simp; omega) (by have := hs1.ow.le; omega) ?_; intro v2 w2 ho2 hg2; have t2 := Mild.grown vT hs1.e hg2; have r2 := t2.row h1 xE)
  | (refine zWa (l := s.e ++ [⟨t, k, v⟩]) rfl rfl rfl rfl r2 (ho2.one okE) ?_; rintro w3 r3 o3 -))
 refine zZ rfl rfl ?_
 have hs2 : So base w2 x y vo v2 (s.tells ⟨t, k, v⟩) := ⟨(t2.ow hs1.ow).as rfl rfl, hs1.o.grown hg2 (fun k hk e => (OwnF.apart hs1.e hs1.o (by decide)) k hk e), ho2⟩
 exact ⟨rfl, vo, v2, r3, hs2.row o3 r2 xE (by decide), ((Mid.of hal).trans (Mid.mild t2)).trans (Mid.onto o3)⟩
theorem zF0 (t k v : Int) (h : GRow w g x y vo ve vi s co fin) (hs : So base w x y vo ve s) (hl : s.o.length ≤ 10000) (ht : -1 ≤ t ∧ t ≤ 1000000100) :
  Calls Tryz.prog 209 #[.pointer (some ⟨g, 0, none⟩), .int .i64 t, .int .i64 k, .int .i64 v] w fun e w' => e = .returned (.tuple #[]) ∧ Gd base g w w' x y vi co fin (s.sends ⟨t + 8, k, v⟩) ∧ ∀ q, q < w.heap.size → q ≠ g → vo.ownBlock ≠ some q → w'.heap[q]? = w.heap[q]? := by
 have ke := (gc h).o
 have hal : Below w.heap.size w (w.alloc (.cells #[.int .i64 (t + 8), .int .i64 k, .int .i64 v] 40)) := (Below.refl _ _).alloc (Nat.le_refl _) _
 have hlit := xO fM okM w.heap.size w #[.int .i64 (t + 8), .int .i64 k, .int .i64 v] [⟨t + 8, k, v⟩] rfl (by unfold maxLen; simp) (Nat.le_refl _)
 have h1 := h.below hal
 have hs1 := hs.below hal
 go_enter Tryz.func209, Tryz.ntmps209
 go_wp2_with (first
  | (at_builtin; refine appF okM rfl (.tmp 13) (.tmp 19) rfl base s.o [⟨t + 8, k, v⟩] hs1.o (hlit.sl okM) (by simp; omega) (by have := hs1.ow.le; omega) ?_; intro v2 w2 ho2 hg2; have t2 := Mild.grown zBi hs1.o hg2; have r2 := t2.row h1 xE)
  | (refine zV8 (l := s.o ++ [⟨t + 8, k, v⟩]) rfl rfl rfl rfl r2 (ho2.one okM) ?_; rintro w3 r3 o3 -))
 refine zZ rfl rfl ?_
 have hs2 : So base w2 x y v2 ve (s.sends ⟨t + 8, k, v⟩) := ⟨(t2.ow hs1.ow).as rfl rfl, ho2, hs1.e.grown hg2 (fun k hk e => (OwnF.apart hs1.o hs1.e (by decide)) k hk e)⟩
 refine ⟨rfl, ⟨v2, ve, r3, hs2.row o3 r2 xE (by decide), ((Mid.of hal).trans (Mid.mild t2)).trans (Mid.onto o3)⟩, fun q hq hg hv => ?_⟩
 have e1 := hal.size
 have e2 := hg2.size
 rw [o3.block q hg (by omega), hg2.block q (by omega) (fun e => hv e.symm), hal.block q hq]
theorem zC9 (q : Int) (h : GRow w g x y vo ve vi s co fin) (hs : So base w x y vo ve s) (hl : s.e.length ≤ 10000) :
  Calls Tryz.prog 211 #[.pointer (some ⟨g, 0, none⟩), .int .i64 q] w fun e w' => e = .returned (.tuple #[]) ∧ Gd base g w w' x y vi co fin (s.through q) := by
 go_enter Tryz.func211, Tryz.ntmps211
 go_wp2_with (first
  | (go_at_call 143; refine (zEy 1 2 (by simp) (by decide) h).mono ?_; rintro e w1 ⟨rfl, r1, o1⟩; have s1 := (hs.row o1 h xE (by decide)).as (s' := s.flag 2) rfl rfl rfl rfl; have kd : w1.cell? ⟨g, 18, none⟩ = some (.int .i64 s.m.p.d) := (gc r1).pd)
  | (go_at_call 136; refine (zFw q 3 s.m.p.d r1 s1 hl).mono ?_; rintro e w2 ⟨rfl, vo2, ve2, r2, s2, M2⟩))
 refine zZ rfl rfl ?_
 exact ⟨rfl, vo2, ve2, r2, s2, (Mid.onto o1).trans M2⟩
set_option maxHeartbeats 1000000 in
theorem zI2 (h : GRow w g x y vo ve vi s co fin) (hs : So base w x y vo ve s) (hl : s.o.length ≤ 10000) :
  Calls Tryz.prog 140 #[.pointer (some ⟨g, 0, none⟩)] w fun e w' => e = .returned (.tuple #[]) ∧ Gd base g w w' x y vi co fin (s.beats fin) := by
 obtain ⟨P, AA, B, hP⟩ : ∃ P AA B, s.m.p.send fin = (P, AA, B) := ⟨_, _, _, rfl⟩
 have hA : -1 ≤ AA ∧ AA ≤ 1000000000 := by have := zCq s.m.p fin; rwa [hP] at this
 have HQ : Hid (s.beats fin = (s.port P).sends ⟨AA + 8, 1, B⟩) := show _ = _ by unfold St.beats; rw [hP]
 have HP : Hid (s.m.p.send fin = (P, AA, B)) := hP
 have hgl := h.lt
 clear hP
 go_enter Tryz.func140, Tryz.ntmps140
 go_wp2_with fail
 refine zAv (by kernel_rfl) (by kernel_rfl) 15 16 2 (by decide) (by decide) rfl rfl (by kernel_rfl) (by decide) (by kernel_rfl) 28 #[.int .i64 0, .bool false, .bool false, .int .i64 0, .int .i64 0, .bool false] #[.int .i64 P.d, .bool P.b, .bool P.l, .int .i64 P.n, .int .i64 P.x, .bool P.t] rfl [pt g 0, pt g 0, pt g 0, pt g 0, pt g 18, s.m.p.val, pt g 0, pt g 0, pt g 30, .int .i64 fin, .tuple #[P.val, .int .i64 AA, .int .i64 B], .tuple #[P.val, .int .i64 AA, .int .i64 B], P.val, .int .i64 AA, .int .i64 B, undef, undef, .int .i64 AA, .int .i64 B] ?step ?alloc ?store ?done
 case step =>
  intro L ix o' A W hn1 hn2 hj hI hB hd
  have hin : ix < 19 := qB hj
  have hsz : A.tmps.size = 30 := hI.size
  rcases ix with _ | _ | _ | _ | _ | _ | _ | _ | _ | _ | _ | _ | _ | _ | _ | _ | _ | _ | _ | ix
  ·cases hj; exact am rfl rfl rfl (kv (hI.ol 0 rfl) bl)
  ·cases hj; exact zC rfl rfl (qK rfl (hI.vlV hd 0 rfl) (kk bl))
  ·cases hj; exact zC rfl rfl (zH (hI.vlV hd 1 rfl) rfl (by kernel_rfl) (kk bl))
  ·cases hj; exact zC rfl rfl (zH (hI.vlV hd 2 rfl) rfl (by kernel_rfl) (kk bl))
  ·cases hj; exact zC rfl rfl (zH (hI.vlV hd 3 rfl) rfl (by kernel_rfl) (kk bl))
  ·cases hj; exact zC rfl rfl (zH8 rfl (hI.vlV hd 4 rfl) (h.below hB) (kk bl))
  ·cases hj; exact am rfl rfl rfl (kv (hI.ol 0 rfl) bl)
  ·cases hj; exact zC rfl rfl (qK rfl (hI.vlV hd 6 rfl) (kk bl))
  ·cases hj; exact zC rfl rfl (zH (hI.vlV hd 7 rfl) rfl (by kernel_rfl) (kk bl))
  ·cases hj; exact zC rfl rfl (zN rfl Tryz.underlying2 (hI.vlV hd 8 rfl) (gc (h.below hB)).fin (kk bl))
  ·cases hj; have e0 := hI.vlV hd 5 rfl
   have e1 := hI.vlV hd 9 rfl
   refine zC rfl rfl (zS rfl Tryz.func208 (by kernel_rfl) (by kernel_rfl) ?_)
   simp only [List.map_cons, List.map_nil, e0, e1]
   refine (zFz s.m.p fin _).mono ?_
   rw [HP.out]
   rintro e W1 ⟨rfl, hb⟩
   exact ⟨_, rfl, _, rfl, rfl, hb⟩
  ·cases hj; exact am rfl rfl rfl (kv (hI.vlV hd 10 rfl) bl)
  ·cases hj; exact zC rfl rfl (zH (hI.vlV hd 11 rfl) rfl (by kernel_rfl) (kk bl))
  ·cases hj; exact zC rfl rfl (zH (hI.vlV hd 11 rfl) rfl (by kernel_rfl) (kk bl))
  ·cases hj; exact zC rfl rfl (zH (hI.vlV hd 11 rfl) rfl (by kernel_rfl) (kk bl))
  ·exact absurd rfl hn1
  ·exact absurd rfl hn2
  ·cases hj; exact zC rfl rfl (qC rfl (kv (hI.vlV hd 13 rfl) bl))
  ·cases hj; exact zC rfl rfl (qC rfl (kv (hI.vlV hd 14 rfl) bl))
  omega
 case alloc =>
  intro o' A W hj
  cases hj
  exact zC rfl rfl (zI0 rfl ⟨rfl, rfl⟩)
 case store =>
  intro L o' A W b cs hj hI hd eb hr hn
  cases hj
  have e0 : A.eval (.tmp 17) = P.val := hI.valV hd 12 17 rfl rfl (by kernel_rfl) (by decide) (by decide)
  exact zC rfl rfl (zAo rfl eb e0 hr zD4 hn (by simp [Value.oneCell']) (fun W2 r2 o2 => ⟨rfl, r2, o2⟩))
 case done =>
  intro A W b hI hB eb hr hb
  have s3 : A.tmps.getD 3 undef = .int .i64 AA := hI.lastV 17 3 rfl (by decide) (by decide)
  have s4 : A.tmps.getD 4 undef = .int .i64 B := hI.lastV 18 4 rfl (by decide) (by decide)
  have hA := hI.frame [6, 7, 8, 9, 10, 11, 12, 13, 14, 15, 16, 5, 17, 18, 19, 2, 3, 4] (by kernel_rfl)
  rw [hA]
  simp only [qJ, List.foldl_cons, List.foldl_nil, eb, s3, s4, Act.put, List.setIfInBounds_toArray, List.set_cons_zero, List.set_cons_succ]
  clear hA hI eb s3 s4
  have r1 := h.below hB
  have s1 := hs.below hB
  go_wp2_with (first
   | (refine zEq rfl rfl rfl hr ?_)
   | (refine zLf rfl rfl rfl rfl r1 ?_; rintro w2 r2 o2 -; have s2 := (s1.row o2 r1 xE (by decide)).as (s' := s.port P) rfl rfl rfl rfl)
   | (go_at_call 209; refine (zF0 AA 1 B r2 s2 hl (by omega)).mono ?_; rintro e w3 ⟨rfl, ⟨vo3, ve3, r3, s3, M3⟩, N3⟩))
  refine zZ rfl rfl ?_
  rw [HQ.out]
  exact ⟨rfl, vo3, ve3, r3, s3, ((Mid.of hB).trans (Mid.onto o2)).trans M3⟩
set_option maxHeartbeats 1000000 in
theorem zI8 (m : M3) (hk : m.k = 1) (ht : 0 ≤ m.t ∧ m.t ≤ 1000000100) (h : GRow w g x y vo ve vi s co fin) (hs : So base w x y vo ve s) (hl : s.o.length ≤ 10000) (hl2 : s.e.length ≤ 10000) :
  Calls Tryz.prog 141 #[.pointer (some ⟨g, 0, none⟩), m.val] w fun e w' => e = .returned (.tuple #[]) ∧ Gd base g w w' x y vi co fin (s.arrive m) := by
 obtain ⟨P, AA, I, hP⟩ : ∃ P AA I, s.m.p.beat m.v = (P, AA, I) := ⟨_, _, _, rfl⟩
 have hgl := h.lt
 obtain ⟨vm, hvm⟩ : ∃ vm, vm = m.val := ⟨_, rfl⟩
 rw [← hvm]
 cases I
 ·have HQ : Hid (s.arrive m = (s.port P).sends ⟨m.t + 8, 2, AA⟩) := show _ = _ by unfold St.arrive; rw [if_pos hk, hP]; simp
  have HP : Hid (s.m.p.beat m.v = (P, AA, false)) := hP
  clear hP hk
  go_enter Tryz.func141, Tryz.ntmps141
  go_wp2_with (refine xD rfl rfl hvm ?_; intro w0 m0 hb0; have h0 := h.below hb0; have s0 := hs.below hb0; have hm0 := m0.lt)
  refine zAv (by kernel_rfl) (by kernel_rfl) 13 14 4 (by decide) (by decide) rfl rfl (by kernel_rfl) (by decide) (by kernel_rfl) 28 #[.int .i64 0, .bool false, .bool false, .int .i64 0, .int .i64 0, .bool false] #[.int .i64 P.d, .bool P.b, .bool P.l, .int .i64 P.n, .int .i64 P.x, .bool P.t] rfl [pt g 0, pt g 0, pt g 0, pt g 0, pt g 18, s.m.p.val, pt w.heap.size 2, .int .i64 m.v, .tuple #[P.val, .int .i64 AA, .bool false], .tuple #[P.val, .int .i64 AA, .bool false], P.val, .int .i64 AA, .bool false, undef, undef, .int .i64 AA, .bool false] ?step ?alloc ?store ?done
  case step =>
   intro L ix o' A W hn1 hn2 hj hI hB hd
   have hin : ix < 17 := qB hj
   have hsz : A.tmps.size = 36 := hI.size
   rcases ix with _ | _ | _ | _ | _ | _ | _ | _ | _ | _ | _ | _ | _ | _ | _ | _ | _ | ix
   ·cases hj; exact am rfl rfl rfl (kv (hI.ol 0 rfl) bl)
   ·cases hj; exact zC rfl rfl (qK rfl (hI.vlV hd 0 rfl) (kk bl))
   ·cases hj; exact zC rfl rfl (zH (hI.vlV hd 1 rfl) rfl (by kernel_rfl) (kk bl))
   ·cases hj; exact zC rfl rfl (zH (hI.vlV hd 2 rfl) rfl (by kernel_rfl) (kk bl))
   ·cases hj; exact zC rfl rfl (zH (hI.vlV hd 3 rfl) rfl (by kernel_rfl) (kk bl))
   ·cases hj; exact zC rfl rfl (zH8 rfl (hI.vlV hd 4 rfl) (h0.below hB) (kk bl))
   ·cases hj; exact zC rfl rfl (zH (x := .tmp 3) (hI.ol 3 rfl) rfl (by kernel_rfl) (kk bl))
   ·cases hj; exact zC rfl rfl (zN rfl Tryz.underlying2 (hI.vlV hd 6 rfl) ((m0.below hB).cell 2) (kk bl))
   ·cases hj; have e0 := hI.vlV hd 5 rfl
    have e1 := hI.vlV hd 7 rfl
    refine zC rfl rfl (zS rfl Tryz.func210 (by kernel_rfl) (by kernel_rfl) ?_)
    simp only [List.map_cons, List.map_nil, e0, e1]
    refine (zDn s.m.p m.v _).mono ?_
    rw [HP.out]
    rintro e W1 ⟨rfl, hb⟩
    exact ⟨_, rfl, _, rfl, rfl, hb⟩
   ·cases hj; exact am rfl rfl rfl (kv (hI.vlV hd 8 rfl) bl)
   ·cases hj; exact zC rfl rfl (zH (hI.vlV hd 9 rfl) rfl (by kernel_rfl) (kk bl))
   ·cases hj; exact zC rfl rfl (zH (hI.vlV hd 9 rfl) rfl (by kernel_rfl) (kk bl))
   ·cases hj; exact zC rfl rfl (zH (hI.vlV hd 9 rfl) rfl (by kernel_rfl) (kk bl))
   ·exact absurd rfl hn1
   ·exact absurd rfl hn2
   ·cases hj; exact zC rfl rfl (qC rfl (kv (hI.vlV hd 11 rfl) bl))
   ·cases hj; exact zC rfl rfl (qC rfl (kv (hI.vlV hd 12 rfl) bl))
   omega
  case alloc =>
   intro o' A W hj
   cases hj
   exact zC rfl rfl (zI0 rfl ⟨rfl, rfl⟩)
  case store =>
   intro L o' A W b cs hj hI hd eb hr hn
   cases hj
   have e0 : A.eval (.tmp 17) = P.val := hI.valV hd 10 17 rfl rfl (by kernel_rfl) (by decide) (by decide)
   exact zC rfl rfl (zAo rfl eb e0 hr zD4 hn (by simp [Value.oneCell']) (fun W2 r2 o2 => ⟨rfl, r2, o2⟩))
  case done =>
   intro A W b hI hB eb hr hb
   have s5 : A.tmps.getD 5 undef = .int .i64 AA := hI.lastV 15 5 rfl (by decide) (by decide)
   have s6 : A.tmps.getD 6 undef = .bool false := hI.lastV 16 6 rfl (by decide) (by decide)
   have hA := hI.frame [8, 9, 10, 11, 12, 13, 14, 15, 16, 7, 17, 18, 19, 4, 5, 6] (by kernel_rfl)
   rw [hA]
   simp only [qJ, List.foldl_cons, List.foldl_nil, eb, s5, s6, Act.put, List.setIfInBounds_toArray, List.set_cons_zero, List.set_cons_succ]
   clear hA hI eb s5 s6
   have r1 := h0.below hB
   have s1 := s0.below hB
   have m1 := m0.below hB
   have sB := hB.size
   have kt : W.cell? ⟨w.heap.size, 0, none⟩ = some (.int .i64 m.t) := m1.cell 0
   go_wp2_with (first
    | (refine zEq rfl rfl rfl hr ?_)
    | (refine zLf rfl rfl rfl rfl r1 ?_; rintro w2 r2 o2 -; have s2 := (s1.row o2 r1 xE (by decide)).as (s' := s.port P) rfl rfl rfl rfl; have m2 := m1.onto o2 (by omega); have kt2 : w2.cell? ⟨w.heap.size, 0, none⟩ = some (.int .i64 m.t) := m2.cell 0; clear kt)
    | (go_at_call 209; refine (zF0 m.t 2 AA r2 s2 hl (by omega)).mono ?_; rintro e w3 ⟨rfl, ⟨vo3, ve3, r3, s3, M3⟩, N3⟩))
   refine zZ rfl rfl ?_
   rw [HQ.out]
   exact ⟨rfl, vo3, ve3, r3, s3, ((Mid.of (zD hb0 hB)).trans (Mid.onto o2)).trans M3⟩
 ·have HQ : Hid (s.arrive m = ((s.port P).sends ⟨m.t + 8, 2, AA⟩).through m.t) := show _ = _ by unfold St.arrive; rw [if_pos hk, hP]; simp
  have HP : Hid (s.m.p.beat m.v = (P, AA, true)) := hP
  clear hP hk
  go_enter Tryz.func141, Tryz.ntmps141
  go_wp2_with (refine xD rfl rfl hvm ?_; intro w0 m0 hb0; have h0 := h.below hb0; have s0 := hs.below hb0; have hm0 := m0.lt)
  refine zAv (by kernel_rfl) (by kernel_rfl) 13 14 4 (by decide) (by decide) rfl rfl (by kernel_rfl) (by decide) (by kernel_rfl) 28 #[.int .i64 0, .bool false, .bool false, .int .i64 0, .int .i64 0, .bool false] #[.int .i64 P.d, .bool P.b, .bool P.l, .int .i64 P.n, .int .i64 P.x, .bool P.t] rfl [pt g 0, pt g 0, pt g 0, pt g 0, pt g 18, s.m.p.val, pt w.heap.size 2, .int .i64 m.v, .tuple #[P.val, .int .i64 AA, .bool true], .tuple #[P.val, .int .i64 AA, .bool true], P.val, .int .i64 AA, .bool true, undef, undef, .int .i64 AA, .bool true] ?step ?alloc ?store ?done
  case step =>
   intro L ix o' A W hn1 hn2 hj hI hB hd
   have hin : ix < 17 := qB hj
   have hsz : A.tmps.size = 36 := hI.size
   rcases ix with _ | _ | _ | _ | _ | _ | _ | _ | _ | _ | _ | _ | _ | _ | _ | _ | _ | ix
   ·cases hj; exact am rfl rfl rfl (kv (hI.ol 0 rfl) bl)
   ·cases hj; exact zC rfl rfl (qK rfl (hI.vlV hd 0 rfl) (kk bl))
   ·cases hj; exact zC rfl rfl (zH (hI.vlV hd 1 rfl) rfl (by kernel_rfl) (kk bl))
   ·cases hj; exact zC rfl rfl (zH (hI.vlV hd 2 rfl) rfl (by kernel_rfl) (kk bl))
   ·cases hj; exact zC rfl rfl (zH (hI.vlV hd 3 rfl) rfl (by kernel_rfl) (kk bl))
   ·cases hj; exact zC rfl rfl (zH8 rfl (hI.vlV hd 4 rfl) (h0.below hB) (kk bl))
   ·cases hj; exact zC rfl rfl (zH (x := .tmp 3) (hI.ol 3 rfl) rfl (by kernel_rfl) (kk bl))
   ·cases hj; exact zC rfl rfl (zN rfl Tryz.underlying2 (hI.vlV hd 6 rfl) ((m0.below hB).cell 2) (kk bl))
   ·cases hj; have e0 := hI.vlV hd 5 rfl
    have e1 := hI.vlV hd 7 rfl
    refine zC rfl rfl (zS rfl Tryz.func210 (by kernel_rfl) (by kernel_rfl) ?_)
    simp only [List.map_cons, List.map_nil, e0, e1]
    refine (zDn s.m.p m.v _).mono ?_
    rw [HP.out]
    rintro e W1 ⟨rfl, hb⟩
    exact ⟨_, rfl, _, rfl, rfl, hb⟩
   ·cases hj; exact am rfl rfl rfl (kv (hI.vlV hd 8 rfl) bl)
   ·cases hj; exact zC rfl rfl (zH (hI.vlV hd 9 rfl) rfl (by kernel_rfl) (kk bl))
   ·cases hj; exact zC rfl rfl (zH (hI.vlV hd 9 rfl) rfl (by kernel_rfl) (kk bl))
   ·cases hj; exact zC rfl rfl (zH (hI.vlV hd 9 rfl) rfl (by kernel_rfl) (kk bl))
   ·exact absurd rfl hn1
   ·exact absurd rfl hn2
   ·cases hj; exact zC rfl rfl (qC rfl (kv (hI.vlV hd 11 rfl) bl))
   ·cases hj; exact zC rfl rfl (qC rfl (kv (hI.vlV hd 12 rfl) bl))
   omega
  case alloc =>
   intro o' A W hj
   cases hj
   exact zC rfl rfl (zI0 rfl ⟨rfl, rfl⟩)
  case store =>
   intro L o' A W b cs hj hI hd eb hr hn
   cases hj
   have e0 : A.eval (.tmp 17) = P.val := hI.valV hd 10 17 rfl rfl (by kernel_rfl) (by decide) (by decide)
   exact zC rfl rfl (zAo rfl eb e0 hr zD4 hn (by simp [Value.oneCell']) (fun W2 r2 o2 => ⟨rfl, r2, o2⟩))
  case done =>
   intro A W b hI hB eb hr hb
   have s5 : A.tmps.getD 5 undef = .int .i64 AA := hI.lastV 15 5 rfl (by decide) (by decide)
   have s6 : A.tmps.getD 6 undef = .bool true := hI.lastV 16 6 rfl (by decide) (by decide)
   have hA := hI.frame [8, 9, 10, 11, 12, 13, 14, 15, 16, 7, 17, 18, 19, 4, 5, 6] (by kernel_rfl)
   rw [hA]
   simp only [qJ, List.foldl_cons, List.foldl_nil, eb, s5, s6, Act.put, List.setIfInBounds_toArray, List.set_cons_zero, List.set_cons_succ]
   clear hA hI eb s5 s6
   have r1 := h0.below hB
   have s1 := s0.below hB
   have m1 := m0.below hB
   have sB := hB.size
   have kt : W.cell? ⟨w.heap.size, 0, none⟩ = some (.int .i64 m.t) := m1.cell 0
   go_wp2_with (first
    | (refine zEq rfl rfl rfl hr ?_)
    | (refine zLf rfl rfl rfl rfl r1 ?_; rintro w2 r2 o2 -; have s2 := (s1.row o2 r1 xE (by decide)).as (s' := s.port P) rfl rfl rfl rfl; have m2 := m1.onto o2 (by omega); have kt2 : w2.cell? ⟨w.heap.size, 0, none⟩ = some (.int .i64 m.t) := m2.cell 0; clear kt)
    | (go_at_call 209; refine (zF0 m.t 2 AA r2 s2 hl (by omega)).mono ?_; rintro e w3 ⟨rfl, ⟨vo3, ve3, r3, s3, M3⟩, N3⟩; have n3 : w3.heap[w.heap.size]? = w2.heap[w.heap.size]? := N3 w.heap.size m2.lt (by omega) (fun e => by have := (hs.o.lt _ e).2; omega); have kt3 : w3.cell? ⟨w.heap.size, 0, none⟩ = some (.int .i64 m.t) := (World.cell?_of_block (w := w2) (a := ⟨w.heap.size, 0, none⟩) n3).trans kt2; clear kt2)
    | (go_at_call 211; refine (zC9 m.t r3 s3 hl2).mono ?_; rintro e w4 ⟨rfl, vo4, ve4, r4, s4, M4⟩))
   refine zZ rfl rfl ?_
   rw [HQ.out]
   exact ⟨rfl, vo4, ve4, r4, s4, (((Mid.of (zD hb0 hB)).trans (Mid.onto o2)).trans M3).trans M4⟩
set_option maxHeartbeats 1000000 in
theorem zG4 (m : M3) (hk : m.k = 2) (h : GRow w g x y vo ve vi s co fin) (hs : So base w x y vo ve s) (hl2 : s.e.length ≤ 10000) :
  Calls Tryz.prog 142 #[.pointer (some ⟨g, 0, none⟩), m.val] w fun e w' => e = .returned (.tuple #[]) ∧ Gd base g w w' x y vi co fin (s.arrive m) := by
 obtain ⟨P, I, hP⟩ : ∃ P I, s.m.p.answer m.v m.t = (P, I) := ⟨_, _, rfl⟩
 have hgl := h.lt
 obtain ⟨vm, hvm⟩ : ∃ vm, vm = m.val := ⟨_, rfl⟩
 rw [← hvm]
 cases I
 ·have HQ : Hid (s.arrive m = s.port P) := show _ = _ by unfold St.arrive; rw [if_neg (by omega), if_pos hk, hP]; simp
  have HP : Hid (s.m.p.answer m.v m.t = (P, false)) := hP
  clear hP hk
  go_enter Tryz.func142, Tryz.ntmps142
  go_wp2_with (refine xD rfl rfl hvm ?_; intro w0 m0 hb0; have h0 := h.below hb0; have s0 := hs.below hb0; have hm0 := m0.lt)
  refine zAv (by kernel_rfl) (by kernel_rfl) 14 15 4 (by decide) (by decide) rfl rfl (by kernel_rfl) (by decide) (by kernel_rfl) 28 #[.int .i64 0, .bool false, .bool false, .int .i64 0, .int .i64 0, .bool false] #[.int .i64 P.d, .bool P.b, .bool P.l, .int .i64 P.n, .int .i64 P.x, .bool P.t] rfl [pt g 0, pt g 0, pt g 0, pt g 0, pt g 18, s.m.p.val, pt w.heap.size 2, .int .i64 m.v, pt w.heap.size 0, .int .i64 m.t, .tuple #[P.val, .bool false], .tuple #[P.val, .bool false], P.val, .bool false, undef, undef, .bool false] ?step ?alloc ?store ?done
  case step =>
   intro L ix o' A W hn1 hn2 hj hI hB hd
   have hin : ix < 17 := qB hj
   have hsz : A.tmps.size = 31 := hI.size
   rcases ix with _ | _ | _ | _ | _ | _ | _ | _ | _ | _ | _ | _ | _ | _ | _ | _ | _ | ix
   ·cases hj; exact am rfl rfl rfl (kv (hI.ol 0 rfl) bl)
   ·cases hj; exact zC rfl rfl (qK rfl (hI.vlV hd 0 rfl) (kk bl))
   ·cases hj; exact zC rfl rfl (zH (hI.vlV hd 1 rfl) rfl (by kernel_rfl) (kk bl))
   ·cases hj; exact zC rfl rfl (zH (hI.vlV hd 2 rfl) rfl (by kernel_rfl) (kk bl))
   ·cases hj; exact zC rfl rfl (zH (hI.vlV hd 3 rfl) rfl (by kernel_rfl) (kk bl))
   ·cases hj; exact zC rfl rfl (zH8 rfl (hI.vlV hd 4 rfl) (h0.below hB) (kk bl))
   ·cases hj; exact zC rfl rfl (zH (x := .tmp 3) (hI.ol 3 rfl) rfl (by kernel_rfl) (kk bl))
   ·cases hj; exact zC rfl rfl (zN rfl Tryz.underlying2 (hI.vlV hd 6 rfl) ((m0.below hB).cell 2) (kk bl))
   ·cases hj; exact zC rfl rfl (zH (x := .tmp 3) (hI.ol 3 rfl) rfl (by kernel_rfl) (kk bl))
   ·cases hj; exact zC rfl rfl (zN rfl Tryz.underlying2 (hI.vlV hd 8 rfl) ((m0.below hB).cell 0) (kk bl))
   ·cases hj; have e0 := hI.vlV hd 5 rfl
    have e1 := hI.vlV hd 7 rfl
    have e2 := hI.vlV hd 9 rfl
    refine zC rfl rfl (zS rfl Tryz.func212 (by kernel_rfl) (by kernel_rfl) ?_)
    simp only [List.map_cons, List.map_nil, e0, e1, e2]
    refine (zCp s.m.p m.v m.t _).mono ?_
    rw [HP.out]
    rintro e W1 ⟨rfl, hb⟩
    exact ⟨_, rfl, _, rfl, rfl, hb⟩
   ·cases hj; exact am rfl rfl rfl (kv (hI.vlV hd 10 rfl) bl)
   ·cases hj; exact zC rfl rfl (zH (hI.vlV hd 11 rfl) rfl (by kernel_rfl) (kk bl))
   ·cases hj; exact zC rfl rfl (zH (hI.vlV hd 11 rfl) rfl (by kernel_rfl) (kk bl))
   ·exact absurd rfl hn1
   ·exact absurd rfl hn2
   ·cases hj; exact zC rfl rfl (qC rfl (kv (hI.vlV hd 13 rfl) bl))
   omega
  case alloc =>
   intro o' A W hj
   cases hj
   exact zC rfl rfl (zI0 rfl ⟨rfl, rfl⟩)
  case store =>
   intro L o' A W b cs hj hI hd eb hr hn
   cases hj
   have e0 : A.eval (.tmp 18) = P.val := hI.valV hd 12 18 rfl rfl (by kernel_rfl) (by decide) (by decide)
   exact zC rfl rfl (zAo rfl eb e0 hr zD4 hn (by simp [Value.oneCell']) (fun W2 r2 o2 => ⟨rfl, r2, o2⟩))
  case done =>
   intro A W b hI hB eb hr hb
   have s5 : A.tmps.getD 5 undef = .bool false := hI.lastV 16 5 rfl (by decide) (by decide)
   have hA := hI.frame [7, 8, 9, 10, 11, 12, 13, 14, 15, 16, 17, 6, 18, 19, 4, 5] (by kernel_rfl)
   rw [hA]
   simp only [qJ, List.foldl_cons, List.foldl_nil, eb, s5, Act.put, List.setIfInBounds_toArray, List.set_cons_zero, List.set_cons_succ]
   clear hA hI eb s5
   have r1 := h0.below hB
   have s1 := s0.below hB
   have m1 := m0.below hB
   have sB := hB.size
   go_wp2_with (first
    | (refine zEq rfl rfl rfl hr ?_)
    | (refine zLf rfl rfl rfl rfl r1 ?_; rintro w2 r2 o2 -; have s2 := (s1.row o2 r1 xE (by decide)).as (s' := s.port P) rfl rfl rfl rfl; have m2 := m1.onto o2 (by omega); have kt2 : w2.cell? ⟨w.heap.size, 0, none⟩ = some (.int .i64 m.t) := m2.cell 0))
   refine zZ rfl rfl ?_
   rw [HQ.out]
   exact ⟨rfl, vo, ve, r2, s2, (Mid.of (zD hb0 hB)).trans (Mid.onto o2)⟩
 ·have HQ : Hid (s.arrive m = (s.port P).through m.t) := show _ = _ by unfold St.arrive; rw [if_neg (by omega), if_pos hk, hP]; simp
  have HP : Hid (s.m.p.answer m.v m.t = (P, true)) := hP
  clear hP hk
  go_enter Tryz.func142, Tryz.ntmps142
  go_wp2_with (refine xD rfl rfl hvm ?_; intro w0 m0 hb0; have h0 := h.below hb0; have s0 := hs.below hb0; have hm0 := m0.lt)
  refine zAv (by kernel_rfl) (by kernel_rfl) 14 15 4 (by decide) (by decide) rfl rfl (by kernel_rfl) (by decide) (by kernel_rfl) 28 #[.int .i64 0, .bool false, .bool false, .int .i64 0, .int .i64 0, .bool false] #[.int .i64 P.d, .bool P.b, .bool P.l, .int .i64 P.n, .int .i64 P.x, .bool P.t] rfl [pt g 0, pt g 0, pt g 0, pt g 0, pt g 18, s.m.p.val, pt w.heap.size 2, .int .i64 m.v, pt w.heap.size 0, .int .i64 m.t, .tuple #[P.val, .bool true], .tuple #[P.val, .bool true], P.val, .bool true, undef, undef, .bool true] ?step ?alloc ?store ?done
  case step =>
   intro L ix o' A W hn1 hn2 hj hI hB hd
   have hin : ix < 17 := qB hj
   have hsz : A.tmps.size = 31 := hI.size
   rcases ix with _ | _ | _ | _ | _ | _ | _ | _ | _ | _ | _ | _ | _ | _ | _ | _ | _ | ix
   ·cases hj; exact am rfl rfl rfl (kv (hI.ol 0 rfl) bl)
   ·cases hj; exact zC rfl rfl (qK rfl (hI.vlV hd 0 rfl) (kk bl))
   ·cases hj; exact zC rfl rfl (zH (hI.vlV hd 1 rfl) rfl (by kernel_rfl) (kk bl))
   ·cases hj; exact zC rfl rfl (zH (hI.vlV hd 2 rfl) rfl (by kernel_rfl) (kk bl))
   ·cases hj; exact zC rfl rfl (zH (hI.vlV hd 3 rfl) rfl (by kernel_rfl) (kk bl))
   ·cases hj; exact zC rfl rfl (zH8 rfl (hI.vlV hd 4 rfl) (h0.below hB) (kk bl))
   ·cases hj; exact zC rfl rfl (zH (x := .tmp 3) (hI.ol 3 rfl) rfl (by kernel_rfl) (kk bl))
   ·cases hj; exact zC rfl rfl (zN rfl Tryz.underlying2 (hI.vlV hd 6 rfl) ((m0.below hB).cell 2) (kk bl))
   ·cases hj; exact zC rfl rfl (zH (x := .tmp 3) (hI.ol 3 rfl) rfl (by kernel_rfl) (kk bl))
   ·cases hj; exact zC rfl rfl (zN rfl Tryz.underlying2 (hI.vlV hd 8 rfl) ((m0.below hB).cell 0) (kk bl))
   ·cases hj; have e0 := hI.vlV hd 5 rfl
    have e1 := hI.vlV hd 7 rfl
    have e2 := hI.vlV hd 9 rfl
    refine zC rfl rfl (zS rfl Tryz.func212 (by kernel_rfl) (by kernel_rfl) ?_)
    simp only [List.map_cons, List.map_nil, e0, e1, e2]
    refine (zCp s.m.p m.v m.t _).mono ?_
    rw [HP.out]
    rintro e W1 ⟨rfl, hb⟩
    exact ⟨_, rfl, _, rfl, rfl, hb⟩
   ·cases hj; exact am rfl rfl rfl (kv (hI.vlV hd 10 rfl) bl)
   ·cases hj; exact zC rfl rfl (zH (hI.vlV hd 11 rfl) rfl (by kernel_rfl) (kk bl))
   ·cases hj; exact zC rfl rfl (zH (hI.vlV hd 11 rfl) rfl (by kernel_rfl) (kk bl))
   ·exact absurd rfl hn1
   ·exact absurd rfl hn2
   ·cases hj; exact zC rfl rfl (qC rfl (kv (hI.vlV hd 13 rfl) bl))
   omega
  case alloc =>
   intro o' A W hj
   cases hj
   exact zC rfl rfl (zI0 rfl ⟨rfl, rfl⟩)
  case store =>
   intro L o' A W b cs hj hI hd eb hr hn
   cases hj
   have e0 : A.eval (.tmp 18) = P.val := hI.valV hd 12 18 rfl rfl (by kernel_rfl) (by decide) (by decide)
   exact zC rfl rfl (zAo rfl eb e0 hr zD4 hn (by simp [Value.oneCell']) (fun W2 r2 o2 => ⟨rfl, r2, o2⟩))
  case done =>
   intro A W b hI hB eb hr hb
   have s5 : A.tmps.getD 5 undef = .bool true := hI.lastV 16 5 rfl (by decide) (by decide)
   have hA := hI.frame [7, 8, 9, 10, 11, 12, 13, 14, 15, 16, 17, 6, 18, 19, 4, 5] (by kernel_rfl)
   rw [hA]
   simp only [qJ, List.foldl_cons, List.foldl_nil, eb, s5, Act.put, List.setIfInBounds_toArray, List.set_cons_zero, List.set_cons_succ]
   clear hA hI eb s5
   have r1 := h0.below hB
   have s1 := s0.below hB
   have m1 := m0.below hB
   have sB := hB.size
   go_wp2_with (first
    | (refine zEq rfl rfl rfl hr ?_)
    | (refine zLf rfl rfl rfl rfl r1 ?_; rintro w2 r2 o2 -; have s2 := (s1.row o2 r1 xE (by decide)).as (s' := s.port P) rfl rfl rfl rfl; have m2 := m1.onto o2 (by omega); have kt2 : w2.cell? ⟨w.heap.size, 0, none⟩ = some (.int .i64 m.t) := m2.cell 0)
    | (go_at_call 211; refine (zC9 m.t r2 s2 hl2).mono ?_; rintro e w4 ⟨rfl, vo4, ve4, r4, s4, M4⟩))
   refine zZ rfl rfl ?_
   rw [HQ.out]
   exact ⟨rfl, vo4, ve4, r4, s4, ((Mid.of (zD hb0 hB)).trans (Mid.onto o2)).trans M4⟩
set_option maxHeartbeats 1000000 in
theorem zI6 (h : GRow w g x y vo ve vi s co fin) (hs : So base w x y vo ve s) :
  Calls Tryz.prog 63 #[.pointer (some ⟨g, 0, none⟩)] w fun e w' => e = .returned (.tuple #[]) ∧ Gd base g w w' x y vi co fin (s.closed co fin) := by
 obtain ⟨TA, RD, hTA⟩ : ∃ TA RD, s.m.t.after co = (TA, RD) := ⟨_, _, rfl⟩
 have hgl := h.lt
 have HT : Hid (s.m.t.after co = (TA, RD)) := hTA
 by_cases hrd : 0 < RD
 ·have HQ : Hid (s.closed co fin = { s with m := { s.m with t := TA, k := fin, fl := bits .or .i64 s.m.fl 1 } }) := show _ = _ by unfold St.closed; rw [hTA, if_pos hrd]
  clear hTA
  go_enter Tryz.func63, Tryz.ntmps63
  go_wp2_with fail
  refine zAv (by kernel_rfl) (by kernel_rfl) 14 15 2 (by decide) (by decide) rfl rfl (by kernel_rfl) (by decide) (by kernel_rfl) 26 #[.int .i64 0, .int .i64 0, .int .i64 0, .int .i64 0] #[.int .i64 TA.c, .int .i64 TA.v, .int .i64 TA.s, .int .i64 TA.m] rfl [pt g 0, pt g 0, pt g 0, pt g 0, pt g 14, s.m.t.val, pt g 0, pt g 0, pt g 29, .int .i64 co, .tuple #[TA.val, .int .i64 RD], .tuple #[TA.val, .int .i64 RD], TA.val, .int .i64 RD, undef, undef, .int .i64 RD] ?step ?alloc ?store ?done
  case step =>
   intro L ix o' A W hn1 hn2 hj hI hB hd
   have hin : ix < 17 := qB hj
   have hsz : A.tmps.size = 37 := hI.size
   rcases ix with _ | _ | _ | _ | _ | _ | _ | _ | _ | _ | _ | _ | _ | _ | _ | _ | _ | ix
   ·cases hj; exact am rfl rfl rfl (kv (hI.ol 0 rfl) bl)
   ·cases hj; exact zC rfl rfl (qK rfl (hI.vlV hd 0 rfl) (kk bl))
   ·cases hj; exact zC rfl rfl (zH (hI.vlV hd 1 rfl) rfl (by kernel_rfl) (kk bl))
   ·cases hj; exact zC rfl rfl (zH (hI.vlV hd 2 rfl) rfl (by kernel_rfl) (kk bl))
   ·cases hj; exact zC rfl rfl (zH (hI.vlV hd 3 rfl) rfl (by kernel_rfl) (kk bl))
   ·cases hj; exact zC rfl rfl (zRp rfl (hI.vlV hd 4 rfl) (h.below hB) (kk bl))
   ·cases hj; exact am rfl rfl rfl (kv (hI.ol 0 rfl) bl)
   ·cases hj; exact zC rfl rfl (qK rfl (hI.vlV hd 6 rfl) (kk bl))
   ·cases hj; exact zC rfl rfl (zH (hI.vlV hd 7 rfl) rfl (by kernel_rfl) (kk bl))
   ·cases hj; exact zC rfl rfl (zN rfl Tryz.underlying2 (hI.vlV hd 8 rfl) (gc (h.below hB)).co (kk bl))
   ·cases hj; have e0 := hI.vlV hd 5 rfl
    have e1 := hI.vlV hd 9 rfl
    refine zC rfl rfl (zS rfl Tryz.func144 (by kernel_rfl) (by kernel_rfl) ?_)
    simp only [List.map_cons, List.map_nil, e0, e1]
    refine (zDl s.m.t co _).mono ?_
    rw [HT.out]
    rintro e W1 ⟨rfl, hb⟩
    exact ⟨_, rfl, _, rfl, rfl, hb⟩
   ·cases hj; exact am rfl rfl rfl (kv (hI.vlV hd 10 rfl) bl)
   ·cases hj; exact zC rfl rfl (zH (hI.vlV hd 11 rfl) rfl (by kernel_rfl) (kk bl))
   ·cases hj; exact zC rfl rfl (zH (hI.vlV hd 11 rfl) rfl (by kernel_rfl) (kk bl))
   ·exact absurd rfl hn1
   ·exact absurd rfl hn2
   ·cases hj; exact zC rfl rfl (qC rfl (kv (hI.vlV hd 13 rfl) bl))
   omega
  case alloc =>
   intro o' A W hj
   cases hj
   exact zC rfl rfl (zTg rfl ⟨rfl, rfl⟩)
  case store =>
   intro L o' A W b cs hj hI hd eb hr hn
   cases hj
   have e0 : A.eval (.tmp 16) = TA.val := hI.valV hd 12 16 rfl rfl (by kernel_rfl) (by decide) (by decide)
   exact zC rfl rfl (zAo rfl eb e0 hr zE2 hn (by simp [Value.oneCell']) (fun W2 r2 o2 => ⟨rfl, r2, o2⟩))
  case done =>
   intro A W b hI hB eb hr hb
   have s3 : A.tmps.getD 3 undef = .int .i64 RD := hI.lastV 16 3 rfl (by decide) (by decide)
   have hA := hI.frame [5, 6, 7, 8, 9, 10, 11, 12, 13, 14, 15, 4, 16, 17, 2, 3] (by kernel_rfl)
   rw [hA]
   simp only [qJ, List.foldl_cons, List.foldl_nil, eb, s3, Act.put, List.setIfInBounds_toArray, List.set_cons_zero, List.set_cons_succ]
   clear hA hI eb s3
   have r1 := h.below hB
   have s1 := hs.below hB
   go_wp2_with (first
    | (refine zGp rfl rfl rfl hr ?_)
    | (refine zUr rfl rfl rfl rfl r1 ?_; rintro w2 r2 o2 -; have s2 := (s1.row o2 r1 xE (by decide)).as (s' := { s with m := { s.m with t := TA } }) rfl rfl rfl rfl; have kf2 := (gc r2).fin)
    | (go_at_call 143; refine (zEy 0 1 (by simp) (by decide) r2).mono ?_; rintro e w3 ⟨rfl, r3, o3⟩; have s3 := (s2.row o3 r2 xE (by decide)).as (s' := { s with m := { s.m with t := TA, fl := bits .or .i64 s.m.fl 1 } }) rfl rfl rfl rfl; have kf3 := (gc r3).fin; clear kf2)
    | (refine zHo (s' := { s with m := { s.m with t := TA, k := fin, fl := bits .or .i64 s.m.fl 1 } }) rfl rfl rfl rfl r3 rfl rfl ?_; rintro w4 r4 o4 -; have s4 := (s3.row o4 r3 xE (by decide)).as (s' := { s with m := { s.m with t := TA, k := fin, fl := bits .or .i64 s.m.fl 1 } }) rfl rfl rfl rfl))
   refine zZ rfl rfl ?_
   rw [HQ.out]
   exact ⟨rfl, vo, ve, r4, s4, (((Mid.of hB).trans (Mid.onto o2)).trans (Mid.onto o3)).trans (Mid.onto o4)⟩
 ·have HQ : Hid (s.closed co fin = { s with m := { s.m with t := TA, k := fin } }) := show _ = _ by unfold St.closed; rw [hTA, if_neg hrd]
  clear hTA
  go_enter Tryz.func63, Tryz.ntmps63
  go_wp2_with fail
  refine zAv (by kernel_rfl) (by kernel_rfl) 14 15 2 (by decide) (by decide) rfl rfl (by kernel_rfl) (by decide) (by kernel_rfl) 26 #[.int .i64 0, .int .i64 0, .int .i64 0, .int .i64 0] #[.int .i64 TA.c, .int .i64 TA.v, .int .i64 TA.s, .int .i64 TA.m] rfl [pt g 0, pt g 0, pt g 0, pt g 0, pt g 14, s.m.t.val, pt g 0, pt g 0, pt g 29, .int .i64 co, .tuple #[TA.val, .int .i64 RD], .tuple #[TA.val, .int .i64 RD], TA.val, .int .i64 RD, undef, undef, .int .i64 RD] ?step ?alloc ?store ?done
  case step =>
   intro L ix o' A W hn1 hn2 hj hI hB hd
   have hin : ix < 17 := qB hj
   have hsz : A.tmps.size = 37 := hI.size
   rcases ix with _ | _ | _ | _ | _ | _ | _ | _ | _ | _ | _ | _ | _ | _ | _ | _ | _ | ix
   ·cases hj; exact am rfl rfl rfl (kv (hI.ol 0 rfl) bl)
   ·cases hj; exact zC rfl rfl (qK rfl (hI.vlV hd 0 rfl) (kk bl))
   ·cases hj; exact zC rfl rfl (zH (hI.vlV hd 1 rfl) rfl (by kernel_rfl) (kk bl))
   ·cases hj; exact zC rfl rfl (zH (hI.vlV hd 2 rfl) rfl (by kernel_rfl) (kk bl))
   ·cases hj; exact zC rfl rfl (zH (hI.vlV hd 3 rfl) rfl (by kernel_rfl) (kk bl))
   ·cases hj; exact zC rfl rfl (zRp rfl (hI.vlV hd 4 rfl) (h.below hB) (kk bl))
   ·cases hj; exact am rfl rfl rfl (kv (hI.ol 0 rfl) bl)
   ·cases hj; exact zC rfl rfl (qK rfl (hI.vlV hd 6 rfl) (kk bl))
   ·cases hj; exact zC rfl rfl (zH (hI.vlV hd 7 rfl) rfl (by kernel_rfl) (kk bl))
   ·cases hj; exact zC rfl rfl (zN rfl Tryz.underlying2 (hI.vlV hd 8 rfl) (gc (h.below hB)).co (kk bl))
   ·cases hj; have e0 := hI.vlV hd 5 rfl
    have e1 := hI.vlV hd 9 rfl
    refine zC rfl rfl (zS rfl Tryz.func144 (by kernel_rfl) (by kernel_rfl) ?_)
    simp only [List.map_cons, List.map_nil, e0, e1]
    refine (zDl s.m.t co _).mono ?_
    rw [HT.out]
    rintro e W1 ⟨rfl, hb⟩
    exact ⟨_, rfl, _, rfl, rfl, hb⟩
   ·cases hj; exact am rfl rfl rfl (kv (hI.vlV hd 10 rfl) bl)
   ·cases hj; exact zC rfl rfl (zH (hI.vlV hd 11 rfl) rfl (by kernel_rfl) (kk bl))
   ·cases hj; exact zC rfl rfl (zH (hI.vlV hd 11 rfl) rfl (by kernel_rfl) (kk bl))
   ·exact absurd rfl hn1
   ·exact absurd rfl hn2
   ·cases hj; exact zC rfl rfl (qC rfl (kv (hI.vlV hd 13 rfl) bl))
   omega
  case alloc =>
   intro o' A W hj
   cases hj
   exact zC rfl rfl (zTg rfl ⟨rfl, rfl⟩)
  case store =>
   intro L o' A W b cs hj hI hd eb hr hn
   cases hj
   have e0 : A.eval (.tmp 16) = TA.val := hI.valV hd 12 16 rfl rfl (by kernel_rfl) (by decide) (by decide)
   exact zC rfl rfl (zAo rfl eb e0 hr zE2 hn (by simp [Value.oneCell']) (fun W2 r2 o2 => ⟨rfl, r2, o2⟩))
  case done =>
   intro A W b hI hB eb hr hb
   have s3 : A.tmps.getD 3 undef = .int .i64 RD := hI.lastV 16 3 rfl (by decide) (by decide)
   have hA := hI.frame [5, 6, 7, 8, 9, 10, 11, 12, 13, 14, 15, 4, 16, 17, 2, 3] (by kernel_rfl)
   rw [hA]
   simp only [qJ, List.foldl_cons, List.foldl_nil, eb, s3, Act.put, List.setIfInBounds_toArray, List.set_cons_zero, List.set_cons_succ]
   clear hA hI eb s3
   have r1 := h.below hB
   have s1 := hs.below hB
   go_wp2_with (first
    | (refine zGp rfl rfl rfl hr ?_)
    | (refine zUr rfl rfl rfl rfl r1 ?_; rintro w2 r2 o2 -; have s2 := (s1.row o2 r1 xE (by decide)).as (s' := { s with m := { s.m with t := TA } }) rfl rfl rfl rfl; have kf2 := (gc r2).fin)
    | (refine zHo (s' := { s with m := { s.m with t := TA, k := fin } }) rfl rfl rfl rfl r2 rfl rfl ?_; rintro w4 r4 o4 -; have s4 := (s2.row o4 r2 xE (by decide)).as (s' := { s with m := { s.m with t := TA, k := fin } }) rfl rfl rfl rfl))
   refine zZ rfl rfl ?_
   rw [HQ.out]
   exact ⟨rfl, vo, ve, r4, s4, ((Mid.of hB).trans (Mid.onto o2)).trans (Mid.onto o4)⟩
end
end Go.Proofs.YtamldhflkfbdnaaGreatDoor.Mem
namespace Go.Proofs.YtamldhflkfbdnaaGreatDoor.Mem
open Go.ChangeShapes Go.WideShapes Go.RowKit Base Num Slc Slf Rw Tmr Reg

def fnv (f : FuncId) : Value := .func (.func f) #[] #[]
section
variable {ops : Array Oper} {rest : List Oper} {o : Oper} {a : Act} {w : World} {K : Act → World → Prop} {Q : Exit → Act → World → Prop} {f : FuncId} {fn : Func} {x : Operand} {tys : Array TypeId}
theorem zIq {args : List Operand} (ho : o.op = .call { callee := .value x, args := args.toArray, argTypes := tys }) (hx : a.eval x = fnv f) (hf : Tryz.prog.funcs[f]? = some fn) (hn : (fn.name == "runtime.NumGoroutine") = false) (hb : fn.body.isNone = false)
  (h : Calls Tryz.prog f (args.map a.eval).toArray w fun e w' => ∃ v, e = .returned v ∧ K (a.put o.dst v) w') : o.wp Tryz.prog a w K Q := by
 unfold Oper.wp execOp
 have hn' : ¬ fn.name = "runtime.NumGoroutine" := by simpa using hn
 have hb' : ¬ fn.body = none := fun e => by simp [e] at hb
 have e : (do let d ← resolve a.eval { callee := .value x, args := args.toArray, argTypes := tys } o.type; invoke d.target d.args : Sem Next).run Tryz.prog w = .ok (.enter f (args.map a.eval).toArray) w := by
  simp [resolve, hx, fnv, Deferred.ofValue, invoke, callFunc, hf, hn', hb']
 rw [ho]
 show o.upon Tryz.prog a _ Q ((do let d ← resolve a.eval { callee := .value x, args := args.toArray, argTypes := tys } o.type; invoke d.target d.args : Sem Next).run Tryz.prog w)
 rw [e, Oper.upon_enter]
 refine h.mono ?_
 rintro e w' ⟨v, rfl, hk⟩
 exact hk
theorem zUx {args : List Operand} (hgd : o.guard = none) (ho : o.op = .call { callee := .value x, args := args.toArray, argTypes := tys }) (hx : a.eval x = fnv f) (hf : Tryz.prog.funcs[f]? = some fn) (hn : (fn.name == "runtime.NumGoroutine") = false) (hb : fn.body.isNone = false)
  (h : Calls Tryz.prog f (args.map a.eval).toArray w fun e w' => ∃ v, e = .returned v ∧ wpList Tryz.prog ops Q rest (a.put o.dst v) w') : wpList Tryz.prog ops Q (o :: rest) a w :=
 wpList_plain hgd fun K' hK => zIq ho hx hf hn hb (h.mono fun e w' ⟨v, hv, hk⟩ => ⟨v, hv, hK _ _ hk⟩)
end
def cmp3 (a b : Int) : Int := if a < b then -1 else if b < a then 1 else 0
def ord (a b : M3) : Int := if cmp3 a.t b.t = 0 then cmp3 a.k b.k else cmp3 a.t b.t
theorem zOe (a b : M3) : decide (ord a b < 0) = later b a := by
 rw [Bool.eq_iff_iff]
 unfold ord cmp3 later
 simp only [decide_eq_true_eq, Bool.or_eq_true, Bool.and_eq_true, beq_iff_eq]
 repeat' split
 all_goals omega
theorem zQ6 (a b : M3) : decide (ord a b ≤ 0) = !later a b := by
 rw [Bool.eq_iff_iff]
 unfold ord cmp3 later
 simp only [decide_eq_true_eq, Bool.not_eq_true', Bool.or_eq_false_iff, Bool.and_eq_false_iff, beq_eq_false_iff_ne, ne_eq, decide_eq_false_iff_not]
 repeat' split
 all_goals omega
theorem zGa (n : Int) (w : World) : Calls Tryz.prog 227 #[.int .i64 n] w fun e w' => e = .returned (.bool false) ∧ w' = w := by
 go_enter Tryz.func227, Tryz.ntmps227
 go_wp2
 go_ret
 exact ⟨zT (by simp), rfl⟩
theorem zGz (a b : Int) (w : World) : Calls Tryz.prog 160 #[.int .i64 a, .int .i64 b] w fun e w' => e = .returned (.int .i64 (cmp3 a b)) ∧ w' = w := by
 have HC : Hid (cmp3 a b = if a < b then -1 else if b < a then 1 else 0) := show _ = _ from rfl
 generalize cmp3 a b = r at HC ⊢
 by_cases h1 : a < b
 ·go_enter Tryz.func160, Tryz.ntmps160
  go_wp2_with (go_at_call 227; refine (zGa _ _).mono ?_; rintro e w1 ⟨rfl, rfl⟩)
  go_ret
  exact ⟨vB (by rw [HC.out]; split <;> (try split) <;> omega), rfl⟩
 ·by_cases h2 : b < a
  ·go_enter Tryz.func160, Tryz.ntmps160
   go_wp2_with (go_at_call 227; refine (zGa _ _).mono ?_; rintro e w1 ⟨rfl, rfl⟩)
   go_ret
   exact ⟨vB (by rw [HC.out]; split <;> (try split) <;> omega), rfl⟩
  ·go_enter Tryz.func160, Tryz.ntmps160
   go_wp2_with (go_at_call 227; refine (zGa _ _).mono ?_; rintro e w1 ⟨rfl, rfl⟩)
   go_ret
   exact ⟨vB (by rw [HC.out]; split <;> (try split) <;> omega), rfl⟩
def KTwo (x y : Int) (v : Value) (w : World) : Prop := ∃ b, v = .slice (some ⟨b, 0, none⟩) 2 2 ∧ w.cell? ⟨b, 0, none⟩ = some (.int .i64 x) ∧ w.cell? ⟨b, 1, none⟩ = some (.int .i64 y)
theorem zP1 (x y : Int) : Bears (fun _ => False) (KTwo x y) := fun v w w' ⟨b, e, h0, h1⟩ hr => by
 have hb := hr.2 b id (zAs h0)
 exact ⟨b, e, by rw [World.cell?_of_block (w := w) (a := ⟨b, 0, none⟩) hb]; exact h0, by rw [World.cell?_of_block (w := w) (a := ⟨b, 1, none⟩) hb]; exact h1⟩
theorem zVh (x y : Int) (b : Nat) (w : World) (h0 : w.cell? ⟨b, 0, none⟩ = some (.int .i64 x)) (h1 : w.cell? ⟨b, 1, none⟩ = some (.int .i64 y)) :
  Calls Tryz.prog 159 #[.slice (some ⟨b, 0, none⟩) 2 2] w fun e w' => e = .returned (.int .i64 (if x = 0 then y else x)) ∧ w' = w := by
 by_cases hx : x = 0
 ·rw [if_pos hx]
  by_cases hy : y = 0
  ·subst hx hy
   go_enter Tryz.func159, Tryz.ntmps159
   go_wp2
   refine wp_loop_rounds 3 ?_
   rw [rounds_succ]
   go_wp2
   rw [rounds_succ]
   go_wp2
   rw [rounds_succ]
   go_wp2
   go_ret
   exact ⟨rfl, rfl⟩
  ·subst hx
   have hy' : (y != 0) = true := by simpa using hy
   go_enter Tryz.func159, Tryz.ntmps159
   go_wp2
   refine wp_loop_rounds 2 ?_
   rw [rounds_succ]
   go_wp2
   rw [rounds_succ]
   go_wp2
   go_ret
   exact ⟨rfl, rfl⟩
 ·rw [if_neg hx]
  have hx' : (x != 0) = true := by simpa using hx
  go_enter Tryz.func159, Tryz.ntmps159
  go_wp2
  refine wp_loop_rounds 1 ?_
  rw [rounds_succ]
  go_wp2
  go_ret
  exact ⟨rfl, rfl⟩
structure Gt (w : World) (g0 g1 : Nat) (a b : M3) (W : World) : Prop where
 ra : jQ W g0 a
 rb : jQ W g1 b
 bel : Below w.heap.size w W
theorem Gt.below {w W W' : World} {g0 g1 : Nat} {a b : M3} (h : Gt w g0 g1 a b W) (hb : Below W.heap.size W W') : Gt w g0 g1 a b W' := ⟨h.ra.below hb, h.rb.below hb, zD h.bel hb⟩
theorem Gt.drew {w W : World} {g0 g1 : Nat} {a b : M3} (h : Gt w g0 g1 a b W) : Gt w g0 g1 a b W.drew := h.below (xC (n := 1) rfl)
theorem zWh : (Tryz.prog.info? 3).map (fun i => (i.zero, i.size, i.bytes)) = some (some (.int .i64 0), 1, 8) := by kernel_rfl
theorem undI : Tryz.prog.underlying 238 = some (.slice 3) := by kernel_rfl
theorem zCy (a b : M3) (w : World) : Calls Tryz.prog 74 #[a.val, b.val] w fun e w' => e = .returned (.int .i64 (ord a b)) ∧ Below w.heap.size w w' := by
 obtain ⟨va, hva⟩ : ∃ va, va = a.val := ⟨_, rfl⟩
 obtain ⟨vb, hvb⟩ : ∃ vb, vb = b.val := ⟨_, rfl⟩
 rw [← hva, ← hvb]
 go_enter Tryz.func74, Tryz.ntmps74
 go_wp2_with (first
  | (refine xD rfl rfl hva ?_; intro w0 r0 hB0)
  | (refine xD rfl rfl hvb ?_; intro w1 r1 hB1; have hG : Gt w w.heap.size w0.heap.size a b w1 := ⟨r0.below hB1, r1, zD hB0 hB1⟩))
 refine vK (by kernel_rfl) (by kernel_rfl) (fun W => Gt w w.heap.size w0.heap.size a b W) (kinds [KIs (.pointer (some ⟨w.heap.size, 0, none⟩)), KIs (.int .i64 (a.t)), KIs (.pointer (some ⟨w0.heap.size, 0, none⟩)), KIs (.int .i64 (b.t)), KIs (.int .i64 (cmp3 a.t b.t)), KIs (.pointer (some ⟨w.heap.size, 1, none⟩)), KIs (.int .i64 (a.k)), KIs (.pointer (some ⟨w0.heap.size, 1, none⟩)), KIs (.int .i64 (b.k)), KIs (.int .i64 (cmp3 a.k b.k)), KTwo (cmp3 a.t b.t) (cmp3 a.k b.k), KIs (.int .i64 (ord a b)), KIs (.int .i64 (ord a b))]) (Rel fun _ => False) (by kernel_rfl) (jS ?mono) hG.drew ?step ?done
 case mono =>
  intro K hK
  simp only [List.mem_cons, List.not_mem_nil, or_false] at hK
  rcases hK with rfl | rfl | rfl | rfl | rfl | rfl | rfl | rfl | rfl | rfl | rfl | rfl | rfl
  all_goals first | exact zO _ _ | exact zP1 _ _
 case step =>
  intro L ix o' A W hj hI hL hd
  have hin : ix < 13 := qB hj
  have hsz : A.tmps.size = 17 := hI.size
  have hg := hI.g
  rcases ix with _ | _ | _ | _ | _ | _ | _ | _ | _ | _ | _ | _ | _ | ix
  ·cases hj; exact zC rfl rfl (zH (x := .tmp 2) (hI.ol 2 rfl) rfl (by kernel_rfl) ⟨_, rfl, rfl, hg, Rel.refl _ _⟩)
  ·cases hj; exact zC rfl rfl (zN rfl Tryz.underlying2 (hI.get hd 0 5 rfl (by kernel_rfl)) (hg.ra.cell 0) ⟨_, rfl, rfl, hg, Rel.refl _ _⟩)
  ·cases hj; exact zC rfl rfl (zH (x := .tmp 3) (hI.ol 3 rfl) rfl (by kernel_rfl) ⟨_, rfl, rfl, hg, Rel.refl _ _⟩)
  ·cases hj; exact zC rfl rfl (zN rfl Tryz.underlying2 (hI.get hd 2 7 rfl (by kernel_rfl)) (hg.rb.cell 0) ⟨_, rfl, rfl, hg, Rel.refl _ _⟩)
  ·cases hj; have e0 : A.eval (.tmp 6) = .int .i64 (a.t) := hI.get hd 1 6 rfl (by kernel_rfl)
   have e1 : A.eval (.tmp 8) = .int .i64 (b.t) := hI.get hd 3 8 rfl (by kernel_rfl)
   refine zC rfl rfl (zS rfl Tryz.func160 (by kernel_rfl) (by kernel_rfl) ?_)
   simp only [List.map_cons, List.map_nil, e0, e1]
   refine (zGz _ _ _).mono ?_
   rintro e W1 ⟨rfl, rfl⟩
   exact ⟨_, rfl, _, rfl, rfl, hg, Rel.refl _ _⟩
  ·cases hj; exact zC rfl rfl (zH (x := .tmp 2) (hI.ol 2 rfl) rfl (by kernel_rfl) ⟨_, rfl, rfl, hg, Rel.refl _ _⟩)
  ·cases hj; exact zC rfl rfl (zN rfl Tryz.underlying2 (hI.get hd 5 10 rfl (by kernel_rfl)) (hg.ra.cell 1) ⟨_, rfl, rfl, hg, Rel.refl _ _⟩)
  ·cases hj; exact zC rfl rfl (zH (x := .tmp 3) (hI.ol 3 rfl) rfl (by kernel_rfl) ⟨_, rfl, rfl, hg, Rel.refl _ _⟩)
  ·cases hj; exact zC rfl rfl (zN rfl Tryz.underlying2 (hI.get hd 7 12 rfl (by kernel_rfl)) (hg.rb.cell 1) ⟨_, rfl, rfl, hg, Rel.refl _ _⟩)
  ·cases hj; have e0 : A.eval (.tmp 11) = .int .i64 (a.k) := hI.get hd 6 11 rfl (by kernel_rfl)
   have e1 : A.eval (.tmp 13) = .int .i64 (b.k) := hI.get hd 8 13 rfl (by kernel_rfl)
   refine zC rfl rfl (zS rfl Tryz.func160 (by kernel_rfl) (by kernel_rfl) ?_)
   simp only [List.map_cons, List.map_nil, e0, e1]
   refine (zGz _ _ _).mono ?_
   rintro e W1 ⟨rfl, rfl⟩
   exact ⟨_, rfl, _, rfl, rfl, hg, Rel.refl _ _⟩
  ·cases hj; have e0 : A.eval (.tmp 9) = .int .i64 (cmp3 a.t b.t) := hI.get hd 4 9 rfl (by kernel_rfl)
   have e1 : A.eval (.tmp 14) = .int .i64 (cmp3 a.k b.k) := hI.get hd 9 14 rfl (by kernel_rfl)
   refine zC rfl rfl (zF7 (vals := [(0, .int .i64 (cmp3 a.t b.t)), (1, .int .i64 (cmp3 a.k b.k))]) (cs := #[.int .i64 (cmp3 a.t b.t), .int .i64 (cmp3 a.k b.k)]) rfl undI zWh (by simp only [List.map_cons, List.map_nil, e0, e1]) (by omega) (by omega) (by kernel_rfl) ?_)
   exact ⟨_, rfl, ⟨W.heap.size, rfl, by rw [World.cell?_alloc_new]; rfl, by rw [World.cell?_alloc_new]; rfl⟩, hg.below ((Below.refl _ _).alloc (Nat.le_refl _) _), Rel.alloc _ _ _⟩
  ·cases hj; have e0 : (KTwo (cmp3 a.t b.t) (cmp3 a.k b.k)) (A.eval (.tmp 15)) W := hI.get hd 10 15 rfl (by kernel_rfl)
   obtain ⟨bb, e1, h0, h1⟩ := e0
   refine zC rfl rfl (zS rfl Tryz.func159 (by kernel_rfl) (by kernel_rfl) ?_)
   simp only [List.map_cons, List.map_nil, e1]
   refine (zVh _ _ bb _ h0 h1).mono ?_
   rintro e W1 ⟨rfl, rfl⟩
   exact ⟨_, rfl, _, rfl, rfl, hg, Rel.refl _ _⟩
  ·cases hj; exact zC rfl rfl (qC rfl ⟨_, rfl, hI.get hd 11 16 rfl (by kernel_rfl), hg, Rel.refl _ _⟩)
  omega
 case done =>
  intro A W hI
  have hg := hI.g
  have s4 : A.tmps.getD 4 undef = .int .i64 (ord a b) := hI.slot 12 4 rfl rfl
  have hA := hI.frame [5, 6, 7, 8, 9, 10, 11, 12, 13, 14, 15, 16, 4] (by kernel_rfl)
  rw [hA]
  simp only [qJ, List.foldl_cons, List.foldl_nil, s4, Act.put, List.setIfInBounds_toArray, List.set_cons_zero, List.set_cons_succ]
  clear hA hI s4
  go_wp2
  go_ret
  exact ⟨rfl, hg.bel⟩
theorem zAa (n : Int) (w : World) : Calls Tryz.prog 157 #[.int .i64 n] w fun e w' => e = .returned (.bool (inn n 0 1000000100)) ∧ w' = w := by
 by_cases h0 : 0 ≤ n
 ·go_enter Tryz.func157, Tryz.ntmps157
  go_wp2
  go_ret
  exact ⟨zT (by simp [inn, h0]), rfl⟩
 ·go_enter Tryz.func157, Tryz.ntmps157
  go_wp2
  go_ret
  exact ⟨zT (by rw [Bool.eq_iff_iff]; simp [inn]; omega), rfl⟩
theorem zM0 (n : Int) (w : World) : Calls Tryz.prog 158 #[.int .i64 n] w fun e w' => e = .returned (.bool (inn n 0 1)) ∧ w' = w := by
 by_cases h0 : n = 0
 ·subst h0
  go_enter Tryz.func158, Tryz.ntmps158
  go_wp2
  go_ret
  exact ⟨rfl, rfl⟩
 ·go_enter Tryz.func158, Tryz.ntmps158
  go_wp2
  go_ret
  exact ⟨zT (by rw [Bool.eq_iff_iff]; simp [inn]; omega), rfl⟩
theorem zBm (m : M3) (w : World) : Calls Tryz.prog 72 #[m.val] w fun e w' => e = .returned (.bool (!m.ok)) ∧ Below w.heap.size w w' := by
 obtain ⟨vv, hvv⟩ : ∃ vv, vv = m.val := ⟨_, rfl⟩
 have HO : Hid (m.ok = (inn m.t 0 1000000100 && (if m.k = 1 ∨ m.k = 2 then inn m.v 0 1 else if m.k = 3 then bok m.v else false))) := show _ = _ from rfl
 rw [← hvv]
 cases h0 : inn m.t 0 1000000100
 ·go_enter Tryz.func72, Tryz.ntmps72
  go_wp2_with (first
   | (refine xD rfl rfl hvv ?_; intro w0 r0 hB0; have c0 : w0.cell? ⟨w.heap.size, 0, none⟩ = some (.int .i64 m.t) := r0.cell 0)
   | (go_at_call 157; refine (zAa _ _).mono ?_; rintro e w2 ⟨rfl, rfl⟩; rw [h0]))
  go_ret
  exact ⟨zT (by rw [HO.out, h0]; rfl), hB0⟩
 ·by_cases k1 : m.k = 1
  ·go_enter Tryz.func72, Tryz.ntmps72
   go_wp2_with (first
    | (refine xD rfl rfl hvv ?_; intro w0 r0 hB0; have c0 : w0.cell? ⟨w.heap.size, 0, none⟩ = some (.int .i64 m.t) := r0.cell 0; have c1 : w0.cell? ⟨w.heap.size, 1, none⟩ = some (.int .i64 m.k) := r0.cell 1; rw [k1] at c1; have c2 : w0.cell? ⟨w.heap.size, 2, none⟩ = some (.int .i64 m.v) := r0.cell 2)
    | (go_at_call 157; refine (zAa _ _).mono ?_; rintro e w2 ⟨rfl, rfl⟩; rw [h0])
    | (go_at_call 158; refine (zM0 _ _).mono ?_; rintro e w2 ⟨rfl, rfl⟩))
   go_ret
   exact ⟨zT (by rw [HO.out, h0, if_pos (.inl k1)]; simp), hB0⟩
  by_cases k2 : m.k = 2
  ·go_enter Tryz.func72, Tryz.ntmps72
   go_wp2_with (first
    | (refine xD rfl rfl hvv ?_; intro w0 r0 hB0; have c0 : w0.cell? ⟨w.heap.size, 0, none⟩ = some (.int .i64 m.t) := r0.cell 0; have c1 : w0.cell? ⟨w.heap.size, 1, none⟩ = some (.int .i64 m.k) := r0.cell 1; rw [k2] at c1; have c2 : w0.cell? ⟨w.heap.size, 2, none⟩ = some (.int .i64 m.v) := r0.cell 2)
    | (go_at_call 157; refine (zAa _ _).mono ?_; rintro e w2 ⟨rfl, rfl⟩; rw [h0])
    | (go_at_call 158; refine (zM0 _ _).mono ?_; rintro e w2 ⟨rfl, rfl⟩))
   go_ret
   exact ⟨zT (by rw [HO.out, h0, if_pos (.inr k2)]; simp), hB0⟩
  by_cases k3 : m.k = 3
  ·go_enter Tryz.func72, Tryz.ntmps72
   go_wp2_with (first
    | (refine xD rfl rfl hvv ?_; intro w0 r0 hB0; have c0 : w0.cell? ⟨w.heap.size, 0, none⟩ = some (.int .i64 m.t) := r0.cell 0; have c1 : w0.cell? ⟨w.heap.size, 1, none⟩ = some (.int .i64 m.k) := r0.cell 1; rw [k3] at c1; have c2 : w0.cell? ⟨w.heap.size, 2, none⟩ = some (.int .i64 m.v) := r0.cell 2)
    | (go_at_call 157; refine (zAa _ _).mono ?_; rintro e w2 ⟨rfl, rfl⟩; rw [h0])
    | (go_at_call 84; refine (qL _ _).mono ?_; rintro e w2 ⟨rfl, rfl⟩))
   go_ret
   exact ⟨zT (by rw [HO.out, h0, if_neg (by omega), if_pos k3]; simp), hB0⟩
  have b1 : (m.k == 1) = false := by simpa using k1
  have b2 : (m.k == 2) = false := by simpa using k2
  have b3 : (m.k == 3) = false := by simpa using k3
  go_enter Tryz.func72, Tryz.ntmps72
  go_wp2_with (first
   | (refine xD rfl rfl hvv ?_; intro w0 r0 hB0; have c0 : w0.cell? ⟨w.heap.size, 0, none⟩ = some (.int .i64 m.t) := r0.cell 0; have c1 : w0.cell? ⟨w.heap.size, 1, none⟩ = some (.int .i64 m.k) := r0.cell 1; have c2 : w0.cell? ⟨w.heap.size, 2, none⟩ = some (.int .i64 m.v) := r0.cell 2)
   | (go_at_call 157; refine (zAa _ _).mono ?_; rintro e w2 ⟨rfl, rfl⟩; rw [h0]))
  go_ret
  exact ⟨zT (by rw [HO.out, h0, if_neg (by omega), if_neg k3]; simp), hB0⟩
theorem zG7 (v : Value) (l : List M3) (w : World) (h : SlF fM w v l) :
  Calls Tryz.prog 162 #[v, fnv 72] w fun e w' => ∃ z : Int, e = .returned (.int .i64 z) ∧ decide (0 ≤ z) = l.any (fun m => !m.ok) ∧ Below w.heap.size w w' := by
 by_cases h0 : 0 < l.length
 ·obtain ⟨b, off, c, rfl, hbl, hlc, hcm⟩ := h.shape h0
  unfold maxLen at hcm
  have hG : Gi w (.slice (some ⟨b, off, none⟩) l.length c) l w := ⟨h, Below.refl _ _⟩
  clear h hbl
  go_enter Tryz.func162, Tryz.ntmps162
  go_wp2_with fail
  go_loopw [8] (fun i wr => ∃ k : Nat, k ≤ l.length ∧ i = .int .i64 k ∧ (∀ j, j < k → (M3.at' l j).ok = true) ∧ Gi w (.slice (some ⟨b, off, none⟩) l.length c) l wr) (fun i _ => l.length - (intOf i).toNat)
  case atStart => exact ⟨0, Nat.zero_le _, rfl, fun j hj => by omega, hG⟩
  case round =>
   clear hG
   obtain ⟨k, hk, rfl, hall, hG⟩ := hrel
   by_cases hlt : k < l.length
   ·cases hok : (M3.at' l k).ok
    ·have HF : Hid (l.any (fun m => !m.ok) = true) := show _ = _ by
      rw [List.any_eq_true]
      exact ⟨M3.at' l k, List.mem_of_getElem? (qM hlt), by simp [hok]⟩
     clear hall
     go_wp2_with (first
      | (refine ixF okM (r := k) rfl rfl rfl rfl hlt ?_)
      | (refine elF okM rfl rfl rfl (hG.sl.range okM (qM hlt)) ?_)
      | (refine zUx (args := [.tmp 15]) rfl rfl rfl Tryz.func72 (by kernel_rfl) (by kernel_rfl) ?_; refine (zBm (M3.at' l k) _).mono ?_; rintro e w1 ⟨rfl, hb1⟩; refine ⟨_, rfl, ?_⟩; rw [hok]))
     go_ret
     exact ⟨_, rfl, by rw [HF.out]; simp, zD hG.bel hb1⟩
    ·have HK : Hid (∀ j, j < k + 1 → (M3.at' l j).ok = true) := show ∀ _, _ from fun j hj => by
      by_cases e : j = k
      ·rw [e]; exact hok
      ·exact hall j (by omega)
     clear hall
     go_wp2_with (first
      | (refine ixF okM (r := k) rfl rfl rfl rfl hlt ?_)
      | (refine elF okM rfl rfl rfl (hG.sl.range okM (qM hlt)) ?_)
      | (refine zUx (args := [.tmp 15]) rfl rfl rfl Tryz.func72 (by kernel_rfl) (by kernel_rfl) ?_; refine (zBm (M3.at' l k) _).mono ?_; rintro e w1 ⟨rfl, hb1⟩; refine ⟨_, rfl, ?_⟩; rw [hok]))
     go_roundw
     case rel => exact ⟨k + 1, by omega, by go_num, HK.out, hG.below hb1⟩
     case measure => simp [intOf]; omega
   ·have HF : Hid (l.any (fun m => !m.ok) = false) := show _ = _ by
     rw [List.any_eq_false]
     intro x hx
     obtain ⟨j, hj, rfl⟩ := List.mem_iff_getElem.1 hx
     have := hall j (by omega)
     unfold M3.at' at this
     rw [List.getD_eq_getElem?_getD, List.getElem?_eq_getElem hj] at this
     simpa using this
    have hbel := hG.bel
    clear hall
    go_wp2
    go_ret
    exact ⟨_, rfl, by rw [HF.out]; simp, hbel⟩
 ·obtain ⟨a, cap, rfl, h1⟩ := h
  have hl : l = [] := List.eq_nil_of_length_eq_zero (by omega)
  subst hl
  go_enter Tryz.func162, Tryz.ntmps162
  go_wp2_with fail
  go_loopw [8] (fun i wr => i = .int .i64 0 ∧ wr = w) (fun i _ => 0)
  case atStart => exact ⟨rfl, rfl⟩
  case round =>
   obtain ⟨rfl, rfl⟩ := hrel
   go_wp2
   go_ret
   exact ⟨_, rfl, by simp, Below.refl _ _⟩
theorem zCj (v : Value) (l : List M3) (w : World) (h : SlF fM w v l) :
  Calls Tryz.prog 79 #[v, fnv 72] w fun e w' => e = .returned (.bool (l.any (fun m => !m.ok))) ∧ Below w.heap.size w w' := by
 generalize hr : l.any (fun m => !m.ok) = r
 have HR : Hid (l.any (fun m => !m.ok) = r) := hr
 clear hr
 obtain ⟨fv, hfv⟩ : ∃ fv, fv = fnv 72 := ⟨_, rfl⟩
 rw [← hfv]
 go_enter Tryz.func79, Tryz.ntmps79
 go_wp2_with (go_at_call 162; rw [hfv]; refine (zG7 _ _ _ h).mono ?_; rintro e w1 ⟨z, rfl, hz, hb1⟩)
 go_ret
 exact ⟨zT (by rw [← HR.out, ← hz]), hb1⟩
theorem zLg (v : Value) (l : List M3) (w : World) (h : SlF fM w v l) :
  Calls Tryz.prog 80 #[v, fnv 74] w fun e w' => ∃ r : Bool, e = .returned (.bool r) ∧ (r = true ↔ ∀ i, i + 1 < l.length → later (M3.at' l i) (M3.at' l (i + 1)) = false) ∧ Below w.heap.size w w' := by
 by_cases h0 : 0 < l.length
 ·obtain ⟨b, off, c, rfl, hbl, hlc, hcm⟩ := h.shape h0
  unfold maxLen at hcm
  have hG : Gi w (.slice (some ⟨b, off, none⟩) l.length c) l w := ⟨h, Below.refl _ _⟩
  clear h hbl
  obtain ⟨fv, hfv⟩ : ∃ fv, fv = fnv 74 := ⟨_, rfl⟩
  rw [← hfv]
  have HV : Hid (fv = fnv 74) := hfv
  clear hfv
  go_enter Tryz.func80, Tryz.ntmps80
  go_wp2_with fail
  go_loopw [5] (fun i wr => ∃ k : Nat, k < l.length ∧ i = .int .i64 k ∧ (∀ j, k ≤ j → j + 1 < l.length → later (M3.at' l j) (M3.at' l (j + 1)) = false) ∧ Gi w (.slice (some ⟨b, off, none⟩) l.length c) l wr) (fun i _ => (intOf i).toNat)
  case atStart => exact ⟨l.length - 1, by omega, by rw [show ((l.length - 1 : Nat) : Int) = (l.length : Int) - 1 by omega], fun j hj hl => by omega, hG⟩
  case round =>
   clear hG
   obtain ⟨k, hk, rfl, hall, hG⟩ := hrel
   rcases k with _ | j
   ·have HF : Hid (∀ i, i + 1 < l.length → later (M3.at' l i) (M3.at' l (i + 1)) = false) := show ∀ _, _ from fun i hi => hall i (by omega) hi
    have hbel := hG.bel
    clear hall
    go_wp2
    go_ret
    exact ⟨true, rfl, ⟨fun _ => HF.out, fun _ => rfl⟩, hbel⟩
   ·cases hlt : later (M3.at' l j) (M3.at' l (j + 1))
    ·have hn : ¬ ord (M3.at' l (j + 1)) (M3.at' l j) < 0 := by
      have := zOe (M3.at' l (j + 1)) (M3.at' l j)
      rw [hlt] at this
      simpa using this
     have HK : Hid (∀ i, j ≤ i → i + 1 < l.length → later (M3.at' l i) (M3.at' l (i + 1)) = false) := show ∀ _, _ from fun i h1 h2 => by
      by_cases e : i = j
      ·rw [e]; exact hlt
      ·exact hall i (by omega) h2
     clear hall hlt
     go_wp2_with fail
     refine qD (by kernel_rfl) (by kernel_rfl) 0 (by decide) (by kernel_rfl) (fun _ W => Gi w (.slice (some ⟨b, off, none⟩) l.length c) l W) [fv, .slice (some ⟨b, off, none⟩) l.length c, .int .i64 ((j + 1 : Nat) : Int), .pointer (some ⟨b, off + (j + 1) * 3, none⟩), (M3.at' l (j + 1)).val, .slice (some ⟨b, off, none⟩) l.length c, .int .i64 ((j + 1 : Nat) : Int), .int .i64 (j : Int), .pointer (some ⟨b, off + j * 3, none⟩), (M3.at' l j).val, .int .i64 (ord (M3.at' l (j + 1)) (M3.at' l j)), .bool false] hG.drew ?step ?done
     case step =>
      intro L ix o' A W hj hI hL hd
      have hin : ix < 12 := qB hj
      have hsz : A.tmps.size = 25 := hI.size
      have hg := hI.g
      rcases ix with _ | _ | _ | _ | _ | _ | _ | _ | _ | _ | _ | _ | ix
      ·cases hj; exact am rfl rfl rfl (kv (hI.ol 1 rfl) hg)
      ·cases hj; exact am rfl rfl rfl (kv (hI.ol 0 rfl) hg)
      ·cases hj; exact am rfl rfl rfl (kv (hI.ol 5 rfl) hg)
      ·cases hj; exact zC rfl rfl (xQ okM rfl (hI.vl hd 1 rfl) (hI.vl hd 2 rfl) (by omega) (kk hg))
      ·cases hj; exact zC rfl rfl (jD okM rfl (hI.vl hd 3 rfl) (hg.sl.range okM (qM (by omega))) (kk hg))
      ·cases hj; exact am rfl rfl rfl (kv (hI.ol 0 rfl) hg)
      ·cases hj; exact am rfl rfl rfl (kv (hI.ol 5 rfl) hg)
      ·cases hj; exact zC rfl rfl (qP (vy := .int .i64 1) rfl (hI.vl hd 6 rfl) rfl (fun w => by rw [show (j : Int) = ((j + 1 : Nat) : Int) - 1 from by omega]; exact subN _ _ _ _ w (by omega) (by omega)) (kk hg))
      ·cases hj; exact zC rfl rfl (xQ okM rfl (hI.vl hd 5 rfl) (hI.vl hd 7 rfl) (by omega) (kk hg))
      ·cases hj; exact zC rfl rfl (jD okM rfl (hI.vl hd 8 rfl) (hg.sl.range okM (qM (by omega))) (kk hg))
      ·cases hj; have e0 := hI.vl hd 0 rfl
       have e1 := hI.vl hd 4 rfl
       have e2 := hI.vl hd 9 rfl
       refine zC rfl rfl (zIq (args := [.tmp 17, .tmp 22]) rfl (e0.trans HV.out) Tryz.func74 (by kernel_rfl) (by kernel_rfl) ?_)
       simp only [List.map_cons, List.map_nil, e1, e2]
       refine (zCy _ _ _).mono ?_
       rintro e W1 ⟨rfl, hb⟩
       exact ⟨_, rfl, _, rfl, rfl, hg.below hb⟩
      ·cases hj; exact zC rfl rfl (qP (vy := .int .i64 0) rfl (hI.vl hd 10 rfl) rfl (fun w => by first | (simp [go_sem, hn]; done) | (simp [go_sem]; omega)) (kk hg))
      omega
     case done =>
      intro A W hI
      have hg := hI.g
      have s24 := hI.ls 11 rfl rfl
      have hA := hI.frame [13, 14, 15, 16, 17, 18, 19, 20, 21, 22, 23, 24] (by kernel_rfl)
      rw [hA]
      simp only [qJ, List.foldl_cons, List.foldl_nil, s24, Act.put, List.setIfInBounds_toArray, List.set_cons_zero, List.set_cons_succ]
      clear hA hI s24
      go_wp2
      go_roundw
      case rel => exact ⟨j, by omega, by go_num, HK.out, hg⟩
      case measure => simp [intOf]
    ·have hn : ord (M3.at' l (j + 1)) (M3.at' l j) < 0 := by
      have := zOe (M3.at' l (j + 1)) (M3.at' l j)
      rw [hlt] at this
      simpa using this
     have HK : Hid (¬ ∀ i, i + 1 < l.length → later (M3.at' l i) (M3.at' l (i + 1)) = false) := show ¬ _ from fun hh => by
      have := hh j (by omega)
      rw [hlt] at this
      cases this
     clear hall hlt
     go_wp2_with fail
     refine qD (by kernel_rfl) (by kernel_rfl) 0 (by decide) (by kernel_rfl) (fun _ W => Gi w (.slice (some ⟨b, off, none⟩) l.length c) l W) [fv, .slice (some ⟨b, off, none⟩) l.length c, .int .i64 ((j + 1 : Nat) : Int), .pointer (some ⟨b, off + (j + 1) * 3, none⟩), (M3.at' l (j + 1)).val, .slice (some ⟨b, off, none⟩) l.length c, .int .i64 ((j + 1 : Nat) : Int), .int .i64 (j : Int), .pointer (some ⟨b, off + j * 3, none⟩), (M3.at' l j).val, .int .i64 (ord (M3.at' l (j + 1)) (M3.at' l j)), .bool true] hG.drew ?step ?done
     case step =>
      intro L ix o' A W hj hI hL hd
      have hin : ix < 12 := qB hj
      have hsz : A.tmps.size = 25 := hI.size
      have hg := hI.g
      rcases ix with _ | _ | _ | _ | _ | _ | _ | _ | _ | _ | _ | _ | ix
      ·cases hj; exact am rfl rfl rfl (kv (hI.ol 1 rfl) hg)
      ·cases hj; exact am rfl rfl rfl (kv (hI.ol 0 rfl) hg)
      ·cases hj; exact am rfl rfl rfl (kv (hI.ol 5 rfl) hg)
      ·cases hj; exact zC rfl rfl (xQ okM rfl (hI.vl hd 1 rfl) (hI.vl hd 2 rfl) (by omega) (kk hg))
      ·cases hj; exact zC rfl rfl (jD okM rfl (hI.vl hd 3 rfl) (hg.sl.range okM (qM (by omega))) (kk hg))
      ·cases hj; exact am rfl rfl rfl (kv (hI.ol 0 rfl) hg)
      ·cases hj; exact am rfl rfl rfl (kv (hI.ol 5 rfl) hg)
      ·cases hj; exact zC rfl rfl (qP (vy := .int .i64 1) rfl (hI.vl hd 6 rfl) rfl (fun w => by rw [show (j : Int) = ((j + 1 : Nat) : Int) - 1 from by omega]; exact subN _ _ _ _ w (by omega) (by omega)) (kk hg))
      ·cases hj; exact zC rfl rfl (xQ okM rfl (hI.vl hd 5 rfl) (hI.vl hd 7 rfl) (by omega) (kk hg))
      ·cases hj; exact zC rfl rfl (jD okM rfl (hI.vl hd 8 rfl) (hg.sl.range okM (qM (by omega))) (kk hg))
      ·cases hj; have e0 := hI.vl hd 0 rfl
       have e1 := hI.vl hd 4 rfl
       have e2 := hI.vl hd 9 rfl
       refine zC rfl rfl (zIq (args := [.tmp 17, .tmp 22]) rfl (e0.trans HV.out) Tryz.func74 (by kernel_rfl) (by kernel_rfl) ?_)
       simp only [List.map_cons, List.map_nil, e1, e2]
       refine (zCy _ _ _).mono ?_
       rintro e W1 ⟨rfl, hb⟩
       exact ⟨_, rfl, _, rfl, rfl, hg.below hb⟩
      ·cases hj; exact zC rfl rfl (qP (vy := .int .i64 0) rfl (hI.vl hd 10 rfl) rfl (fun w => by first | (simp [go_sem, hn]; done) | (simp [go_sem]; omega)) (kk hg))
      omega
     case done =>
      intro A W hI
      have hg := hI.g
      have s24 := hI.ls 11 rfl rfl
      have hA := hI.frame [13, 14, 15, 16, 17, 18, 19, 20, 21, 22, 23, 24] (by kernel_rfl)
      rw [hA]
      simp only [qJ, List.foldl_cons, List.foldl_nil, s24, Act.put, List.setIfInBounds_toArray, List.set_cons_zero, List.set_cons_succ]
      clear hA hI s24
      go_wp2
      go_ret
      exact ⟨false, rfl, ⟨fun h => (by cases h), fun h => absurd h HK.out⟩, hg.bel⟩
 ·obtain ⟨a, cap, rfl, h1⟩ := h
  have hl : l = [] := List.eq_nil_of_length_eq_zero (by omega)
  subst hl
  go_enter Tryz.func80, Tryz.ntmps80
  go_wp2_with fail
  go_loopw [5] (fun i wr => i = .int .i64 (-1) ∧ wr = w) (fun i _ => 0)
  case atStart => exact ⟨rfl, rfl⟩
  case round =>
   obtain ⟨rfl, rfl⟩ := hrel
   go_wp2
   go_ret
   exact ⟨true, rfl, ⟨fun _ i hi => by simp at hi, fun _ => rfl⟩, Below.refl _ _⟩
theorem zP4 (l : List M3) : l.any (fun m => !m.ok) = false ↔ ∀ i, i < l.length → (M3.at' l i).ok = true := by
 rw [List.any_eq_false]
 constructor
 ·intro h i hi
  have := h (M3.at' l i) (List.mem_of_getElem? (qM hi))
  simpa using this
 ·intro h x hx
  obtain ⟨j, hj, rfl⟩ := List.mem_iff_getElem.1 hx
  have := h j hj
  unfold M3.at' at this
  rw [List.getD_eq_getElem?_getD, List.getElem?_eq_getElem hj] at this
  simpa using this
theorem xJ (v : Value) (l : List M3) (w : World) (h : SlF fM w v l) :
  Calls Tryz.prog 20 #[v] w fun e w' => e = .returned (.bool (qH l)) ∧ Below w.heap.size w w' := by
 have HO : Hid (qH l = true ↔ l.any (fun m => !m.ok) = false ∧ (∀ i, i + 1 < l.length → later (M3.at' l i) (M3.at' l (i + 1)) = false) ∧ l.length ≤ 200) := show _ ↔ _ by rw [zFn, zP4]
 have hS : Hid (SlF fM w v l) := h
 obtain ⟨a, cap, rfl, -, hlc, hcm, -⟩ := h
 unfold maxLen at hcm
 by_cases hn : l.length ≤ 200
 ·cases hany : l.any (fun m => !m.ok)
  ·have HA : Hid (l.any (fun m => !m.ok) = false) := hany
   clear hany
   go_enter Tryz.func20, Tryz.ntmps20
   go_wp2_with (first
    | (go_at_call 79; refine (zCj _ _ _ hS.out).mono ?_; rintro e w1 ⟨rfl, hb1⟩; rw [HA.out])
    | (go_at_call 80; refine (zLg _ _ _ (hS.out.below hb1)).mono ?_; rintro e w2 ⟨r, rfl, hr, hb2⟩; have HR : Hid (r = true ↔ ∀ i, i + 1 < l.length → later (M3.at' l i) (M3.at' l (i + 1)) = false) := hr; clear hr))
   go_ret
   exact ⟨zT (by rw [Bool.eq_iff_iff, HO.out, HR.out]; exact ⟨fun h => ⟨HA.out, h, hn⟩, fun h => h.2.1⟩), zD hb1 hb2⟩
  ·have HA : Hid (l.any (fun m => !m.ok) = true) := hany
   have HF : Hid (qH l = false) := show _ = _ by
    rw [Bool.eq_false_iff]
    intro e
    have := HO.out.1 e
    rw [hany] at this
    simp at this
   clear hany
   go_enter Tryz.func20, Tryz.ntmps20
   go_wp2_with (first
    | (go_at_call 79; refine (zCj _ _ _ hS.out).mono ?_; rintro e w1 ⟨rfl, hb1⟩; rw [HA.out]))
   go_ret
   exact ⟨zT HF.out.symm, hb1⟩
 ·have HF : Hid (qH l = false) := show _ = _ by
   rw [Bool.eq_false_iff]
   intro e
   exact hn (HO.out.1 e).2.2
  go_enter Tryz.func20, Tryz.ntmps20
  go_wp2
  go_ret
  exact ⟨zT HF.out.symm, Below.refl _ _⟩
theorem zRq {a b m : M3} (h1 : later a m = true) (h2 : later a b = false) : later b m = true := by
 revert h1 h2
 unfold later
 simp only [Bool.or_eq_true, Bool.and_eq_true, beq_iff_eq, decide_eq_true_eq, Bool.or_eq_false_iff, Bool.and_eq_false_iff, beq_eq_false_iff_ne, ne_eq, decide_eq_false_iff_not]
 omega
theorem zMi {l : List M3} {m : M3} {k : Nat} (hs : ∀ i, i + 1 < l.length → later (M3.at' l i) (M3.at' l (i + 1)) = false) (hk : k ≤ l.length)
  (h1 : ∀ j, j < k → later (M3.at' l j) m = false) (h2 : k < l.length → later (M3.at' l k) m = true) : jO l m l.length = k := by
 have up : ∀ d, k + d < l.length → later (M3.at' l (k + d)) m = true := by
  intro d
  induction d with
  | zero => exact h2
  | succ d ih => intro h; exact zRq (ih (by omega)) (hs (k + d) (by omega))
 have hq := zD2 l m l.length
 have h3 := zD3 l m l.length
 have h4 := zGc l m l.length
 generalize jO l m l.length = q at hq h3 h4 ⊢
 by_cases c : q < k
 ·have := h3 q (Nat.le_refl _) (by omega)
  rw [h1 q c] at this
  cases this
 ·by_cases c2 : k < q
  ·have := h4 (by omega)
   have := up (q - 1 - k) (by omega)
   rw [show k + (q - 1 - k) = q - 1 by omega] at this
   simp_all
  ·omega
theorem zU7 : Tryz.prog.underlying 3 = some (.int .i64) := by kernel_rfl
theorem zSb (n : Nat) (w : World) (hn : n ≤ 10000000) : Calls Tryz.prog 161 #[.slice none 0 0, .int .i64 (n : Int)] w fun e w' => ∃ v', e = .returned v' ∧ OwnF fM w.heap.size w' v' [] ∧ Below w.heap.size w w' := by
 by_cases h0 : n = 0
 ·subst h0
  go_enter Tryz.func161, Tryz.ntmps161
  go_wp2
  go_ret
  exact ⟨_, rfl, OwnF.nil _ _ _, Below.refl _ _⟩
 ·obtain ⟨i0, hi, hz0, hz1, hz2⟩ := info_parts okM.info
  have hs1 : i0.size = 3 := hz1
  have hb1 : i0.bytes = 24 := hz2
  have z25 : ∀ w, (Go.sizeOf 40).run Tryz.prog w = .ok 3 w := fun w => zGj okM w
  have hrz : ∀ ty, (Builtin.append_ #[31, 3] ty #[.slice none 0 0, .int .i64 (n : Int)]).run Tryz.prog w =
    .ok (.slice (some ⟨w.heap.size, 0, none⟩) n (grownCap w n 0 40)) (w.drew.alloc (.cells (#[] ++ Builtin.zeroCells (Value.agg (fM.F fM.z).toArray).cells n ++ Builtin.zeroCells (Value.agg (fM.F fM.z).toArray).cells (grownCap w n 0 40 - n)) 40)) := fun ty => by
   have h := Lib.run_append_grow_zeros w 31 3 ty 40 i0 _ .i64 .i64 okM.und zU7 hi hz0 none 0 0 [] (run_firstCells_none w.drew i0.size 0 0 0) n (by omega) (by omega) (by omega) (by omega) (by rw [hb1]; omega)
    (growslice_fits (by omega) (by rw [hb1]; omega))
   rw [Nat.zero_add] at h
   exact h
  have hGn : n ≤ grownCap w n 0 40 := grownCap_ge w _ _ _
  have hGm := grownCap_le_maxLen w n 0 40 (by unfold maxLen; omega)
  obtain ⟨G, hG⟩ : ∃ G, G = grownCap w n 0 40 := ⟨_, rfl⟩
  rw [← hG] at hrz hGn hGm
  clear hG hi hz0 hz1 hz2 hs1 hb1
  obtain ⟨cs, hcs⟩ : ∃ cs : Array Value, #[] ++ Builtin.zeroCells (Value.agg (fM.F fM.z).toArray).cells n ++ Builtin.zeroCells (Value.agg (fM.F fM.z).toArray).cells (G - n) = cs := ⟨_, rfl⟩
  have hsz : cs.size = G * 3 := by
   rw [← hcs]
   simp [Builtin.zeroCells, fM, M3.cs, Value.cells]
   omega
  have HM : Hid (G ≤ maxLen) := hGm
  unfold maxLen at hGm
  rw [hcs] at hrz
  clear hcs
  have HB : Hid (Below w.heap.size w (w.drew.alloc (.cells cs 40))) := ((Below.refl _ w).drew).alloc (Nat.le_refl _) _
  have HO : Hid (OwnF fM w.heap.size (w.drew.alloc (.cells cs 40)) (.slice (some ⟨w.heap.size, 0, none⟩) 0 G) []) :=
   ⟨rfl, .inr ⟨w.heap.size, G, cs, rfl, Nat.le_refl _, heap_alloc_new w.drew _, Nat.zero_le _, HM.out, hsz, by simp [Fl.flat]⟩⟩
  go_enter Tryz.func161, Tryz.ntmps161
  go_wp2_with (at_builtin; refine Lib.wpList_append_run _ rfl _ _ _ _ rfl _ _ rfl rfl _ _ (hrz _) ?_)
  go_ret
  exact ⟨_, rfl, HO.out, HB.out⟩
theorem zOm (g : Nat) (v0 v1 v2 : Value) (l0 l1 l2 : List M3) (w : World) (k0 : w.cell? ⟨g, 0, none⟩ = some v0) (k1 : w.cell? ⟨g, 1, none⟩ = some v1) (k2 : w.cell? ⟨g, 2, none⟩ = some v2)
  (h0 : SlF fM w v0 l0) (h1 : SlF fM w v1 l1) (h2 : SlF fM w v2 l2) (n0 : l0.length ≤ 1000000) (n1 : l1.length ≤ 1000000) (n2 : l2.length ≤ 1000000) :
  Calls Tryz.prog 75 #[.slice (some ⟨g, 0, none⟩) 3 3] w fun e w' => ∃ v', e = .returned v' ∧ OwnF fM w.heap.size w' v' (l0 ++ l1 ++ l2) ∧ Below w.heap.size w w' := by
 have H0 := h0
 have H1 := h1
 have H2 := h2
 obtain ⟨a0, c0, rfl, -⟩ := h0
 obtain ⟨a1, c1, rfl, -⟩ := h1
 obtain ⟨a2, c2, rfl, -⟩ := h2
 go_enter Tryz.func75, Tryz.ntmps75
 go_wp2_with fail
 refine wp_loop_rounds 4 ?_
 rw [rounds_succ]
 go_wp2_with fail
 rw [rounds_succ]
 go_wp2_with fail
 rw [rounds_succ]
 go_wp2_with fail
 rw [rounds_succ]
 go_wp2_with fail
 go_at_call 161
 rw [show (l0.length : Int) + (l1.length : Int) + (l2.length : Int) = ((l0.length + l1.length + l2.length : Nat) : Int) by omega]
 refine (zSb _ _ (by omega)).mono ?_
 rintro e w1 ⟨v1, rfl, ho1, hb1⟩
 have s1 := hb1.size
 have lg := zAs k0
 have lg' : g < w.heap.size := lg
 have p0 : w1.cell? ⟨g, 0, none⟩ = some (.slice a0 l0.length c0) := by rw [hb1.cell (p := ⟨g, 0, none⟩) lg]; exact k0
 have p1 : w1.cell? ⟨g, 1, none⟩ = some (.slice a1 l1.length c1) := by rw [hb1.cell (p := ⟨g, 1, none⟩) lg]; exact k1
 have p2 : w1.cell? ⟨g, 2, none⟩ = some (.slice a2 l2.length c2) := by rw [hb1.cell (p := ⟨g, 2, none⟩) lg]; exact k2
 clear k0 k1 k2
 have J0 := H0.below hb1
 have J1 := H1.below hb1
 have J2 := H2.below hb1
 have HL : Hid ((0 < l0.length → ∀ k, (Value.slice a0 l0.length c0).ownBlock = some k → k < w.heap.size) ∧ (0 < l1.length → ∀ k, (Value.slice a1 l1.length c1).ownBlock = some k → k < w.heap.size) ∧ (0 < l2.length → ∀ k, (Value.slice a2 l2.length c2).ownBlock = some k → k < w.heap.size)) := ⟨H0.lt, H1.lt, H2.lt⟩
 clear H0 H1 H2
 go_wp2_with fail
 refine wp_loop_rounds 4 ?_
 rw [rounds_succ]
 go_wp2_with (at_builtin; refine appF okM rfl (.tmp 31) (.tmp 32) rfl w.heap.size [] l0 ho1 J0 (by simp; omega) s1 ?_; intro v2 w2 ho2 hg2)
 have ho2' : OwnF fM w.heap.size w2 v2 l0 := by simpa using ho2
 have L1 := ho1.lt
 have hB2 := hb1.grown hg2 s1 (fun q hq => (L1 q hq).1)
 have q1 : w2.cell? ⟨g, 1, none⟩ = some (.slice a1 l1.length c1) := by rw [World.cell?_of_block (a := ⟨g, 1, none⟩) (hg2.block g (by omega) (fun e => by have := (L1 g e.symm).1; omega))]; exact p1
 have q2 : w2.cell? ⟨g, 2, none⟩ = some (.slice a2 l2.length c2) := by rw [World.cell?_of_block (a := ⟨g, 2, none⟩) (hg2.block g (by omega) (fun e => by have := (L1 g e.symm).1; omega))]; exact p2
 have M1 := J1.grown hg2 (fun h0 k hk e => by have := (L1 k hk).1; have := HL.out.2.1 h0 k e; omega)
 have M2 := J2.grown hg2 (fun h0 k hk e => by have := (L1 k hk).1; have := HL.out.2.2 h0 k e; omega)
 have s2 := hB2.size
 clear p0 p1 p2 J0 J1 J2 ho2 hg2 L1 ho1 hb1 s1
 rw [rounds_succ]
 go_wp2_with (at_builtin; refine appF okM rfl (.tmp 31) (.tmp 32) rfl w.heap.size l0 l1 ho2' M1 (by omega) s2 ?_; intro v3 w3 ho3 hg3)
 have L2 := ho2'.lt
 have hB3 := hB2.grown hg3 s2 (fun q hq => (L2 q hq).1)
 have r2 : w3.cell? ⟨g, 2, none⟩ = some (.slice a2 l2.length c2) := by rw [World.cell?_of_block (a := ⟨g, 2, none⟩) (hg3.block g (by omega) (fun e => by have := (L2 g e.symm).1; omega))]; exact q2
 have N2 := M2.grown hg3 (fun h0 k hk e => by have := (L2 k hk).1; have := HL.out.2.2 h0 k e; omega)
 have s3 := hB3.size
 clear q1 q2 M1 M2 hg3 L2 ho2' hB2 s2
 rw [rounds_succ]
 go_wp2_with (at_builtin; refine appF okM rfl (.tmp 31) (.tmp 32) rfl w.heap.size (l0 ++ l1) l2 ho3 N2 (by simp; omega) s3 ?_; intro v4 w4 ho4 hg4)
 have L3 := ho3.lt
 have hB4 := hB3.grown hg4 s3 (fun q hq => (L3 q hq).1)
 clear r2 N2 hg4 L3 ho3 hB3 s3
 rw [rounds_succ]
 go_wp2
 go_ret
 exact ⟨_, rfl, ho4, hB4⟩
theorem zIo (v : Value) (l : List M3) (w : World) (h : SlF fM w v l) (hl : l.length ≤ 1000000) :
  Calls Tryz.prog 73 #[v] w fun e w' => ∃ v', e = .returned v' ∧ OwnF fM w.heap.size w' v' l ∧ Below w.heap.size w w' := by
 have H0 := h
 have ho0 := xO fM okM w.heap.size w #[] [] rfl (by decide) (Nat.le_refl _)
 have hs0 := h.below ((Below.refl w.heap.size w).alloc (Nat.le_refl _) (.cells #[] 40))
 obtain ⟨a, c, rfl, -, hlc, hcm, hn⟩ := h
 cases a with
 | none =>
  have : l = [] := List.eq_nil_of_length_eq_zero (hn rfl).1
  subst this
  clear ho0 hs0 H0
  obtain rfl := (hn rfl).2
  have e0 : ∀ w, (binOp .eql 31 (.slice none 0 0) (.slice none 0 0)).run Tryz.prog w = .ok (.bool true) w := fun w => Lib.run_eql_slice_nil w _ _ none 0 0 0 0 okM.und
  go_enter Tryz.func73, Tryz.ntmps73
  go_wp2
  go_ret
  exact ⟨_, rfl, OwnF.nil _ _ _, Below.refl _ _⟩
 | some ad =>
  have e0 : ∀ w, (binOp .eql 31 (.slice (some ad) l.length c) (.slice none 0 0)).run Tryz.prog w = .ok (.bool false) w := fun w => Lib.run_eql_slice_nil w _ _ (some ad) _ _ 0 0 okM.und
  go_enter Tryz.func73, Tryz.ntmps73
  go_wp2_with (at_builtin; refine appF okM rfl (.tmp 5) (.tmp 6) rfl w.heap.size [] l ho0 hs0 (by simp; omega) (by simp) ?_; intro v1 w1 ho1 hg1)
  go_ret
  exact ⟨_, rfl, by simpa using ho1, ((Below.refl w.heap.size w).alloc (Nat.le_refl _) _).grown hg1 (by simp) (fun k hk => by have hk' : some w.heap.size = some k := hk; cases hk'; exact Nat.le_refl _)⟩
def KSl (l : List M3) (v : Value) (W : World) : Prop := SlF fM W v l
def KOwn (base : Nat) (l : List M3) (v : Value) (W : World) : Prop := OwnF fM base W v l
def KThr (l0 l1 l2 : List M3) (v : Value) (W : World) : Prop := ∃ q v0 v1 v2, v = .slice (some ⟨q, 0, none⟩) 3 3 ∧ W.cell? ⟨q, 0, none⟩ = some v0 ∧ W.cell? ⟨q, 1, none⟩ = some v1 ∧ W.cell? ⟨q, 2, none⟩ = some v2 ∧ SlF fM W v0 l0 ∧ SlF fM W v1 l1 ∧ SlF fM W v2 l2
theorem zHa {w w' : World} {v : Value} {l : List M3} (h : SlF fM w v l) (hr : Rel (fun _ => False) w w') : SlF fM w' v l := by
 obtain ⟨a, c, rfl, h1, h2⟩ := h
 exact ⟨a, c, rfl, h1.keep hr.1 (fun h0 x hx => hr.2 _ id (h1.lt h0 x hx)), h2⟩
theorem zJ8 (l : List M3) : Bears (fun _ => False) (KSl l) := fun v w w' h hr => zHa h hr
theorem zIv (base : Nat) (l : List M3) : Bears (fun _ => False) (KOwn base l) := fun v w w' h hr => OwnF.kept h (fun k hk => hr.2 k id (OwnF.lt h k hk).2)
theorem zJ7 (l0 l1 l2 : List M3) : Bears (fun _ => False) (KThr l0 l1 l2) := fun v w w' h hr => by
 obtain ⟨q, v0, v1, v2, e, c0, c1, c2, s0, s1, s2⟩ := h
 have hb := hr.2 q id (zAs c0)
 exact ⟨q, v0, v1, v2, e, by rw [World.cell?_of_block (w := w) (a := ⟨q, 0, none⟩) hb]; exact c0, by rw [World.cell?_of_block (w := w) (a := ⟨q, 1, none⟩) hb]; exact c1, by rw [World.cell?_of_block (w := w) (a := ⟨q, 2, none⟩) hb]; exact c2, zHa s0 hr, zHa s1 hr, zHa s2 hr⟩
section
variable {o : Oper} {a : Act} {w : World} {K : Act → World → Prop} {Q : Exit → Act → World → Prop} {x y z : Operand} {v : Value} {l : List M3} {k : Nat}
theorem zA7 {ad : Option Addr} {n c : Nat} (ho : o.op = .call { callee := .builtin .len, args := #[x], argTypes := #[31] }) (hx : a.eval x = .slice ad n c) (h : K (a.put o.dst (.int .i64 (n : Int))) w) : o.wp Tryz.prog a w K Q := by
 refine qX (v := .int .i64 (n : Int)) ?_ h
 clear h
 generalize a.eval = ev at hx ⊢
 unfold execOp
 simp only [ho]
 have hu := okM.und
 simp [go_sem, hx, hu]
theorem zK7 (ho : o.op = .slice 31 x none (some y) none) (hx : a.eval x = v) (hy : a.eval y = .int .i64 (k : Int)) (hk : k ≤ l.length) (hs : SlF fM w v l) (h : ∀ v', SlF fM w v' (l.take k) → K (a.put o.dst v') w) : o.wp Tryz.prog a w K Q := by
 by_cases h0 : 0 < l.length
 ·obtain ⟨b, off, c, rfl, -, h2, h3⟩ := hs.shape h0
  exact zM6 okM ho hx hy (by omega) (by omega) (h _ (hs.take okM k hk))
 ·have h0' : l = [] := List.eq_nil_of_length_eq_zero (by omega)
  subst h0'
  obtain rfl : k = 0 := by simpa using hk
  obtain ⟨ad, c, rfl, h1, h2, h3, h4⟩ := id hs
  exact zQk okM (fun e => (h4 e).2) ho hx hy (h _ hs)
theorem zMt (ho : o.op = .slice 31 x (some y) none none) (hx : a.eval x = v) (hy : a.eval y = .int .i64 (k : Int)) (hk : k ≤ l.length) (hs : SlF fM w v l) (h : ∀ v', SlF fM w v' (l.drop k) → K (a.put o.dst v') w) : o.wp Tryz.prog a w K Q := by
 by_cases h0 : 0 < l.length
 ·obtain ⟨b, off, c, rfl, -, h2, h3⟩ := hs.shape h0
  by_cases hrc : k < c
  ·exact zMl okM ho hx hy hk h2 hrc (h _ (hs.drop okM k hk hrc))
  ·obtain rfl : k = l.length := by omega
   obtain rfl : c = l.length := by omega
   refine zOl okM ho hx hy (h _ ?_)
   have : l.drop l.length = [] := List.drop_of_length_le (by omega)
   rw [this]
   exact ⟨_, 0, rfl, .inl rfl, Nat.le_refl _, by decide, by simp⟩
 ·have h0' : l = [] := List.eq_nil_of_length_eq_zero (by omega)
  subst h0'
  obtain rfl : k = 0 := by simpa using hk
  obtain ⟨ad, c, rfl, h1, h2, h3, h4⟩ := id hs
  exact zMm okM (fun e => (h4 e).2) ho hx hy (h _ hs)
theorem zV6 : Tryz.prog.underlying 67 = some (.slice 31) := by kernel_rfl
theorem zWg : (Tryz.prog.info? 31).map (fun i => (i.zero, i.size, i.bytes)) = some (some (.slice none 0 0), 1, 24) := by kernel_rfl
theorem zOg {l0 l1 l2 : List M3} (ho : o.op = .buildSlice 67 3 #[(0, x), (1, y), (2, z)]) (e0 : SlF fM w (a.eval x) l0) (e1 : SlF fM w (a.eval y) l1) (e2 : SlF fM w (a.eval z) l2)
  (h : ∀ W1, KThr l0 l1 l2 (.slice (some ⟨w.heap.size, 0, none⟩) 3 3) W1 → Below w.heap.size w W1 → K (a.put o.dst (.slice (some ⟨w.heap.size, 0, none⟩) 3 3)) W1) : o.wp Tryz.prog a w K Q := by
 obtain ⟨i0, hi, hz0, hz1, hz2⟩ := info_parts zWg
 obtain ⟨v0, h0⟩ : ∃ v0, a.eval x = v0 := ⟨_, rfl⟩
 obtain ⟨v1, h1⟩ : ∃ v1, a.eval y = v1 := ⟨_, rfl⟩
 obtain ⟨v2, h2⟩ : ∃ v2, a.eval z = v2 := ⟨_, rfl⟩
 rw [h0] at e0
 rw [h1] at e1
 rw [h2] at e2
 have hb : Below w.heap.size w (w.alloc (.cells #[v0, v1, v2] 31)) := (Below.refl _ _).alloc (Nat.le_refl _) _
 refine wp_buildSlice 67 31 3 #[(0, x), (1, y), (2, z)] ho #[v0, v1, v2] i0 (.slice none 0 0) zV6 hi hz0 (by rw [hz1]; decide) (by rw [hz1]; decide) ?_ (h _ ⟨w.heap.size, v0, v1, v2, rfl, by rw [World.cell?_alloc_new]; rfl, by rw [World.cell?_alloc_new]; rfl, by rw [World.cell?_alloc_new]; rfl, e0.below hb, e1.below hb, e2.below hb⟩ hb)
 rw [hz1]
 obtain ⟨a0, c0, rfl, -⟩ := e0
 obtain ⟨a1, c1, rfl, -⟩ := e1
 obtain ⟨a2, c2, rfl, -⟩ := e2
 simp only [List.map_toArray, List.map_cons, List.map_nil, h0, h1, h2]
 kernel_rfl
end
set_option maxHeartbeats 2000000 in
theorem zIf (v : Value) (l : List M3) (m : M3) (w : World) (h : SlF fM w v l) :
  Calls Tryz.prog 15 #[v, m.val] w fun e w' => ∃ v', e = .returned (.tuple #[v', .bool (xL l m).2]) ∧ OwnF fM w.heap.size w' v' (xL l m).1 ∧ Below w.heap.size w w' := by
 obtain ⟨vv, hvv⟩ : ∃ vv, vv = m.val := ⟨_, rfl⟩
 obtain ⟨r, HR⟩ : ∃ r, Hid (r = xL l m) := ⟨_, show _ = _ from rfl⟩
 rw [← hvv, ← HR.out]
 have hone := h.one
 obtain ⟨a, c, rfl, -, hlc, hcm, -⟩ := id h
 unfold maxLen at hcm
 cases hok : qH l
 ·have hr : Hid (r = ([], false)) := show _ = _ by rw [HR.out]; simp [xL, hok]
  go_enter Tryz.func15, Tryz.ntmps15
  go_wp2_with (first
   | (refine xD rfl rfl hvv ?_; intro w0 r0 hB0; have hs0 := h.below hB0)
   | (go_at_call 20; refine (xJ _ l _ hs0).mono ?_; rintro e w1 ⟨rfl, hb1⟩; rw [hok]; have hB1 := zD hB0 hb1))
  go_ret2
  rw [hr.out]
  exact ⟨_, rfl, OwnF.nil _ _ _, hB1⟩
 ·have hfew := zCu hok
  have HS : Hid (∀ i, i + 1 < l.length → later (M3.at' l i) (M3.at' l (i + 1)) = false) := (zFn.1 hok).2.1
  by_cases h2 : 200 ≤ l.length
  ·have hr : Hid (r = (l, false)) := show _ = _ by rw [HR.out]; simp [xL, hok, h2]
   have hd : ((l.length : Int) == 200) = true := by simp; omega
   go_enter Tryz.func15, Tryz.ntmps15
   go_wp2_with (first
    | (refine xD rfl rfl hvv ?_; intro w0 r0 hB0; have hs0 := h.below hB0)
    | (go_at_call 20; refine (xJ _ l _ hs0).mono ?_; rintro e w1 ⟨rfl, hb1⟩; rw [hok]; have hB1 := zD hB0 hb1; have hs1 := hs0.below hb1)
    | (go_at_call 73; refine (zIo _ l _ hs1 (by omega)).mono ?_; rintro e w2 ⟨v2, rfl, ho2, hb2⟩; have hB2 := zD hB1 hb2))
   go_ret2
   rw [hr.out]
   exact ⟨_, rfl, ho2.mono hB1.size, hB2⟩
  ·have hd : ((l.length : Int) == 200) = false := by simp; omega
   cases hm : m.ok
   ·have hr : Hid (r = (l, false)) := show _ = _ by rw [HR.out]; simp [xL, hok, hm]
    go_enter Tryz.func15, Tryz.ntmps15
    go_wp2_with (first
     | (refine xD rfl rfl hvv ?_; intro w0 r0 hB0; have hs0 := h.below hB0)
     | (go_at_call 20; refine (xJ _ l _ hs0).mono ?_; rintro e w1 ⟨rfl, hb1⟩; rw [hok]; have hB1 := zD hB0 hb1; have hs1 := hs0.below hb1; have r1 := r0.below hb1)
     | (refine zKp rfl rfl rfl r1 ?_)
     | (go_at_call 72; refine (zBm m _).mono ?_; rw [hm]; rintro e w2 ⟨rfl, hb2⟩; have hB2 := zD hB1 hb2; have hs2 := hs1.below hb2)
     | (go_at_call 73; refine (zIo _ l _ hs2 (by omega)).mono ?_; rintro e w3 ⟨v3, rfl, ho3, hb3⟩; have hB3 := zD hB2 hb3))
    go_ret2
    rw [hr.out]
    exact ⟨_, rfl, ho3.mono hB2.size, hB3⟩
   ·have hr : Hid (r = (zBc l m, true)) := show _ = _ by rw [HR.out]; simp [xL, hok, hm, h2]
    go_enter Tryz.func15, Tryz.ntmps15
    go_wp2_with (first
     | (refine xD rfl rfl hvv ?_; intro w0 r0 hB0; have hs0 := h.below hB0)
     | (go_at_call 20; refine (xJ _ l _ hs0).mono ?_; rintro e w1 ⟨rfl, hb1⟩; rw [hok]; have hB1 := zD hB0 hb1; have hs1 := hs0.below hb1; have r1 := r0.below hb1)
     | (refine zKp rfl rfl rfl r1 ?_)
     | (go_at_call 72; refine (zBm m _).mono ?_; rw [hm]; rintro e w2 ⟨rfl, hb2⟩; have hG : Gw w (.slice a l.length c) l m w2 := ⟨hs1.below hb2, r1.below hb2, zD hB1 hb2⟩))
    clear h hlc hone
    go_loopw [6] (fun i wr => ∃ k : Nat, k ≤ l.length ∧ i = .int .i64 k ∧ (∀ j, j < k → later (M3.at' l j) m = false) ∧ Gw w (.slice a l.length c) l m wr) (fun i _ => l.length - (intOf i).toNat)
    case atStart => exact ⟨0, Nat.zero_le _, rfl, fun j hj => by omega, hG⟩
    case round =>
     clear hG hs0 hs1 r0 r1 hB0 hB1 hb1 hb2 hok hm
     obtain ⟨k, hkl, rfl, hall, hG⟩ := hrel
     by_cases hlt : k < l.length
     ·obtain ⟨b, off, c', e, -, -, -⟩ := hG.sl.shape (by omega)
      simp only [Value.slice.injEq] at e
      obtain ⟨rfl, -, rfl⟩ := e
      cases hla : later (M3.at' l k) m
      ·have hn : ord (M3.at' l k) m ≤ 0 := by
        have := zQ6 (M3.at' l k) m
        rw [hla] at this
        simpa using this
       have HK : Hid (∀ j, j < k + 1 → later (M3.at' l j) m = false) := show ∀ _, _ from fun j hj => by
        by_cases e : j = k
        ·rw [e]; exact hla
        ·exact hall j (by omega)
       clear hall hla
       go_wp2_with fail
       refine qD (by kernel_rfl) (by kernel_rfl) 0 (by decide) (by kernel_rfl) (fun _ W => Gw w (.slice (some ⟨b, off, none⟩) l.length c) l m W) [.int .i64 (k : Int), .slice (some ⟨b, off, none⟩) l.length c, .int .i64 (l.length : Int), .bool true, .bool true, .slice (some ⟨b, off, none⟩) l.length c, .int .i64 (k : Int), .pointer (some ⟨b, off + k * 3, none⟩), (M3.at' l k).val, m.val, .int .i64 (ord (M3.at' l k) m), .bool true, .bool true] hG.drew ?step ?done
       case step =>
        intro L ix o' A W hj hI hL hd
        have hin : ix < 13 := qB hj
        have hsz : A.tmps.size = 44 := hI.size
        have hg := hI.g
        rcases ix with _ | _ | _ | _ | _ | _ | _ | _ | _ | _ | _ | _ | _ | ix
        ·cases hj; exact am rfl rfl rfl (kv (hI.ol 6 rfl) hg)
        ·cases hj; exact am rfl rfl rfl (kv (hI.ol 0 rfl) hg)
        ·cases hj; exact zC rfl rfl (zA7 rfl (hI.vl hd 1 rfl) (kk hg))
        ·cases hj; exact zC rfl rfl (qP rfl (hI.vl hd 0 rfl) (hI.vl hd 2 rfl) (fun w => by simp [go_sem] <;> omega) (kk hg))
        ·cases hj; exact am rfl rfl rfl (kv (hI.vl hd 3 rfl) hg)
        ·cases hj; exact ag rfl rfl (hI.vl hd 4 rfl) (qR rfl (kv (hI.ol 0 rfl) hg))
        ·cases hj; exact ag rfl rfl (hI.vl hd 4 rfl) (qR rfl (kv (hI.ol 6 rfl) hg))
        ·cases hj; exact ag rfl rfl (hI.vl hd 4 rfl) (xQ okM rfl (hI.vl hd 5 rfl) (hI.vl hd 6 rfl) (by omega) (kk hg))
        ·cases hj; exact ag rfl rfl (hI.vl hd 4 rfl) (jD okM rfl (hI.vl hd 7 rfl) (hg.sl.range okM (qM (by omega))) (kk hg))
        ·cases hj; exact ag rfl rfl (hI.vl hd 4 rfl) (wp_load_row _ _ rfl _ (hI.ol 3 rfl) _ _ _ _ hg.row.row Tryz.underlying40 rfl jJ (kk hg))
        ·cases hj; have hgv : A.tmps.getD 23 undef = .bool true := hI.vl hd 4 rfl
         have e0 := hI.vl hd 8 rfl
         have e1 := hI.vl hd 9 rfl
         refine ag rfl rfl hgv (zS rfl Tryz.func74 (by kernel_rfl) (by kernel_rfl) ?_)
         simp only [List.map_cons, List.map_nil, e0, e1]
         refine (zCy _ _ _).mono ?_
         rintro e W1 ⟨rfl, hb⟩
         exact ⟨_, rfl, _, rfl, rfl, hg.below hb⟩
        ·cases hj; exact ag rfl rfl (hI.vl hd 4 rfl) (qP (vy := .int .i64 0) rfl (hI.vl hd 10 rfl) rfl (fun w => by first | (simp [go_sem, hn]; done) | (simp [go_sem]; omega)) (kk hg))
        ·cases hj; exact zC rfl rfl (xH rfl (hI.vl hd 4 rfl) (kv ((hI.vl hd 11 rfl)) hg))
        omega
       case done =>
        intro A W hI
        have hg := hI.g
        have s31 := hI.ls 12 rfl rfl
        have hA := hI.frame [19, 20, 21, 22, 23, 24, 25, 26, 27, 28, 29, 30, 31] (by kernel_rfl)
        rw [hA]
        simp only [qJ, List.foldl_cons, List.foldl_nil, s31, Act.put, List.setIfInBounds_toArray, List.set_cons_zero, List.set_cons_succ]
        clear hA hI s31
        go_wp2
        go_roundw
        case rel => exact ⟨k + 1, by omega, by go_num, HK.out, hg⟩
        case measure => simp [intOf]; omega
      ·have hn : ¬ ord (M3.at' l k) m ≤ 0 := by
        have := zQ6 (M3.at' l k) m
        rw [hla] at this
        simpa using this
       have HI : Hid (jO l m l.length = k) := zMi HS.out hkl hall (fun _ => hla)
       clear hall hla
       go_wp2_with fail
       refine qD (by kernel_rfl) (by kernel_rfl) 0 (by decide) (by kernel_rfl) (fun _ W => Gw w (.slice (some ⟨b, off, none⟩) l.length c) l m W) [.int .i64 (k : Int), .slice (some ⟨b, off, none⟩) l.length c, .int .i64 (l.length : Int), .bool true, .bool true, .slice (some ⟨b, off, none⟩) l.length c, .int .i64 (k : Int), .pointer (some ⟨b, off + k * 3, none⟩), (M3.at' l k).val, m.val, .int .i64 (ord (M3.at' l k) m), .bool false, .bool false] hG.drew ?step ?done
       case step =>
        intro L ix o' A W hj hI hL hd
        have hin : ix < 13 := qB hj
        have hsz : A.tmps.size = 44 := hI.size
        have hg := hI.g
        rcases ix with _ | _ | _ | _ | _ | _ | _ | _ | _ | _ | _ | _ | _ | ix
        ·cases hj; exact am rfl rfl rfl (kv (hI.ol 6 rfl) hg)
        ·cases hj; exact am rfl rfl rfl (kv (hI.ol 0 rfl) hg)
        ·cases hj; exact zC rfl rfl (zA7 rfl (hI.vl hd 1 rfl) (kk hg))
        ·cases hj; exact zC rfl rfl (qP rfl (hI.vl hd 0 rfl) (hI.vl hd 2 rfl) (fun w => by simp [go_sem] <;> omega) (kk hg))
        ·cases hj; exact am rfl rfl rfl (kv (hI.vl hd 3 rfl) hg)
        ·cases hj; exact ag rfl rfl (hI.vl hd 4 rfl) (qR rfl (kv (hI.ol 0 rfl) hg))
        ·cases hj; exact ag rfl rfl (hI.vl hd 4 rfl) (qR rfl (kv (hI.ol 6 rfl) hg))
        ·cases hj; exact ag rfl rfl (hI.vl hd 4 rfl) (xQ okM rfl (hI.vl hd 5 rfl) (hI.vl hd 6 rfl) (by omega) (kk hg))
        ·cases hj; exact ag rfl rfl (hI.vl hd 4 rfl) (jD okM rfl (hI.vl hd 7 rfl) (hg.sl.range okM (qM (by omega))) (kk hg))
        ·cases hj; exact ag rfl rfl (hI.vl hd 4 rfl) (wp_load_row _ _ rfl _ (hI.ol 3 rfl) _ _ _ _ hg.row.row Tryz.underlying40 rfl jJ (kk hg))
        ·cases hj; have hgv : A.tmps.getD 23 undef = .bool true := hI.vl hd 4 rfl
         have e0 := hI.vl hd 8 rfl
         have e1 := hI.vl hd 9 rfl
         refine ag rfl rfl hgv (zS rfl Tryz.func74 (by kernel_rfl) (by kernel_rfl) ?_)
         simp only [List.map_cons, List.map_nil, e0, e1]
         refine (zCy _ _ _).mono ?_
         rintro e W1 ⟨rfl, hb⟩
         exact ⟨_, rfl, _, rfl, rfl, hg.below hb⟩
        ·cases hj; exact ag rfl rfl (hI.vl hd 4 rfl) (qP (vy := .int .i64 0) rfl (hI.vl hd 10 rfl) rfl (fun w => by first | (simp [go_sem, hn]; done) | (simp [go_sem]; omega)) (kk hg))
        ·cases hj; exact zC rfl rfl (xH rfl (hI.vl hd 4 rfl) (kv ((hI.vl hd 11 rfl)) hg))
        omega
       case done =>
        intro A W hI
        have hg := hI.g
        have s31 := hI.ls 12 rfl rfl
        have hA := hI.frame [19, 20, 21, 22, 23, 24, 25, 26, 27, 28, 29, 30, 31] (by kernel_rfl)
        rw [hA]
        simp only [qJ, List.foldl_cons, List.foldl_nil, s31, Act.put, List.setIfInBounds_toArray, List.set_cons_zero, List.set_cons_succ]
        clear hA hI s31
        go_wp2_with fail
        refine vK (by kernel_rfl) (by kernel_rfl) (fun W => Gw w (.slice (some ⟨b, off, none⟩) l.length c) l m W) (kinds [KIs (.slice (some ⟨b, off, none⟩) l.length c), KIs (.int .i64 (k : Int)), KSl (l.take k), KIs (m.val), KSl [m], KIs (.slice (some ⟨b, off, none⟩) l.length c), KIs (.int .i64 (k : Int)), KSl (l.drop k), KThr (l.take k) [m] (l.drop k), KOwn w.heap.size (l.take k ++ [m] ++ l.drop k), KOwn w.heap.size (l.take k ++ [m] ++ l.drop k), KIs (.bool true)]) (Rel fun _ => False) (by kernel_rfl) (jS ?mono) hg.drew ?step ?done
        case mono =>
         intro K hK
         simp only [List.mem_cons, List.not_mem_nil, or_false] at hK
         rcases hK with rfl | rfl | rfl | rfl | rfl | rfl | rfl | rfl | rfl | rfl | rfl | rfl
         all_goals first | exact zO _ _ | exact zJ8 _ | exact zJ7 _ _ _ | exact zIv _ _
        case step =>
         intro L ix o' A W hj hI hL hd
         have hin : ix < 12 := qB hj
         have hsz : A.tmps.size = 44 := hI.size
         have hg := hI.g
         rcases ix with _ | _ | _ | _ | _ | _ | _ | _ | _ | _ | _ | _ | ix
         ·cases hj; exact am rfl rfl rfl ⟨_, rfl, hI.ol 0 rfl, hg, Rel.refl _ _⟩
         ·cases hj; exact am rfl rfl rfl ⟨_, rfl, hI.ol 6 rfl, hg, Rel.refl _ _⟩
         ·cases hj; have e0 : A.eval (.tmp 34) = .slice (some ⟨b, off, none⟩) l.length c := hI.get hd 0 34 rfl (by kernel_rfl)
          have e1 : A.eval (.tmp 35) = .int .i64 (k : Int) := hI.get hd 1 35 rfl (by kernel_rfl)
          exact zC rfl rfl (zK7 rfl e0 e1 hkl hg.sl (fun v' hv' => ⟨_, rfl, hv', hg, Rel.refl _ _⟩))
         ·cases hj; exact zC rfl rfl (wp_load_row _ _ rfl _ (hI.ol 3 rfl) _ _ _ _ hg.row.row Tryz.underlying40 rfl jJ ⟨_, rfl, rfl, hg, Rel.refl _ _⟩)
         ·cases hj; have e0 : A.eval (.tmp 37) = m.val := hI.get hd 3 37 rfl (by kernel_rfl)
          refine zC rfl rfl (zFh okM (e := m) rfl e0 (zMq m) (fun W1 ho1 hb1 => ⟨_, rfl, ho1.sl okM, hg.below hb1, Rel.below hb1⟩))
         ·cases hj; exact am rfl rfl rfl ⟨_, rfl, hI.ol 0 rfl, hg, Rel.refl _ _⟩
         ·cases hj; exact am rfl rfl rfl ⟨_, rfl, hI.ol 6 rfl, hg, Rel.refl _ _⟩
         ·cases hj; have e0 : A.eval (.tmp 39) = .slice (some ⟨b, off, none⟩) l.length c := hI.get hd 5 39 rfl (by kernel_rfl)
          have e1 : A.eval (.tmp 40) = .int .i64 (k : Int) := hI.get hd 6 40 rfl (by kernel_rfl)
          exact zC rfl rfl (zMt rfl e0 e1 hkl hg.sl (fun v' hv' => ⟨_, rfl, hv', hg, Rel.refl _ _⟩))
         ·cases hj; have e0 : (KSl (l.take k)) (A.eval (.tmp 36)) W := hI.get hd 2 36 rfl (by kernel_rfl)
          have e1 : (KSl [m]) (A.eval (.tmp 38)) W := hI.get hd 4 38 rfl (by kernel_rfl)
          have e2 : (KSl (l.drop k)) (A.eval (.tmp 41)) W := hI.get hd 7 41 rfl (by kernel_rfl)
          refine zC rfl rfl (zOg rfl e0 e1 e2 (fun W1 h3 hb1 => ⟨_, rfl, h3, hg.below hb1, Rel.below hb1⟩))
         ·cases hj; have e0 : (KThr (l.take k) [m] (l.drop k)) (A.eval (.tmp 42)) W := hI.get hd 8 42 rfl (by kernel_rfl)
          obtain ⟨q, v0, v1, v2, eq, c0, c1, c2, s0, s1, s2⟩ := e0
          refine zC rfl rfl (zS rfl Tryz.func75 (by kernel_rfl) (by kernel_rfl) ?_)
          simp only [List.map_cons, List.map_nil, eq]
          refine (zOm q v0 v1 v2 _ _ _ _ c0 c1 c2 s0 s1 s2 (by simp <;> omega) (by simp) (by simp <;> omega)).mono ?_
          rintro e W1 ⟨v', rfl, ho, hb⟩
          exact ⟨_, rfl, _, rfl, ho.mono hg.bel.size, hg.below hb, Rel.below hb⟩
         ·cases hj; have e0 : (KOwn w.heap.size (l.take k ++ [m] ++ l.drop k)) (A.eval (.tmp 43)) W := hI.get hd 9 43 rfl (by kernel_rfl); exact zC rfl rfl (qC rfl ⟨_, rfl, e0, hg, Rel.refl _ _⟩)
         ·cases hj; exact zC rfl rfl (qC rfl ⟨_, rfl, rfl, hg, Rel.refl _ _⟩)
         omega
        case done =>
         intro A W hI
         have hg := hI.g
         obtain ⟨vr, hvr⟩ : ∃ vr, A.tmps.getD 4 undef = vr := ⟨_, rfl⟩
         have hq : KOwn w.heap.size (l.take k ++ [m] ++ l.drop k) (A.tmps.getD 4 undef) W := hI.slot 10 4 rfl rfl
         have s5 : A.tmps.getD 5 undef = .bool true := hI.slot 11 5 rfl rfl
         rw [hvr] at hq
         have hA := hI.frame [34, 35, 36, 37, 38, 39, 40, 41, 42, 43, 4, 5] (by kernel_rfl)
         rw [hA]
         simp only [qJ, List.foldl_cons, List.foldl_nil, hvr, s5, Act.put, List.setIfInBounds_toArray, List.set_cons_zero, List.set_cons_succ]
         clear hA hI hvr s5
         go_wp2
         go_ret2
         rw [hr.out]
         exact ⟨_, rfl, by unfold zBc; rw [HI.out]; exact hq, hg.bel⟩
     ·obtain rfl : k = l.length := by omega
      have HI : Hid (jO l m l.length = l.length) := zMi HS.out hkl hall (fun hh => by omega)
      clear hall
      go_wp2_with fail
      refine qD (by kernel_rfl) (by kernel_rfl) 0 (by decide) (by kernel_rfl) (fun _ W => Gw w (.slice a l.length c) l m W) [.int .i64 (l.length : Int), .slice a l.length c, .int .i64 (l.length : Int), .bool false, .bool false, undef, undef, undef, undef, undef, undef, undef, .bool false] hG.drew ?step ?done
      case step =>
       intro L ix o' A W hj hI hL hd
       have hin : ix < 13 := qB hj
       have hsz : A.tmps.size = 44 := hI.size
       have hg := hI.g
       rcases ix with _ | _ | _ | _ | _ | _ | _ | _ | _ | _ | _ | _ | _ | ix
       ·cases hj; exact am rfl rfl rfl (kv (hI.ol 6 rfl) hg)
       ·cases hj; exact am rfl rfl rfl (kv (hI.ol 0 rfl) hg)
       ·cases hj; exact zC rfl rfl (zA7 rfl (hI.vl hd 1 rfl) (kk hg))
       ·cases hj; exact zC rfl rfl (qP rfl (hI.vl hd 0 rfl) (hI.vl hd 2 rfl) (fun w => by simp [go_sem] <;> omega) (kk hg))
       ·cases hj; exact am rfl rfl rfl (kv (hI.vl hd 3 rfl) hg)
       ·cases hj; exact ak rfl rfl (hI.vl hd 4 rfl) (kk hg)
       ·cases hj; exact ak rfl rfl (hI.vl hd 4 rfl) (kk hg)
       ·cases hj; exact ak rfl rfl (hI.vl hd 4 rfl) (kk hg)
       ·cases hj; exact ak rfl rfl (hI.vl hd 4 rfl) (kk hg)
       ·cases hj; exact ak rfl rfl (hI.vl hd 4 rfl) (kk hg)
       ·cases hj; exact ak rfl rfl (hI.vl hd 4 rfl) (kk hg)
       ·cases hj; exact ak rfl rfl (hI.vl hd 4 rfl) (kk hg)
       ·cases hj; have e1 := hI.vl hd 11 rfl; exact zC rfl rfl (xH rfl (hI.vl hd 4 rfl) (kk hg))
       omega
      case done =>
       intro A W hI
       have hg := hI.g
       have s31 := hI.ls 12 rfl rfl
       have hA := hI.frame [19, 20, 21, 22, 23, 24, 25, 26, 27, 28, 29, 30, 31] (by kernel_rfl)
       rw [hA]
       simp only [qJ, List.foldl_cons, List.foldl_nil, s31, Act.put, List.setIfInBounds_toArray, List.set_cons_zero, List.set_cons_succ]
       clear hA hI s31
       go_wp2_with fail
       refine vK (by kernel_rfl) (by kernel_rfl) (fun W => Gw w (.slice a l.length c) l m W) (kinds [KIs (.slice a l.length c), KIs (.int .i64 (l.length : Int)), KSl (l.take l.length), KIs (m.val), KSl [m], KIs (.slice a l.length c), KIs (.int .i64 (l.length : Int)), KSl (l.drop l.length), KThr (l.take l.length) [m] (l.drop l.length), KOwn w.heap.size (l.take l.length ++ [m] ++ l.drop l.length), KOwn w.heap.size (l.take l.length ++ [m] ++ l.drop l.length), KIs (.bool true)]) (Rel fun _ => False) (by kernel_rfl) (jS ?mono) hg.drew ?step ?done
       case mono =>
        intro K hK
        simp only [List.mem_cons, List.not_mem_nil, or_false] at hK
        rcases hK with rfl | rfl | rfl | rfl | rfl | rfl | rfl | rfl | rfl | rfl | rfl | rfl
        all_goals first | exact zO _ _ | exact zJ8 _ | exact zJ7 _ _ _ | exact zIv _ _
       case step =>
        intro L ix o' A W hj hI hL hd
        have hin : ix < 12 := qB hj
        have hsz : A.tmps.size = 44 := hI.size
        have hg := hI.g
        rcases ix with _ | _ | _ | _ | _ | _ | _ | _ | _ | _ | _ | _ | ix
        ·cases hj; exact am rfl rfl rfl ⟨_, rfl, hI.ol 0 rfl, hg, Rel.refl _ _⟩
        ·cases hj; exact am rfl rfl rfl ⟨_, rfl, hI.ol 6 rfl, hg, Rel.refl _ _⟩
        ·cases hj; have e0 : A.eval (.tmp 34) = .slice a l.length c := hI.get hd 0 34 rfl (by kernel_rfl)
         have e1 : A.eval (.tmp 35) = .int .i64 (l.length : Int) := hI.get hd 1 35 rfl (by kernel_rfl)
         exact zC rfl rfl (zK7 rfl e0 e1 hkl hg.sl (fun v' hv' => ⟨_, rfl, hv', hg, Rel.refl _ _⟩))
        ·cases hj; exact zC rfl rfl (wp_load_row _ _ rfl _ (hI.ol 3 rfl) _ _ _ _ hg.row.row Tryz.underlying40 rfl jJ ⟨_, rfl, rfl, hg, Rel.refl _ _⟩)
        ·cases hj; have e0 : A.eval (.tmp 37) = m.val := hI.get hd 3 37 rfl (by kernel_rfl)
         refine zC rfl rfl (zFh okM (e := m) rfl e0 (zMq m) (fun W1 ho1 hb1 => ⟨_, rfl, ho1.sl okM, hg.below hb1, Rel.below hb1⟩))
        ·cases hj; exact am rfl rfl rfl ⟨_, rfl, hI.ol 0 rfl, hg, Rel.refl _ _⟩
        ·cases hj; exact am rfl rfl rfl ⟨_, rfl, hI.ol 6 rfl, hg, Rel.refl _ _⟩
        ·cases hj; have e0 : A.eval (.tmp 39) = .slice a l.length c := hI.get hd 5 39 rfl (by kernel_rfl)
         have e1 : A.eval (.tmp 40) = .int .i64 (l.length : Int) := hI.get hd 6 40 rfl (by kernel_rfl)
         exact zC rfl rfl (zMt rfl e0 e1 hkl hg.sl (fun v' hv' => ⟨_, rfl, hv', hg, Rel.refl _ _⟩))
        ·cases hj; have e0 : (KSl (l.take l.length)) (A.eval (.tmp 36)) W := hI.get hd 2 36 rfl (by kernel_rfl)
         have e1 : (KSl [m]) (A.eval (.tmp 38)) W := hI.get hd 4 38 rfl (by kernel_rfl)
         have e2 : (KSl (l.drop l.length)) (A.eval (.tmp 41)) W := hI.get hd 7 41 rfl (by kernel_rfl)
         refine zC rfl rfl (zOg rfl e0 e1 e2 (fun W1 h3 hb1 => ⟨_, rfl, h3, hg.below hb1, Rel.below hb1⟩))
        ·cases hj; have e0 : (KThr (l.take l.length) [m] (l.drop l.length)) (A.eval (.tmp 42)) W := hI.get hd 8 42 rfl (by kernel_rfl)
         obtain ⟨q, v0, v1, v2, eq, c0, c1, c2, s0, s1, s2⟩ := e0
         refine zC rfl rfl (zS rfl Tryz.func75 (by kernel_rfl) (by kernel_rfl) ?_)
         simp only [List.map_cons, List.map_nil, eq]
         refine (zOm q v0 v1 v2 _ _ _ _ c0 c1 c2 s0 s1 s2 (by simp <;> omega) (by simp) (by simp <;> omega)).mono ?_
         rintro e W1 ⟨v', rfl, ho, hb⟩
         exact ⟨_, rfl, _, rfl, ho.mono hg.bel.size, hg.below hb, Rel.below hb⟩
        ·cases hj; have e0 : (KOwn w.heap.size (l.take l.length ++ [m] ++ l.drop l.length)) (A.eval (.tmp 43)) W := hI.get hd 9 43 rfl (by kernel_rfl); exact zC rfl rfl (qC rfl ⟨_, rfl, e0, hg, Rel.refl _ _⟩)
        ·cases hj; exact zC rfl rfl (qC rfl ⟨_, rfl, rfl, hg, Rel.refl _ _⟩)
        omega
       case done =>
        intro A W hI
        have hg := hI.g
        obtain ⟨vr, hvr⟩ : ∃ vr, A.tmps.getD 4 undef = vr := ⟨_, rfl⟩
        have hq : KOwn w.heap.size (l.take l.length ++ [m] ++ l.drop l.length) (A.tmps.getD 4 undef) W := hI.slot 10 4 rfl rfl
        have s5 : A.tmps.getD 5 undef = .bool true := hI.slot 11 5 rfl rfl
        rw [hvr] at hq
        have hA := hI.frame [34, 35, 36, 37, 38, 39, 40, 41, 42, 43, 4, 5] (by kernel_rfl)
        rw [hA]
        simp only [qJ, List.foldl_cons, List.foldl_nil, hvr, s5, Act.put, List.setIfInBounds_toArray, List.set_cons_zero, List.set_cons_succ]
        clear hA hI hvr s5
        go_wp2
        go_ret2
        rw [hr.out]
        exact ⟨_, rfl, by unfold zBc; rw [HI.out]; exact hq, hg.bel⟩
end Go.Proofs.YtamldhflkfbdnaaGreatDoor.Mem
