/-
  The laws' own helpers over lists of machines, of inboxes, of traces, and over a pair.
-/
import Derived.Test.YtjjafaikaghlgaaNst
import Derived.Test.YtjjafaikaghlgaaMsgLaw
import Derived.Test.YtjjafaikaghlgaaEvMk
import Derived.Test.YtjjafaikaghlgaaMcLaw
namespace Go.Proofs.Ytjjafaikaghlgaa.Mem
open Go.ChangeShapes Go.WideShapes Go.RowKit Base Num Slc Slf Rw Tmr Reg Ex
set_option linter.unusedVariables false
set_option linter.unusedSimpArgs false
set_option maxRecDepth 20000

/-- How the laws' own events lie. -/
def fK : Fl M3 := ⟨123, 100, 3, 24, M3.cs, M3.nul, M3.val⟩
theorem okK : fK.Ok := ⟨fun _ => rfl, by decide, fun _ => rfl, by kernel_rfl, by kernel_rfl, by decide, by decide, fun _ => rfl, fun m w b q h => run_loadVar_mid w b q _ m.cs _ h Try.underlying123 rfl (by kernel_rfl)⟩
theorem szEvS_any (v : Value) (l : List M3) (left : Int) (w : World) (h : SlF fK w v l) (hl : 0 ≤ left ∧ left ≤ 1048576) :
    Calls Try.prog 53 #[v, .int .i64 left] w fun e w' => e = .returned (.int .i64 (if left < l.length then -1 else left - l.length)) ∧ w' = w := by
  obtain ⟨a, cap, rfl, -, hlc, hcm, -⟩ := h
  unfold maxLen at hcm
  by_cases hh : left < (l.length : Int)
  · rw [if_pos hh]
    go_enter Try.func53, Try.ntmps53
    go_wp2
    go_ret
    exact ⟨rfl, rfl⟩
  · rw [if_neg hh]
    go_enter Try.func53, Try.ntmps53
    go_wp2
    go_ret
    exact ⟨rfl, rfl⟩
theorem toEv_any (m : M3) (w : World) : Calls Try.prog 91 #[m.val] w fun e w' => e = .returned m.val ∧ Below w.heap.size w w' := by
  obtain ⟨t, k, v⟩ := m
  have hB : Hid (Below w.heap.size w ((((w.alloc (.cells #[.int .i64 t, .int .i64 k, .int .i64 v] 123)).alloc (.cells #[.int .i64 t, .int .i64 k, .int .i64 v] 121)).alloc (.cells #[.int .i64 t, .int .i64 k, .int .i64 v] 121)))) := (((Below.refl _ w).alloc (Nat.le_refl _) _).alloc (by simp) _).alloc (by simp; omega) _
  rw [m3_val]
  go_enter Try.func91, Try.ntmps91
  go_wp2
  exact ret_row rfl rfl (((Row.new1 (w := w.alloc _) (n := w.heap.size + 1) (by simp) _ _).alloc _)) Try.underlying121 rfl info_e3 rfl ⟨rfl, hB.out⟩
theorem toEvS_any (v : Value) (l : List M3) (w : World) (h : SlF fK w v l) (hb : l.length ≤ 4000000) :
    Calls Try.prog 57 #[v] w fun e w' => ∃ v', e = .returned v' ∧ OwnF fE w.heap.size w' v' l ∧ Below w.heap.size w w' := by
  have HS : Hid (SlF fK w v l) := h
  obtain ⟨a, cap, rfl, -, hlc, hcm, -⟩ := h
  unfold maxLen at hcm
  go_enter Try.func57, Try.ntmps57
  go_wp2_with (at_make; refine makeF okE rfl (.tmp 6) (.tmp 6) rfl w.heap.size l.length _ rfl rfl rfl (by omega) (Nat.le_refl _) ?_; intro w1 ho hg; have HO : Hid (OwnF fE w.heap.size w1 (.slice (some ⟨w.heap.size, 0, none⟩) l.length l.length) (l.take 0 ++ List.replicate (l.length - 0) M3.nul) ∧ Below w.heap.size w w1) := ⟨by rw [show l.take 0 ++ List.replicate (l.length - 0) M3.nul = List.replicate l.length fE.z by simp [fE]]; exact ho, (Below.refl _ _).grown hg (Nat.le_refl _) (by simp)⟩; clear ho hg)
  go_loopw [4] (fun i wr => ∃ k : Nat, k ≤ l.length ∧ i = .int .i64 k ∧ OwnF fE w.heap.size wr (.slice (some ⟨w.heap.size, 0, none⟩) l.length l.length) (l.take k ++ List.replicate (l.length - k) M3.nul) ∧ Below w.heap.size w wr) (fun i _ => l.length - (intOf i).toNat)
  case atStart => exact ⟨0, Nat.zero_le _, rfl, HO.out.1, HO.out.2⟩
  case round =>
    obtain ⟨k, hk, rfl, ho, hbw⟩ := hrel
    have HO2 : Hid (OwnF fE w.heap.size wr (.slice (some ⟨w.heap.size, 0, none⟩) l.length l.length) (l.take k ++ List.replicate (l.length - k) M3.nul)) := ho
    have HB : Hid (Below w.heap.size w wr) := hbw
    by_cases hlt : k < l.length
    · obtain ⟨b, off, c, e, -, -, -⟩ := HS.out.shape (by omega)
      simp only [Value.slice.injEq] at e
      obtain ⟨rfl, -, rfl⟩ := e
      have hsl := HS.out.below hbw
      clear ho hbw
      go_wp2_with (first
        | (refine ixF okK (r := k) rfl rfl rfl rfl hlt ?_)
        | (refine elF okK rfl rfl rfl (hsl.range okK (at_some hlt)) ?_)
        | (go_at_call 91; refine (toEv_any (M3.at' l k) _).mono ?_; rintro e w2 ⟨rfl, hb2⟩; have ho2 := HO2.out.below hb2; have hB2 := HB.out.trans (hb2.mono HB.out.size))
        | (refine ixF okE (r := k) rfl rfl rfl rfl hlt ?_)
        | (refine stF okE rfl rfl (e' := M3.at' l k) rfl rfl rfl rfl ho2 (at_some (by simp; omega)) (Nat.zero_add _) ?_; rintro w3 ho3 hg3; have hB3 := hB2.grown hg3 hB2.size (by intro q hq; cases hq; exact Nat.le_refl _)))
      go_roundw
      case rel => exact ⟨k + 1, by omega, by go_num, by rw [← set3_step l k hlt]; exact ho3, hB3⟩
      case measure => simp [intOf]; omega
    · clear ho hbw
      go_wp2
      go_ret
      have e : k = l.length := by omega
      subst e
      exact ⟨_, rfl, by simpa using HO2.out, HB.out⟩
/-- Machines, inboxes and traces in lists: the laws' own and the program's. -/
def nulV : Value := Mc.nul.val (.slice none 0 0) (.slice none 0 0)
def fLMc : Fl Value := fA 98 22 25 192 nulV
def fIMc : Fl Value := fA 64 29 25 192 nulV
def fLMs : Fl Value := fS 38 23
def fIMs : Fl Value := fS 43 30
def fLEv : Fl Value := fS 100 24
def fIEv : Fl Value := fS 69 31
theorem okLMc : fLMc.Ok := okA (by kernel_rfl) (by decide) Try.underlying22 (by kernel_rfl) (by decide) (by decide) Try.underlying98 rfl
theorem okIMc : fIMc.Ok := okA (by kernel_rfl) (by decide) Try.underlying29 (by kernel_rfl) (by decide) (by decide) Try.underlying64 rfl
theorem okLMs : fLMs.Ok := okS Try.underlying23 (by kernel_rfl) Try.underlying38 rfl
theorem okIMs : fIMs.Ok := okS Try.underlying30 (by kernel_rfl) Try.underlying43 rfl
theorem okLEv : fLEv.Ok := okS Try.underlying24 (by kernel_rfl) Try.underlying100 rfl
theorem okIEv : fIEv.Ok := okS Try.underlying31 (by kernel_rfl) Try.underlying69 rfl
theorem szIntsB (v : Value) (l : List Int) (left : Int) (w : World) (h : Sl w v l) (hl : 0 ≤ left ∧ left ≤ 1048576) :
    Calls Try.prog 81 #[v, .int .i64 left] w fun e w' => e = .returned (.int .i64 (sub left l.length)) ∧ w' = w := szInts_any v l left w h hl
theorem szMsB (v : Value) (l : List M3) (left : Int) (w : World) (h : SlF fL w v l) (hl : 0 ≤ left ∧ left ≤ 1048576) :
    Calls Try.prog 10 #[v, .int .i64 left] w fun e w' => e = .returned (.int .i64 (sub left l.length)) ∧ Below w.heap.size w w' :=
  (szMsgS_any v l left w h hl).mono fun e w' ⟨h1, h2⟩ => ⟨h1, by rw [h2]; exact Below.refl _ _⟩
theorem szEvB (v : Value) (l : List M3) (left : Int) (w : World) (h : SlF fK w v l) (hl : 0 ≤ left ∧ left ≤ 1048576) :
    Calls Try.prog 53 #[v, .int .i64 left] w fun e w' => e = .returned (.int .i64 (sub left l.length)) ∧ Below w.heap.size w w' :=
  (szEvS_any v l left w h hl).mono fun e w' ⟨h1, h2⟩ => ⟨h1, by rw [h2]; exact Below.refl _ _⟩
theorem sub_neg {left : Int} {n : Nat} (h : left < (n : Int)) : sub left n = -1 := if_pos h
theorem sub_pos {left : Int} {n : Nat} (h : ¬ left < (n : Int)) : sub left n = left - n := if_neg h
theorem szMcB (v : Value) (m : Mc) (left : Int) (w : World) (h : MSl w v m) (hl : 0 ≤ left ∧ left ≤ 1048576) :
    Calls Try.prog 52 #[v, .int .i64 left] w fun e w' => e = .returned (.int .i64 (sub left m.len)) ∧ Below w.heap.size w w' := by
  obtain ⟨vr, va, hvv, hr, ha⟩ := h
  by_cases h1 : left < (m.rom.length : Int)
  · have e : sub left m.len = -1 := sub_neg (by unfold Mc.len; omega)
    rw [e]
    go_enter Try.func52, Try.ntmps52
    go_wp2_with (first
      | (refine box_l rfl rfl hvv ?_; intro w0 r0 hB0; have k0 := (cwl r0).vr; have k1 := (cwl r0).va)
      | (go_at_call 81; refine (szIntsB vr m.rom _ _ (hr.below hB0) hl).mono ?_; rintro e w1 ⟨rfl, rfl⟩; rw [sub_neg h1]))
    go_ret
    exact ⟨rfl, hB0⟩
  · by_cases h2 : left - (m.rom.length : Int) < (m.ram.length : Int)
    · have e : sub left m.len = -1 := sub_neg (by unfold Mc.len; omega)
      rw [e]
      go_enter Try.func52, Try.ntmps52
      go_wp2_with (first
        | (refine box_l rfl rfl hvv ?_; intro w0 r0 hB0; have k0 := (cwl r0).vr; have k1 := (cwl r0).va))
      go_at_call 81
      refine (szIntsB vr m.rom _ _ (hr.below hB0) hl).mono ?_
      rintro e w1 ⟨rfl, rfl⟩
      rw [sub_pos (by omega)]
      go_wp2_with fail
      go_at_call 81
      refine (szIntsB va m.ram _ _ (ha.below hB0) (by omega)).mono ?_
      rintro e w2 ⟨rfl, rfl⟩
      rw [sub_neg (by omega)]
      go_wp2
      go_ret
      exact ⟨rfl, hB0⟩
    · have e : sub left m.len = left - m.rom.length - m.ram.length := by rw [sub_pos (by unfold Mc.len; omega)]; unfold Mc.len; omega
      rw [e]
      go_enter Try.func52, Try.ntmps52
      go_wp2_with (first
        | (refine box_l rfl rfl hvv ?_; intro w0 r0 hB0; have k0 := (cwl r0).vr; have k1 := (cwl r0).va))
      go_at_call 81
      refine (szIntsB vr m.rom _ _ (hr.below hB0) hl).mono ?_
      rintro e w1 ⟨rfl, rfl⟩
      rw [sub_pos (by omega)]
      go_wp2_with fail
      go_at_call 81
      refine (szIntsB va m.ram _ _ (ha.below hB0) (by omega)).mono ?_
      rintro e w2 ⟨rfl, rfl⟩
      rw [sub_pos (by omega)]
      go_wp2
      go_ret
      exact ⟨rfl, hB0⟩
theorem toMcB (v : Value) (m : Mc) (w : World) (h : MSl w v m) (hl : m.len ≤ 2000000) :
    Calls Try.prog 56 #[v] w fun e w' => ∃ v', e = .returned v' ∧ MOwn w.heap.size w' v' m ∧ Below w.heap.size w w' := by
  obtain ⟨vr, va, rfl, h1, h2⟩ := h
  unfold Mc.len at hl
  exact toMachine_any vr va m w h1 h2 (by omega) (by omega)
theorem toMsB (v : Value) (l : List M3) (w : World) (h : SlF fL w v l) (hl : l.length ≤ 2000000) :
    Calls Try.prog 13 #[v] w fun e w' => ∃ v', e = .returned v' ∧ OwnF fM w.heap.size w' v' l ∧ Below w.heap.size w w' := toMsgS_any v l w h (by omega)
theorem toEvB (v : Value) (l : List M3) (w : World) (h : SlF fK w v l) (hl : l.length ≤ 2000000) :
    Calls Try.prog 57 #[v] w fun e w' => ∃ v', e = .returned v' ∧ OwnF fE w.heap.size w' v' l ∧ Below w.heap.size w w' := toEvS_any v l w h (by omega)
theorem eqMcB (v u : Value) (m : Mc) (w : World) (h1 : MSl w v m) (h2 : MSl w u m) :
    Calls Try.prog 68 #[v, u] w fun e w' => e = .returned (.bool true) ∧ Below w.heap.size w w' := by
  obtain ⟨vr, va, rfl, a1, a2⟩ := h1
  obtain ⟨ur, ua, rfl, b1, b2⟩ := h2
  exact eqMachine_same vr va ur ua m w a1 a2 b1 b2
structure Gjj {α : Type} (f : Fl Value) (R : World → Value → α → Prop) (w : World) (v u : Value) (l : List α) (W : World) : Prop where
  sl : NsF f R W v l
  su : NsF f R W u l
  bel : Below w.heap.size w W
theorem Gjj.below {α : Type} {f : Fl Value} {R : World → Value → α → Prop} {w W W' : World} {v u : Value} {l : List α} (h : Gjj f R w v u l W) (hR : Stays R) (hb : Below W.heap.size W W') : Gjj f R w v u l W' := ⟨h.sl.below hR hb, h.su.below hR hb, below_more h.bel hb⟩
structure Gkk {α : Type} (f : Fl Value) (R : World → Value → α → Prop) (w : World) (v u : Value) (us ts : List Value) (l : List α) (W : World) : Prop where
  sl : SlF f W v us
  su : SlF f W u ts
  rl : All2 (R W) us l
  ru : All2 (R W) ts l
  bel : Below w.heap.size w W
theorem Gkk.below {α : Type} {f : Fl Value} {R : World → Value → α → Prop} {w W W' : World} {v u : Value} {us ts : List Value} {l : List α} (h : Gkk f R w v u us ts l W) (hR : Stays R) (hb : Below W.heap.size W W') : Gkk f R w v u us ts l W' :=
  ⟨h.sl.below hb, h.su.below hb, h.rl.imp fun _ _ _ _ h => hR _ _ _ _ h hb, h.ru.imp fun _ _ _ _ h => hR _ _ _ _ h hb, below_more h.bel hb⟩
theorem Gkk.drew {α : Type} {f : Fl Value} {R : World → Value → α → Prop} {w W : World} {v u : Value} {us ts : List Value} {l : List α} (h : Gkk f R w v u us ts l W) (hR : Stays R) : Gkk f R w v u us ts l W.drew := h.below hR (drew_below (n := 1) rfl)
theorem Gkk.jj {α : Type} {f : Fl Value} {R : World → Value → α → Prop} {w W : World} {v u : Value} {us ts : List Value} {l : List α} (h : Gkk f R w v u us ts l W) : Gjj f R w v u l W := ⟨⟨us, h.sl, h.rl⟩, ⟨ts, h.su, h.ru⟩, h.bel⟩
theorem szMcs_any (v : Value) (l : List (Mc)) (left : Int) (w : World) (h : NsF fLMc MSl w v l) (hl : 0 ≤ left ∧ left ≤ 1048576) :
    Calls Try.prog 21 #[v, .int .i64 left] w fun e w' => e = .returned (.int .i64 (sub left (tot Mc.len l))) ∧ Below w.heap.size w w' := by
  have HS : Hid (NsF fLMc MSl w v l) := h
  obtain ⟨a, cap, rfl, hlc, hcm⟩ := h.len
  unfold maxLen at hcm
  by_cases hh : left < (l.length : Int)
  · rw [sub_neg (by unfold tot; omega)]
    clear HS
    go_enter Try.func21, Try.ntmps21
    go_wp2
    go_ret
    exact ⟨rfl, Below.refl _ _⟩
  · go_enter Try.func21, Try.ntmps21
    go_wp2_with fail
    go_loopw [1, 5] (fun z i wr => ∃ k : Nat, k ≤ l.length ∧ i = .int .i64 k ∧ z = .int .i64 (left - l.length - (sm Mc.len (l.take k) : Nat)) ∧ ((sm Mc.len (l.take k) : Nat) : Int) ≤ left - l.length ∧ Below w.heap.size w wr) (fun _ i _ => l.length - (intOf i).toNat)
    case atStart => exact ⟨0, Nat.zero_le _, rfl, by simp [sm], by simp [sm]; omega, Below.refl _ _⟩
    case round =>
      obtain ⟨k, hk, rfl, rfl, hs, hbw⟩ := hrel
      have HB : Hid (Below w.heap.size w wr) := hbw
      obtain ⟨us, hsl, hal⟩ := HS.out.below stays_mc hbw
      clear hbw
      by_cases hlt : k < l.length
      · obtain ⟨u, x, hu, hx, hr⟩ := hal.get hlt
        obtain ⟨b, off, c, e, -, -, -⟩ := hsl.shape (by rw [hal.1]; omega)
        simp only [Value.slice.injEq] at e
        obtain ⟨rfl, -, rfl⟩ := e
        have HT : Hid (sm Mc.len (l.take (k + 1)) = sm Mc.len (l.take k) + Mc.len x) := sm_take hx
        have HL : Hid (sm Mc.len (l.take (k + 1)) ≤ sm Mc.len l) := sm_le _
        have HV : Hid (∀ (q : Nat), wr.rangeAt b q (fLMc.F u) → fLMc.V u = u) := fun q _ => fit_mc wr u x hr
        have HR : Hid (MSl wr u x) := hr
        have HG : Hid (wr.rangeAt b (off + k * 25) (fLMc.F u)) := hsl.range okLMc hu
        clear hal hsl hu hx hr
        generalize hq : sm Mc.len (l.take k) = s at *
        by_cases hz : left - (l.length : Int) - (s : Int) < (Mc.len x : Nat)
        · have HE : Hid (sub left (tot Mc.len l) = -1) := sub_neg (by have := HT.out; have := HL.out; unfold tot; omega)
          go_wp2_with (first
            | (refine ixF okLMc (r := k) rfl rfl rfl rfl hlt ?_)
            | (refine elN okLMc rfl rfl rfl HG.out (HV.out _ HG.out) ?_)
            | (go_at_call 52; refine (szMcB u x _ _ HR.out ⟨by omega, by omega⟩).mono ?_; rintro e w2 ⟨rfl, hb2⟩; rw [sub_neg hz]))
          go_ret
          exact ⟨by rw [HE.out]; rfl, below_more HB.out hb2⟩
        · have hz' : ¬ left - (l.length : Int) - (s : Int) < 0 := by omega
          go_wp2_with (first
            | (refine ixF okLMc (r := k) rfl rfl rfl rfl hlt ?_)
            | (refine elN okLMc rfl rfl rfl HG.out (HV.out _ HG.out) ?_)
            | (go_at_call 52; refine (szMcB u x _ _ HR.out ⟨by omega, by omega⟩).mono ?_; rintro e w2 ⟨rfl, hb2⟩; rw [sub_pos hz]))
          go_roundw
          case rel => exact ⟨k + 1, by omega, by go_num, by rw [HT.out]; congr 1; push_cast; omega, by rw [HT.out]; push_cast; omega, below_more HB.out hb2⟩
          case measure => simp [intOf]; omega
      · clear hal hsl
        have e : k = l.length := by omega
        subst e
        have HE : Hid (sub left (tot Mc.len l) = left - l.length - (sm Mc.len (l.take l.length) : Nat)) := by rw [sub_pos (by unfold tot; rw [List.take_length] at hs; omega), List.take_length]; unfold tot; push_cast; show _ = _; omega
        go_wp2
        go_ret
        exact ⟨by rw [HE.out]; rfl, HB.out⟩
theorem toMcs_any (v : Value) (l : List (Mc)) (w : World) (h : NsF fLMc MSl w v l) (hb : l.length ≤ 2000000) (hE : ∀ x ∈ l, Mc.len x ≤ 2000000) :
    Calls Try.prog 25 #[v] w fun e w' => ∃ v', e = .returned v' ∧ NoF fIMc MOwn w.heap.size w' v' l ∧ Below w.heap.size w w' := by
  have HS : Hid (NsF fLMc MSl w v l) := h
  obtain ⟨a, cap, rfl, hlc, hcm⟩ := h.len
  unfold maxLen at hcm
  go_enter Try.func25, Try.ntmps25
  go_wp2_with (at_make; refine makeF okIMc rfl (.tmp 6) (.tmp 6) rfl w.heap.size l.length _ rfl rfl rfl (by omega) (Nat.le_refl _) ?_; intro w1 ho hg; have HO : Hid (OwnF fIMc w.heap.size w1 (.slice (some ⟨w.heap.size, 0, none⟩) l.length l.length) (List.replicate l.length nulV) ∧ Below w.heap.size w w1) := ⟨ho, ⟨hg.os, hg.tape, hg.output, hg.size, fun q hq => hg.block q hq (by simp)⟩⟩)
  go_loopw [4] (fun i wr => ∃ us : List Value, us.length ≤ l.length ∧ i = .int .i64 us.length ∧ OwnF fIMc w.heap.size wr (.slice (some ⟨w.heap.size, 0, none⟩) l.length l.length) (us ++ List.replicate (l.length - us.length) nulV) ∧ All2 (MOwn (w.heap.size + 1) wr) us (l.take us.length) ∧ Below w.heap.size w wr) (fun i _ => l.length - (intOf i).toNat)
  case atStart => exact ⟨[], Nat.zero_le _, rfl, by simpa using HO.out.1, by simpa using All2.nil, HO.out.2⟩
  case round =>
    obtain ⟨us, hk, rfl, ho, hal, hbw⟩ := hrel
    have HO2 : Hid (OwnF fIMc w.heap.size wr (.slice (some ⟨w.heap.size, 0, none⟩) l.length l.length) (us ++ List.replicate (l.length - us.length) nulV)) := ho
    have HA : Hid (All2 (MOwn (w.heap.size + 1) wr) us (l.take us.length)) := hal
    have HB : Hid (Below w.heap.size w wr) := hbw
    obtain ⟨rs, hsl, hrl⟩ := HS.out.below stays_mc hbw
    by_cases hlt : us.length < l.length
    · have hgz : w.heap.size < wr.heap.size := (ho.lt w.heap.size rfl).2
      clear ho hal hbw
      obtain ⟨u, x, hu, hx, hr⟩ := hrl.get hlt
      obtain ⟨b, off, c, e, -, -, -⟩ := hsl.shape (by rw [hrl.1]; omega)
      simp only [Value.slice.injEq] at e
      obtain ⟨rfl, -, rfl⟩ := e
      have hV : fLMc.V u = u := fit_mc wr u x hr
      have hG : wr.rangeAt b (off + us.length * 25) (fLMc.F u) := hsl.range okLMc hu
      have hxl : Mc.len x ≤ 2000000 := hE x (List.mem_of_getElem? hx)
      go_wp2_with (first
        | (refine ixF okLMc (r := us.length) rfl rfl rfl rfl hlt ?_)
        | (refine elN okLMc rfl rfl rfl hG hV ?_)
        | (go_at_call 56; refine (toMcB u x _ hr hxl).mono ?_; rintro e w2 ⟨v2, rfl, hn2, hb2⟩; have ho2 := HO2.out.below hb2; have hB2 := HB.out.trans (hb2.mono HB.out.size); have hn2' := owns_mc.mono _ (w.heap.size + 1) _ _ _ hn2 hgz; have hW : fIMc.V v2 = v2 := fit_mc w2 v2 x (owns_mc.sl _ _ _ _ hn2))
        | (refine ixF okIMc (r := us.length) rfl rfl rfl rfl hlt ?_)
        | (refine stN okIMc (i := us.length) (e := nulV) rfl rfl rfl rfl hW ho2 (by rw [List.getElem?_append_right (Nat.le_refl _), Nat.sub_self, List.getElem?_replicate, if_pos (by omega)]) (Nat.zero_add _) ?_; rintro w3 ho3 hg3; have hB3 := hB2.grown hg3 hB2.size (by intro q hq; cases hq; exact Nat.le_refl _)))
      go_roundw
      case rel =>
        have hlen : (us ++ [v2]).length = us.length + 1 := by simp
        have hwB : ∀ q, w.heap.size + 1 ≤ q → q < w2.heap.size → w3.heap[q]? = w2.heap[q]? := fun q h1 h2 => hg3.block q h2 (by simp; omega)
        refine ⟨us ++ [v2], by omega, by rw [hlen]; go_num, by rw [← set_raw us nulV v2 l.length hlt]; exact ho3, ?_, hB3⟩
        rw [hlen, List.take_succ_eq_append_getElem hlt]
        have hxe : l[us.length] = x := by simpa [List.getElem?_eq_getElem hlt] using hx
        rw [hxe]
        refine ((HA.out.imp fun y z _ _ hy => owns_mc.kept _ _ _ _ _ hy fun k hk => ?_).snoc (R := MOwn (w.heap.size + 1) w3) (owns_mc.kept _ _ _ _ _ hn2' fun k hk => ?_))
        · have h1 := owns_mc.lt _ _ _ _ _ hy hk
          rw [hwB k h1.1 (Nat.lt_of_lt_of_le h1.2 hb2.size), hb2.block k h1.2]
        · have h1 := owns_mc.lt _ _ _ _ _ hn2' hk
          exact hwB k h1.1 h1.2
      case measure => simp [intOf]; omega
    · clear ho hal hbw hsl hrl
      go_wp2
      go_ret
      have e : us.length = l.length := by omega
      refine ⟨_, rfl, ⟨us, by have := HO2.out; rwa [e, Nat.sub_self, List.replicate_zero, List.append_nil] at this, ?_, fun u hu k hk => ?_⟩, HB.out⟩
      · have := HA.out
        rw [e, List.take_length] at this
        exact this.imp fun y z _ _ hy => owns_mc.mono _ _ _ _ _ hy (Nat.le_succ _)
      · obtain ⟨i, hi⟩ := List.getElem?_of_mem hu
        have hil : i < l.length := by have := (List.getElem?_eq_some_iff.1 hi).1; omega
        have h2 := HA.out.2 i u l[i] hi (by rw [List.getElem?_take_of_lt (by omega)]; exact List.getElem?_eq_getElem hil)
        have h1 := (owns_mc.lt _ _ _ _ _ h2 hk).1
        simp [Value.ownBlock]
        omega
theorem eqMcs_same (v u : Value) (l : List (Mc)) (w : World) (h1 : NsF fIMc MSl w v l) (h2 : NsF fIMc MSl w u l) :
    Calls Try.prog 34 #[v, u] w fun e w' => e = .returned (.bool true) ∧ Below w.heap.size w w' := by
  have hG : Gjj fIMc MSl w v u l w := ⟨h1, h2, Below.refl _ _⟩
  obtain ⟨a, c, rfl, hlc, hcm⟩ := h1.len
  obtain ⟨a2, c2, rfl, hlc2, hcm2⟩ := h2.len
  clear h1 h2
  unfold maxLen at hcm hcm2
  have hll : ((l.length : Int) != (l.length : Int)) = false := by simp
  go_enter Try.func34, Try.ntmps34
  go_wp2_with fail
  go_loopw [5] (fun i wr => ∃ k : Nat, k ≤ l.length ∧ i = .int .i64 k ∧ Gjj fIMc MSl w (.slice a l.length c) (.slice a2 l.length c2) l wr) (fun i _ => l.length - (intOf i).toNat)
  case atStart => exact ⟨0, Nat.zero_le _, rfl, hG⟩
  case round =>
    clear hG
    obtain ⟨k, hk, rfl, hG⟩ := hrel
    by_cases hlt : k < l.length
    · obtain ⟨us, s1, r1⟩ := hG.sl
      obtain ⟨ts, s2, r2⟩ := hG.su
      obtain ⟨b, off, c', e, -, -, -⟩ := s1.shape (by rw [r1.1]; omega)
      simp only [Value.slice.injEq] at e
      obtain ⟨rfl, -, rfl⟩ := e
      obtain ⟨b2, off2, c2', e, -, -, -⟩ := s2.shape (by rw [r2.1]; omega)
      simp only [Value.slice.injEq] at e
      obtain ⟨rfl, -, rfl⟩ := e
      obtain ⟨u1, x, hu1, hx, q1⟩ := r1.get hlt
      obtain ⟨u2, y, hu2, hy, q2⟩ := r2.get hlt
      obtain rfl : y = x := by rw [hx] at hy; exact (Option.some.inj hy).symm
      have hV1 : fIMc.V u1 = u1 := fit_mc _ _ _ q1
      have hV2 : fIMc.V u2 = u2 := fit_mc _ _ _ q2
      have hK : Gkk fIMc MSl w (.slice (some ⟨b, off, none⟩) l.length c) (.slice (some ⟨b2, off2, none⟩) l.length c2) us ts l wr := ⟨s1, s2, r1, r2, hG.bel⟩
      clear hG s1 s2 r1 r2 q1 q2
      go_wp2_with fail
      refine region_known (by kernel_rfl) (by kernel_rfl) 0 (by decide) (by kernel_rfl) (fun _ W => Gkk fIMc MSl w (.slice (some ⟨b, off, none⟩) l.length c) (.slice (some ⟨b2, off2, none⟩) l.length c2) us ts l W) [.slice (some ⟨b, off, none⟩) l.length c, .int .i64 (k : Int), .pointer (some ⟨b, off + k * 25, none⟩), u1, .slice (some ⟨b2, off2, none⟩) l.length c2, .int .i64 (k : Int), .pointer (some ⟨b2, off2 + k * 25, none⟩), u2, .bool true, .bool false] (hK.drew stays_mc) ?step ?done
      case step =>
        intro L ix o' A W hj hI hL hd
        have hin : ix < 10 := by
          by_cases hl : ix < 10
          · exact hl
          · simp [hl] at hj
        have hsz : A.tmps.size = 27 := hI.size
        have hg := hI.g
        rcases ix with _ | ix
        · cases hj
          exact at_op rfl rfl (move_op rfl ⟨_, rfl, hI.old 0 (by kernel_rfl), hg⟩)
        rcases ix with _ | ix
        · cases hj
          exact at_op rfl rfl (move_op rfl ⟨_, rfl, hI.old 5 (by kernel_rfl), hg⟩)
        rcases ix with _ | ix
        · cases hj
          have e0 : A.eval (.tmp 17) = .slice (some ⟨b, off, none⟩) l.length c := hI.val hd 0 17 rfl rfl (by kernel_rfl)
          have e1 : A.eval (.tmp 18) = .int .i64 (k : Int) := hI.val hd 1 18 rfl rfl (by kernel_rfl)
          exact at_op rfl rfl (ixF_op okIMc rfl e0 e1 hlt ⟨_, rfl, rfl, hg⟩)
        rcases ix with _ | ix
        · cases hj
          have e0 : A.eval (.tmp 19) = .pointer (some ⟨b, off + k * 25, none⟩) := hI.val hd 2 19 rfl rfl (by kernel_rfl)
          exact at_op rfl rfl (elN_op okIMc rfl e0 (hg.sl.range okIMc hu1) hV1 ⟨_, rfl, rfl, hg⟩)
        rcases ix with _ | ix
        · cases hj
          exact at_op rfl rfl (move_op rfl ⟨_, rfl, hI.old 1 (by kernel_rfl), hg⟩)
        rcases ix with _ | ix
        · cases hj
          exact at_op rfl rfl (move_op rfl ⟨_, rfl, hI.old 5 (by kernel_rfl), hg⟩)
        rcases ix with _ | ix
        · cases hj
          have e0 : A.eval (.tmp 21) = .slice (some ⟨b2, off2, none⟩) l.length c2 := hI.val hd 4 21 rfl rfl (by kernel_rfl)
          have e1 : A.eval (.tmp 22) = .int .i64 (k : Int) := hI.val hd 5 22 rfl rfl (by kernel_rfl)
          exact at_op rfl rfl (ixF_op okIMc rfl e0 e1 hlt ⟨_, rfl, rfl, hg⟩)
        rcases ix with _ | ix
        · cases hj
          have e0 : A.eval (.tmp 23) = .pointer (some ⟨b2, off2 + k * 25, none⟩) := hI.val hd 6 23 rfl rfl (by kernel_rfl)
          exact at_op rfl rfl (elN_op okIMc rfl e0 (hg.su.range okIMc hu2) hV2 ⟨_, rfl, rfl, hg⟩)
        rcases ix with _ | ix
        · cases hj
          have e0 : A.eval (.tmp 20) = u1 := hI.val hd 3 20 rfl rfl (by kernel_rfl)
          have e1 : A.eval (.tmp 24) = u2 := hI.val hd 7 24 rfl rfl (by kernel_rfl)
          refine at_op rfl rfl (call_op rfl Try.func68 (by kernel_rfl) (by kernel_rfl) ?_)
          simp only [List.map_cons, List.map_nil, e0, e1]
          refine (eqMcB _ _ y _ (hg.rl.2 k _ _ hu1 hx) (hg.ru.2 k _ _ hu2 hx)).mono ?_
          rintro e W1 ⟨rfl, hb⟩
          exact ⟨_, rfl, _, rfl, rfl, hg.below stays_mc hb⟩
        rcases ix with _ | ix
        · cases hj
          have e0 : A.eval (.tmp 25) = .bool true := hI.val hd 8 25 rfl rfl (by kernel_rfl)
          refine at_op rfl rfl (val_op (v := .bool false) ?_ ⟨_, rfl, rfl, hg⟩)
          unfold execOp
          simp only [List.getElem_toArray, List.getElem_cons_zero, List.getElem_cons_succ, e0]
          simp [go_sem]
        omega
      case done =>
        intro A W hI
        have hg := hI.g.jj
        have s26 : A.tmps.getD 26 undef = .bool false := hI.last 9 26 rfl
        have hA := hI.frame [17, 18, 19, 20, 21, 22, 23, 24, 25, 26] (by kernel_rfl)
        rw [hA]
        simp only [putAll, List.foldl_cons, List.foldl_nil, s26, Act.put, List.setIfInBounds_toArray, List.set_cons_zero, List.set_cons_succ]
        clear hA hI s26 hK
        go_wp2
        go_roundw
        case rel => exact ⟨k + 1, by omega, by go_num, hg⟩
        case measure => simp [intOf]; omega
    · have hbel := hG.bel
      clear hG
      go_wp2
      go_ret
      exact ⟨rfl, hbel⟩
theorem szMss_any (v : Value) (l : List (List M3)) (left : Int) (w : World) (h : NsF fLMs (SlF fL) w v l) (hl : 0 ≤ left ∧ left ≤ 1048576) :
    Calls Try.prog 22 #[v, .int .i64 left] w fun e w' => e = .returned (.int .i64 (sub left (tot List.length l))) ∧ Below w.heap.size w w' := by
  have HS : Hid (NsF fLMs (SlF fL) w v l) := h
  obtain ⟨a, cap, rfl, hlc, hcm⟩ := h.len
  unfold maxLen at hcm
  by_cases hh : left < (l.length : Int)
  · rw [sub_neg (by unfold tot; omega)]
    clear HS
    go_enter Try.func22, Try.ntmps22
    go_wp2
    go_ret
    exact ⟨rfl, Below.refl _ _⟩
  · go_enter Try.func22, Try.ntmps22
    go_wp2_with fail
    go_loopw [1, 5] (fun z i wr => ∃ k : Nat, k ≤ l.length ∧ i = .int .i64 k ∧ z = .int .i64 (left - l.length - (sm List.length (l.take k) : Nat)) ∧ ((sm List.length (l.take k) : Nat) : Int) ≤ left - l.length ∧ Below w.heap.size w wr) (fun _ i _ => l.length - (intOf i).toNat)
    case atStart => exact ⟨0, Nat.zero_le _, rfl, by simp [sm], by simp [sm]; omega, Below.refl _ _⟩
    case round =>
      obtain ⟨k, hk, rfl, rfl, hs, hbw⟩ := hrel
      have HB : Hid (Below w.heap.size w wr) := hbw
      obtain ⟨us, hsl, hal⟩ := HS.out.below stays_sl hbw
      clear hbw
      by_cases hlt : k < l.length
      · obtain ⟨u, x, hu, hx, hr⟩ := hal.get hlt
        obtain ⟨b, off, c, e, -, -, -⟩ := hsl.shape (by rw [hal.1]; omega)
        simp only [Value.slice.injEq] at e
        obtain ⟨rfl, -, rfl⟩ := e
        have HT : Hid (sm List.length (l.take (k + 1)) = sm List.length (l.take k) + List.length x) := sm_take hx
        have HL : Hid (sm List.length (l.take (k + 1)) ≤ sm List.length l) := sm_le _
        have HV : Hid (∀ (q : Nat), wr.rangeAt b q (fLMs.F u) → fLMs.V u = u) := fun q _ => fit_sl wr u x hr
        have HR : Hid ((SlF fL) wr u x) := hr
        have HG : Hid (wr.rangeAt b (off + k * 1) (fLMs.F u)) := hsl.range okLMs hu
        clear hal hsl hu hx hr
        generalize hq : sm List.length (l.take k) = s at *
        by_cases hz : left - (l.length : Int) - (s : Int) < (List.length x : Nat)
        · have HE : Hid (sub left (tot List.length l) = -1) := sub_neg (by have := HT.out; have := HL.out; unfold tot; omega)
          go_wp2_with (first
            | (refine ixF okLMs (r := k) rfl rfl rfl rfl hlt ?_)
            | (refine elN okLMs rfl rfl rfl HG.out (HV.out _ HG.out) ?_)
            | (go_at_call 10; refine (szMsB u x _ _ HR.out ⟨by omega, by omega⟩).mono ?_; rintro e w2 ⟨rfl, hb2⟩; rw [sub_neg hz]))
          go_ret
          exact ⟨by rw [HE.out]; rfl, below_more HB.out hb2⟩
        · have hz' : ¬ left - (l.length : Int) - (s : Int) < 0 := by omega
          go_wp2_with (first
            | (refine ixF okLMs (r := k) rfl rfl rfl rfl hlt ?_)
            | (refine elN okLMs rfl rfl rfl HG.out (HV.out _ HG.out) ?_)
            | (go_at_call 10; refine (szMsB u x _ _ HR.out ⟨by omega, by omega⟩).mono ?_; rintro e w2 ⟨rfl, hb2⟩; rw [sub_pos hz]))
          go_roundw
          case rel => exact ⟨k + 1, by omega, by go_num, by rw [HT.out]; congr 1; push_cast; omega, by rw [HT.out]; push_cast; omega, below_more HB.out hb2⟩
          case measure => simp [intOf]; omega
      · clear hal hsl
        have e : k = l.length := by omega
        subst e
        have HE : Hid (sub left (tot List.length l) = left - l.length - (sm List.length (l.take l.length) : Nat)) := by rw [sub_pos (by unfold tot; rw [List.take_length] at hs; omega), List.take_length]; unfold tot; push_cast; show _ = _; omega
        go_wp2
        go_ret
        exact ⟨by rw [HE.out]; rfl, HB.out⟩
theorem toMss_any (v : Value) (l : List (List M3)) (w : World) (h : NsF fLMs (SlF fL) w v l) (hb : l.length ≤ 2000000) (hE : ∀ x ∈ l, List.length x ≤ 2000000) :
    Calls Try.prog 26 #[v] w fun e w' => ∃ v', e = .returned v' ∧ NoF fIMs (OwnF fM) w.heap.size w' v' l ∧ Below w.heap.size w w' := by
  have HS : Hid (NsF fLMs (SlF fL) w v l) := h
  obtain ⟨a, cap, rfl, hlc, hcm⟩ := h.len
  unfold maxLen at hcm
  go_enter Try.func26, Try.ntmps26
  go_wp2_with (at_make; refine makeF okIMs rfl (.tmp 6) (.tmp 6) rfl w.heap.size l.length _ rfl rfl rfl (by omega) (Nat.le_refl _) ?_; intro w1 ho hg; have HO : Hid (OwnF fIMs w.heap.size w1 (.slice (some ⟨w.heap.size, 0, none⟩) l.length l.length) (List.replicate l.length (.slice none 0 0)) ∧ Below w.heap.size w w1) := ⟨ho, ⟨hg.os, hg.tape, hg.output, hg.size, fun q hq => hg.block q hq (by simp)⟩⟩)
  go_loopw [4] (fun i wr => ∃ us : List Value, us.length ≤ l.length ∧ i = .int .i64 us.length ∧ OwnF fIMs w.heap.size wr (.slice (some ⟨w.heap.size, 0, none⟩) l.length l.length) (us ++ List.replicate (l.length - us.length) (.slice none 0 0)) ∧ All2 ((OwnF fM) (w.heap.size + 1) wr) us (l.take us.length) ∧ Below w.heap.size w wr) (fun i _ => l.length - (intOf i).toNat)
  case atStart => exact ⟨[], Nat.zero_le _, rfl, by simpa using HO.out.1, by simpa using All2.nil, HO.out.2⟩
  case round =>
    obtain ⟨us, hk, rfl, ho, hal, hbw⟩ := hrel
    have HO2 : Hid (OwnF fIMs w.heap.size wr (.slice (some ⟨w.heap.size, 0, none⟩) l.length l.length) (us ++ List.replicate (l.length - us.length) (.slice none 0 0))) := ho
    have HA : Hid (All2 ((OwnF fM) (w.heap.size + 1) wr) us (l.take us.length)) := hal
    have HB : Hid (Below w.heap.size w wr) := hbw
    obtain ⟨rs, hsl, hrl⟩ := HS.out.below stays_sl hbw
    by_cases hlt : us.length < l.length
    · have hgz : w.heap.size < wr.heap.size := (ho.lt w.heap.size rfl).2
      clear ho hal hbw
      obtain ⟨u, x, hu, hx, hr⟩ := hrl.get hlt
      obtain ⟨b, off, c, e, -, -, -⟩ := hsl.shape (by rw [hrl.1]; omega)
      simp only [Value.slice.injEq] at e
      obtain ⟨rfl, -, rfl⟩ := e
      have hV : fLMs.V u = u := fit_sl wr u x hr
      have hG : wr.rangeAt b (off + us.length * 1) (fLMs.F u) := hsl.range okLMs hu
      have hxl : List.length x ≤ 2000000 := hE x (List.mem_of_getElem? hx)
      go_wp2_with (first
        | (refine ixF okLMs (r := us.length) rfl rfl rfl rfl hlt ?_)
        | (refine elN okLMs rfl rfl rfl hG hV ?_)
        | (go_at_call 13; refine (toMsB u x _ hr hxl).mono ?_; rintro e w2 ⟨v2, rfl, hn2, hb2⟩; have ho2 := HO2.out.below hb2; have hB2 := HB.out.trans (hb2.mono HB.out.size); have hn2' := (owns_sl okM).mono _ (w.heap.size + 1) _ _ _ hn2 hgz; have hW : fIMs.V v2 = v2 := fit_sl w2 v2 x ((owns_sl okM).sl _ _ _ _ hn2))
        | (refine ixF okIMs (r := us.length) rfl rfl rfl rfl hlt ?_)
        | (refine stN okIMs (i := us.length) (e := (.slice none 0 0)) rfl rfl rfl rfl hW ho2 (by rw [List.getElem?_append_right (Nat.le_refl _), Nat.sub_self, List.getElem?_replicate, if_pos (by omega)]) (Nat.zero_add _) ?_; rintro w3 ho3 hg3; have hB3 := hB2.grown hg3 hB2.size (by intro q hq; cases hq; exact Nat.le_refl _)))
      go_roundw
      case rel =>
        have hlen : (us ++ [v2]).length = us.length + 1 := by simp
        have hwB : ∀ q, w.heap.size + 1 ≤ q → q < w2.heap.size → w3.heap[q]? = w2.heap[q]? := fun q h1 h2 => hg3.block q h2 (by simp; omega)
        refine ⟨us ++ [v2], by omega, by rw [hlen]; go_num, by rw [← set_raw us (.slice none 0 0) v2 l.length hlt]; exact ho3, ?_, hB3⟩
        rw [hlen, List.take_succ_eq_append_getElem hlt]
        have hxe : l[us.length] = x := by simpa [List.getElem?_eq_getElem hlt] using hx
        rw [hxe]
        refine ((HA.out.imp fun y z _ _ hy => (owns_sl okM).kept _ _ _ _ _ hy fun k hk => ?_).snoc (R := (OwnF fM) (w.heap.size + 1) w3) ((owns_sl okM).kept _ _ _ _ _ hn2' fun k hk => ?_))
        · have h1 := (owns_sl okM).lt _ _ _ _ _ hy hk
          rw [hwB k h1.1 (Nat.lt_of_lt_of_le h1.2 hb2.size), hb2.block k h1.2]
        · have h1 := (owns_sl okM).lt _ _ _ _ _ hn2' hk
          exact hwB k h1.1 h1.2
      case measure => simp [intOf]; omega
    · clear ho hal hbw hsl hrl
      go_wp2
      go_ret
      have e : us.length = l.length := by omega
      refine ⟨_, rfl, ⟨us, by have := HO2.out; rwa [e, Nat.sub_self, List.replicate_zero, List.append_nil] at this, ?_, fun u hu k hk => ?_⟩, HB.out⟩
      · have := HA.out
        rw [e, List.take_length] at this
        exact this.imp fun y z _ _ hy => (owns_sl okM).mono _ _ _ _ _ hy (Nat.le_succ _)
      · obtain ⟨i, hi⟩ := List.getElem?_of_mem hu
        have hil : i < l.length := by have := (List.getElem?_eq_some_iff.1 hi).1; omega
        have h2 := HA.out.2 i u l[i] hi (by rw [List.getElem?_take_of_lt (by omega)]; exact List.getElem?_eq_getElem hil)
        have h1 := ((owns_sl okM).lt _ _ _ _ _ h2 hk).1
        simp [Value.ownBlock]
        omega
theorem eqMss_same (v u : Value) (l : List (List M3)) (w : World) (h1 : NsF fIMs (SlF fM) w v l) (h2 : NsF fIMs (SlF fM) w u l) :
    Calls Try.prog 35 #[v, u] w fun e w' => e = .returned (.bool true) ∧ Below w.heap.size w w' := by
  have hG : Gjj fIMs (SlF fM) w v u l w := ⟨h1, h2, Below.refl _ _⟩
  obtain ⟨a, c, rfl, hlc, hcm⟩ := h1.len
  obtain ⟨a2, c2, rfl, hlc2, hcm2⟩ := h2.len
  clear h1 h2
  unfold maxLen at hcm hcm2
  have hll : ((l.length : Int) != (l.length : Int)) = false := by simp
  go_enter Try.func35, Try.ntmps35
  go_wp2_with fail
  go_loopw [5] (fun i wr => ∃ k : Nat, k ≤ l.length ∧ i = .int .i64 k ∧ Gjj fIMs (SlF fM) w (.slice a l.length c) (.slice a2 l.length c2) l wr) (fun i _ => l.length - (intOf i).toNat)
  case atStart => exact ⟨0, Nat.zero_le _, rfl, hG⟩
  case round =>
    clear hG
    obtain ⟨k, hk, rfl, hG⟩ := hrel
    by_cases hlt : k < l.length
    · obtain ⟨us, s1, r1⟩ := hG.sl
      obtain ⟨ts, s2, r2⟩ := hG.su
      obtain ⟨b, off, c', e, -, -, -⟩ := s1.shape (by rw [r1.1]; omega)
      simp only [Value.slice.injEq] at e
      obtain ⟨rfl, -, rfl⟩ := e
      obtain ⟨b2, off2, c2', e, -, -, -⟩ := s2.shape (by rw [r2.1]; omega)
      simp only [Value.slice.injEq] at e
      obtain ⟨rfl, -, rfl⟩ := e
      obtain ⟨u1, x, hu1, hx, q1⟩ := r1.get hlt
      obtain ⟨u2, y, hu2, hy, q2⟩ := r2.get hlt
      obtain rfl : y = x := by rw [hx] at hy; exact (Option.some.inj hy).symm
      have hV1 : fIMs.V u1 = u1 := fit_sl _ _ _ q1
      have hV2 : fIMs.V u2 = u2 := fit_sl _ _ _ q2
      have hK : Gkk fIMs (SlF fM) w (.slice (some ⟨b, off, none⟩) l.length c) (.slice (some ⟨b2, off2, none⟩) l.length c2) us ts l wr := ⟨s1, s2, r1, r2, hG.bel⟩
      clear hG s1 s2 r1 r2 q1 q2
      go_wp2_with fail
      refine region_known (by kernel_rfl) (by kernel_rfl) 0 (by decide) (by kernel_rfl) (fun _ W => Gkk fIMs (SlF fM) w (.slice (some ⟨b, off, none⟩) l.length c) (.slice (some ⟨b2, off2, none⟩) l.length c2) us ts l W) [.slice (some ⟨b, off, none⟩) l.length c, .int .i64 (k : Int), .pointer (some ⟨b, off + k * 1, none⟩), u1, .slice (some ⟨b2, off2, none⟩) l.length c2, .int .i64 (k : Int), .pointer (some ⟨b2, off2 + k * 1, none⟩), u2, .bool true, .bool false] (hK.drew stays_sl) ?step ?done
      case step =>
        intro L ix o' A W hj hI hL hd
        have hin : ix < 10 := by
          by_cases hl : ix < 10
          · exact hl
          · simp [hl] at hj
        have hsz : A.tmps.size = 27 := hI.size
        have hg := hI.g
        rcases ix with _ | ix
        · cases hj
          exact at_op rfl rfl (move_op rfl ⟨_, rfl, hI.old 0 (by kernel_rfl), hg⟩)
        rcases ix with _ | ix
        · cases hj
          exact at_op rfl rfl (move_op rfl ⟨_, rfl, hI.old 5 (by kernel_rfl), hg⟩)
        rcases ix with _ | ix
        · cases hj
          have e0 : A.eval (.tmp 17) = .slice (some ⟨b, off, none⟩) l.length c := hI.val hd 0 17 rfl rfl (by kernel_rfl)
          have e1 : A.eval (.tmp 18) = .int .i64 (k : Int) := hI.val hd 1 18 rfl rfl (by kernel_rfl)
          exact at_op rfl rfl (ixF_op okIMs rfl e0 e1 hlt ⟨_, rfl, rfl, hg⟩)
        rcases ix with _ | ix
        · cases hj
          have e0 : A.eval (.tmp 19) = .pointer (some ⟨b, off + k * 1, none⟩) := hI.val hd 2 19 rfl rfl (by kernel_rfl)
          exact at_op rfl rfl (elN_op okIMs rfl e0 (hg.sl.range okIMs hu1) hV1 ⟨_, rfl, rfl, hg⟩)
        rcases ix with _ | ix
        · cases hj
          exact at_op rfl rfl (move_op rfl ⟨_, rfl, hI.old 1 (by kernel_rfl), hg⟩)
        rcases ix with _ | ix
        · cases hj
          exact at_op rfl rfl (move_op rfl ⟨_, rfl, hI.old 5 (by kernel_rfl), hg⟩)
        rcases ix with _ | ix
        · cases hj
          have e0 : A.eval (.tmp 21) = .slice (some ⟨b2, off2, none⟩) l.length c2 := hI.val hd 4 21 rfl rfl (by kernel_rfl)
          have e1 : A.eval (.tmp 22) = .int .i64 (k : Int) := hI.val hd 5 22 rfl rfl (by kernel_rfl)
          exact at_op rfl rfl (ixF_op okIMs rfl e0 e1 hlt ⟨_, rfl, rfl, hg⟩)
        rcases ix with _ | ix
        · cases hj
          have e0 : A.eval (.tmp 23) = .pointer (some ⟨b2, off2 + k * 1, none⟩) := hI.val hd 6 23 rfl rfl (by kernel_rfl)
          exact at_op rfl rfl (elN_op okIMs rfl e0 (hg.su.range okIMs hu2) hV2 ⟨_, rfl, rfl, hg⟩)
        rcases ix with _ | ix
        · cases hj
          have e0 : A.eval (.tmp 20) = u1 := hI.val hd 3 20 rfl rfl (by kernel_rfl)
          have e1 : A.eval (.tmp 24) = u2 := hI.val hd 7 24 rfl rfl (by kernel_rfl)
          refine at_op rfl rfl (call_op rfl Try.func16 (by kernel_rfl) (by kernel_rfl) ?_)
          simp only [List.map_cons, List.map_nil, e0, e1]
          refine (eqMsgS_same _ _ y _ (hg.rl.2 k _ _ hu1 hx) (hg.ru.2 k _ _ hu2 hx)).mono ?_
          rintro e W1 ⟨rfl, hb⟩
          exact ⟨_, rfl, _, rfl, rfl, hg.below stays_sl hb⟩
        rcases ix with _ | ix
        · cases hj
          have e0 : A.eval (.tmp 25) = .bool true := hI.val hd 8 25 rfl rfl (by kernel_rfl)
          refine at_op rfl rfl (val_op (v := .bool false) ?_ ⟨_, rfl, rfl, hg⟩)
          unfold execOp
          simp only [List.getElem_toArray, List.getElem_cons_zero, List.getElem_cons_succ, e0]
          simp [go_sem]
        omega
      case done =>
        intro A W hI
        have hg := hI.g.jj
        have s26 : A.tmps.getD 26 undef = .bool false := hI.last 9 26 rfl
        have hA := hI.frame [17, 18, 19, 20, 21, 22, 23, 24, 25, 26] (by kernel_rfl)
        rw [hA]
        simp only [putAll, List.foldl_cons, List.foldl_nil, s26, Act.put, List.setIfInBounds_toArray, List.set_cons_zero, List.set_cons_succ]
        clear hA hI s26 hK
        go_wp2
        go_roundw
        case rel => exact ⟨k + 1, by omega, by go_num, hg⟩
        case measure => simp [intOf]; omega
    · have hbel := hG.bel
      clear hG
      go_wp2
      go_ret
      exact ⟨rfl, hbel⟩
theorem szEss_any (v : Value) (l : List (List M3)) (left : Int) (w : World) (h : NsF fLEv (SlF fK) w v l) (hl : 0 ≤ left ∧ left ≤ 1048576) :
    Calls Try.prog 23 #[v, .int .i64 left] w fun e w' => e = .returned (.int .i64 (sub left (tot List.length l))) ∧ Below w.heap.size w w' := by
  have HS : Hid (NsF fLEv (SlF fK) w v l) := h
  obtain ⟨a, cap, rfl, hlc, hcm⟩ := h.len
  unfold maxLen at hcm
  by_cases hh : left < (l.length : Int)
  · rw [sub_neg (by unfold tot; omega)]
    clear HS
    go_enter Try.func23, Try.ntmps23
    go_wp2
    go_ret
    exact ⟨rfl, Below.refl _ _⟩
  · go_enter Try.func23, Try.ntmps23
    go_wp2_with fail
    go_loopw [1, 5] (fun z i wr => ∃ k : Nat, k ≤ l.length ∧ i = .int .i64 k ∧ z = .int .i64 (left - l.length - (sm List.length (l.take k) : Nat)) ∧ ((sm List.length (l.take k) : Nat) : Int) ≤ left - l.length ∧ Below w.heap.size w wr) (fun _ i _ => l.length - (intOf i).toNat)
    case atStart => exact ⟨0, Nat.zero_le _, rfl, by simp [sm], by simp [sm]; omega, Below.refl _ _⟩
    case round =>
      obtain ⟨k, hk, rfl, rfl, hs, hbw⟩ := hrel
      have HB : Hid (Below w.heap.size w wr) := hbw
      obtain ⟨us, hsl, hal⟩ := HS.out.below stays_sl hbw
      clear hbw
      by_cases hlt : k < l.length
      · obtain ⟨u, x, hu, hx, hr⟩ := hal.get hlt
        obtain ⟨b, off, c, e, -, -, -⟩ := hsl.shape (by rw [hal.1]; omega)
        simp only [Value.slice.injEq] at e
        obtain ⟨rfl, -, rfl⟩ := e
        have HT : Hid (sm List.length (l.take (k + 1)) = sm List.length (l.take k) + List.length x) := sm_take hx
        have HL : Hid (sm List.length (l.take (k + 1)) ≤ sm List.length l) := sm_le _
        have HV : Hid (∀ (q : Nat), wr.rangeAt b q (fLEv.F u) → fLEv.V u = u) := fun q _ => fit_sl wr u x hr
        have HR : Hid ((SlF fK) wr u x) := hr
        have HG : Hid (wr.rangeAt b (off + k * 1) (fLEv.F u)) := hsl.range okLEv hu
        clear hal hsl hu hx hr
        generalize hq : sm List.length (l.take k) = s at *
        by_cases hz : left - (l.length : Int) - (s : Int) < (List.length x : Nat)
        · have HE : Hid (sub left (tot List.length l) = -1) := sub_neg (by have := HT.out; have := HL.out; unfold tot; omega)
          go_wp2_with (first
            | (refine ixF okLEv (r := k) rfl rfl rfl rfl hlt ?_)
            | (refine elN okLEv rfl rfl rfl HG.out (HV.out _ HG.out) ?_)
            | (go_at_call 53; refine (szEvB u x _ _ HR.out ⟨by omega, by omega⟩).mono ?_; rintro e w2 ⟨rfl, hb2⟩; rw [sub_neg hz]))
          go_ret
          exact ⟨by rw [HE.out]; rfl, below_more HB.out hb2⟩
        · have hz' : ¬ left - (l.length : Int) - (s : Int) < 0 := by omega
          go_wp2_with (first
            | (refine ixF okLEv (r := k) rfl rfl rfl rfl hlt ?_)
            | (refine elN okLEv rfl rfl rfl HG.out (HV.out _ HG.out) ?_)
            | (go_at_call 53; refine (szEvB u x _ _ HR.out ⟨by omega, by omega⟩).mono ?_; rintro e w2 ⟨rfl, hb2⟩; rw [sub_pos hz]))
          go_roundw
          case rel => exact ⟨k + 1, by omega, by go_num, by rw [HT.out]; congr 1; push_cast; omega, by rw [HT.out]; push_cast; omega, below_more HB.out hb2⟩
          case measure => simp [intOf]; omega
      · clear hal hsl
        have e : k = l.length := by omega
        subst e
        have HE : Hid (sub left (tot List.length l) = left - l.length - (sm List.length (l.take l.length) : Nat)) := by rw [sub_pos (by unfold tot; rw [List.take_length] at hs; omega), List.take_length]; unfold tot; push_cast; show _ = _; omega
        go_wp2
        go_ret
        exact ⟨by rw [HE.out]; rfl, HB.out⟩
theorem toEss_any (v : Value) (l : List (List M3)) (w : World) (h : NsF fLEv (SlF fK) w v l) (hb : l.length ≤ 2000000) (hE : ∀ x ∈ l, List.length x ≤ 2000000) :
    Calls Try.prog 27 #[v] w fun e w' => ∃ v', e = .returned v' ∧ NoF fIEv (OwnF fE) w.heap.size w' v' l ∧ Below w.heap.size w w' := by
  have HS : Hid (NsF fLEv (SlF fK) w v l) := h
  obtain ⟨a, cap, rfl, hlc, hcm⟩ := h.len
  unfold maxLen at hcm
  go_enter Try.func27, Try.ntmps27
  go_wp2_with (at_make; refine makeF okIEv rfl (.tmp 6) (.tmp 6) rfl w.heap.size l.length _ rfl rfl rfl (by omega) (Nat.le_refl _) ?_; intro w1 ho hg; have HO : Hid (OwnF fIEv w.heap.size w1 (.slice (some ⟨w.heap.size, 0, none⟩) l.length l.length) (List.replicate l.length (.slice none 0 0)) ∧ Below w.heap.size w w1) := ⟨ho, ⟨hg.os, hg.tape, hg.output, hg.size, fun q hq => hg.block q hq (by simp)⟩⟩)
  go_loopw [4] (fun i wr => ∃ us : List Value, us.length ≤ l.length ∧ i = .int .i64 us.length ∧ OwnF fIEv w.heap.size wr (.slice (some ⟨w.heap.size, 0, none⟩) l.length l.length) (us ++ List.replicate (l.length - us.length) (.slice none 0 0)) ∧ All2 ((OwnF fE) (w.heap.size + 1) wr) us (l.take us.length) ∧ Below w.heap.size w wr) (fun i _ => l.length - (intOf i).toNat)
  case atStart => exact ⟨[], Nat.zero_le _, rfl, by simpa using HO.out.1, by simpa using All2.nil, HO.out.2⟩
  case round =>
    obtain ⟨us, hk, rfl, ho, hal, hbw⟩ := hrel
    have HO2 : Hid (OwnF fIEv w.heap.size wr (.slice (some ⟨w.heap.size, 0, none⟩) l.length l.length) (us ++ List.replicate (l.length - us.length) (.slice none 0 0))) := ho
    have HA : Hid (All2 ((OwnF fE) (w.heap.size + 1) wr) us (l.take us.length)) := hal
    have HB : Hid (Below w.heap.size w wr) := hbw
    obtain ⟨rs, hsl, hrl⟩ := HS.out.below stays_sl hbw
    by_cases hlt : us.length < l.length
    · have hgz : w.heap.size < wr.heap.size := (ho.lt w.heap.size rfl).2
      clear ho hal hbw
      obtain ⟨u, x, hu, hx, hr⟩ := hrl.get hlt
      obtain ⟨b, off, c, e, -, -, -⟩ := hsl.shape (by rw [hrl.1]; omega)
      simp only [Value.slice.injEq] at e
      obtain ⟨rfl, -, rfl⟩ := e
      have hV : fLEv.V u = u := fit_sl wr u x hr
      have hG : wr.rangeAt b (off + us.length * 1) (fLEv.F u) := hsl.range okLEv hu
      have hxl : List.length x ≤ 2000000 := hE x (List.mem_of_getElem? hx)
      go_wp2_with (first
        | (refine ixF okLEv (r := us.length) rfl rfl rfl rfl hlt ?_)
        | (refine elN okLEv rfl rfl rfl hG hV ?_)
        | (go_at_call 57; refine (toEvB u x _ hr hxl).mono ?_; rintro e w2 ⟨v2, rfl, hn2, hb2⟩; have ho2 := HO2.out.below hb2; have hB2 := HB.out.trans (hb2.mono HB.out.size); have hn2' := (owns_sl okE).mono _ (w.heap.size + 1) _ _ _ hn2 hgz; have hW : fIEv.V v2 = v2 := fit_sl w2 v2 x ((owns_sl okE).sl _ _ _ _ hn2))
        | (refine ixF okIEv (r := us.length) rfl rfl rfl rfl hlt ?_)
        | (refine stN okIEv (i := us.length) (e := (.slice none 0 0)) rfl rfl rfl rfl hW ho2 (by rw [List.getElem?_append_right (Nat.le_refl _), Nat.sub_self, List.getElem?_replicate, if_pos (by omega)]) (Nat.zero_add _) ?_; rintro w3 ho3 hg3; have hB3 := hB2.grown hg3 hB2.size (by intro q hq; cases hq; exact Nat.le_refl _)))
      go_roundw
      case rel =>
        have hlen : (us ++ [v2]).length = us.length + 1 := by simp
        have hwB : ∀ q, w.heap.size + 1 ≤ q → q < w2.heap.size → w3.heap[q]? = w2.heap[q]? := fun q h1 h2 => hg3.block q h2 (by simp; omega)
        refine ⟨us ++ [v2], by omega, by rw [hlen]; go_num, by rw [← set_raw us (.slice none 0 0) v2 l.length hlt]; exact ho3, ?_, hB3⟩
        rw [hlen, List.take_succ_eq_append_getElem hlt]
        have hxe : l[us.length] = x := by simpa [List.getElem?_eq_getElem hlt] using hx
        rw [hxe]
        refine ((HA.out.imp fun y z _ _ hy => (owns_sl okE).kept _ _ _ _ _ hy fun k hk => ?_).snoc (R := (OwnF fE) (w.heap.size + 1) w3) ((owns_sl okE).kept _ _ _ _ _ hn2' fun k hk => ?_))
        · have h1 := (owns_sl okE).lt _ _ _ _ _ hy hk
          rw [hwB k h1.1 (Nat.lt_of_lt_of_le h1.2 hb2.size), hb2.block k h1.2]
        · have h1 := (owns_sl okE).lt _ _ _ _ _ hn2' hk
          exact hwB k h1.1 h1.2
      case measure => simp [intOf]; omega
    · clear ho hal hbw hsl hrl
      go_wp2
      go_ret
      have e : us.length = l.length := by omega
      refine ⟨_, rfl, ⟨us, by have := HO2.out; rwa [e, Nat.sub_self, List.replicate_zero, List.append_nil] at this, ?_, fun u hu k hk => ?_⟩, HB.out⟩
      · have := HA.out
        rw [e, List.take_length] at this
        exact this.imp fun y z _ _ hy => (owns_sl okE).mono _ _ _ _ _ hy (Nat.le_succ _)
      · obtain ⟨i, hi⟩ := List.getElem?_of_mem hu
        have hil : i < l.length := by have := (List.getElem?_eq_some_iff.1 hi).1; omega
        have h2 := HA.out.2 i u l[i] hi (by rw [List.getElem?_take_of_lt (by omega)]; exact List.getElem?_eq_getElem hil)
        have h1 := ((owns_sl okE).lt _ _ _ _ _ h2 hk).1
        simp [Value.ownBlock]
        omega
theorem eqEss_same (v u : Value) (l : List (List M3)) (w : World) (h1 : NsF fIEv (SlF fE) w v l) (h2 : NsF fIEv (SlF fE) w u l) :
    Calls Try.prog 36 #[v, u] w fun e w' => e = .returned (.bool true) ∧ Below w.heap.size w w' := by
  have hG : Gjj fIEv (SlF fE) w v u l w := ⟨h1, h2, Below.refl _ _⟩
  obtain ⟨a, c, rfl, hlc, hcm⟩ := h1.len
  obtain ⟨a2, c2, rfl, hlc2, hcm2⟩ := h2.len
  clear h1 h2
  unfold maxLen at hcm hcm2
  have hll : ((l.length : Int) != (l.length : Int)) = false := by simp
  go_enter Try.func36, Try.ntmps36
  go_wp2_with fail
  go_loopw [5] (fun i wr => ∃ k : Nat, k ≤ l.length ∧ i = .int .i64 k ∧ Gjj fIEv (SlF fE) w (.slice a l.length c) (.slice a2 l.length c2) l wr) (fun i _ => l.length - (intOf i).toNat)
  case atStart => exact ⟨0, Nat.zero_le _, rfl, hG⟩
  case round =>
    clear hG
    obtain ⟨k, hk, rfl, hG⟩ := hrel
    by_cases hlt : k < l.length
    · obtain ⟨us, s1, r1⟩ := hG.sl
      obtain ⟨ts, s2, r2⟩ := hG.su
      obtain ⟨b, off, c', e, -, -, -⟩ := s1.shape (by rw [r1.1]; omega)
      simp only [Value.slice.injEq] at e
      obtain ⟨rfl, -, rfl⟩ := e
      obtain ⟨b2, off2, c2', e, -, -, -⟩ := s2.shape (by rw [r2.1]; omega)
      simp only [Value.slice.injEq] at e
      obtain ⟨rfl, -, rfl⟩ := e
      obtain ⟨u1, x, hu1, hx, q1⟩ := r1.get hlt
      obtain ⟨u2, y, hu2, hy, q2⟩ := r2.get hlt
      obtain rfl : y = x := by rw [hx] at hy; exact (Option.some.inj hy).symm
      have hV1 : fIEv.V u1 = u1 := fit_sl _ _ _ q1
      have hV2 : fIEv.V u2 = u2 := fit_sl _ _ _ q2
      have hK : Gkk fIEv (SlF fE) w (.slice (some ⟨b, off, none⟩) l.length c) (.slice (some ⟨b2, off2, none⟩) l.length c2) us ts l wr := ⟨s1, s2, r1, r2, hG.bel⟩
      clear hG s1 s2 r1 r2 q1 q2
      go_wp2_with fail
      refine region_known (by kernel_rfl) (by kernel_rfl) 0 (by decide) (by kernel_rfl) (fun _ W => Gkk fIEv (SlF fE) w (.slice (some ⟨b, off, none⟩) l.length c) (.slice (some ⟨b2, off2, none⟩) l.length c2) us ts l W) [.slice (some ⟨b, off, none⟩) l.length c, .int .i64 (k : Int), .pointer (some ⟨b, off + k * 1, none⟩), u1, .slice (some ⟨b2, off2, none⟩) l.length c2, .int .i64 (k : Int), .pointer (some ⟨b2, off2 + k * 1, none⟩), u2, .bool true, .bool false] (hK.drew stays_sl) ?step ?done
      case step =>
        intro L ix o' A W hj hI hL hd
        have hin : ix < 10 := by
          by_cases hl : ix < 10
          · exact hl
          · simp [hl] at hj
        have hsz : A.tmps.size = 27 := hI.size
        have hg := hI.g
        rcases ix with _ | ix
        · cases hj
          exact at_op rfl rfl (move_op rfl ⟨_, rfl, hI.old 0 (by kernel_rfl), hg⟩)
        rcases ix with _ | ix
        · cases hj
          exact at_op rfl rfl (move_op rfl ⟨_, rfl, hI.old 5 (by kernel_rfl), hg⟩)
        rcases ix with _ | ix
        · cases hj
          have e0 : A.eval (.tmp 17) = .slice (some ⟨b, off, none⟩) l.length c := hI.val hd 0 17 rfl rfl (by kernel_rfl)
          have e1 : A.eval (.tmp 18) = .int .i64 (k : Int) := hI.val hd 1 18 rfl rfl (by kernel_rfl)
          exact at_op rfl rfl (ixF_op okIEv rfl e0 e1 hlt ⟨_, rfl, rfl, hg⟩)
        rcases ix with _ | ix
        · cases hj
          have e0 : A.eval (.tmp 19) = .pointer (some ⟨b, off + k * 1, none⟩) := hI.val hd 2 19 rfl rfl (by kernel_rfl)
          exact at_op rfl rfl (elN_op okIEv rfl e0 (hg.sl.range okIEv hu1) hV1 ⟨_, rfl, rfl, hg⟩)
        rcases ix with _ | ix
        · cases hj
          exact at_op rfl rfl (move_op rfl ⟨_, rfl, hI.old 1 (by kernel_rfl), hg⟩)
        rcases ix with _ | ix
        · cases hj
          exact at_op rfl rfl (move_op rfl ⟨_, rfl, hI.old 5 (by kernel_rfl), hg⟩)
        rcases ix with _ | ix
        · cases hj
          have e0 : A.eval (.tmp 21) = .slice (some ⟨b2, off2, none⟩) l.length c2 := hI.val hd 4 21 rfl rfl (by kernel_rfl)
          have e1 : A.eval (.tmp 22) = .int .i64 (k : Int) := hI.val hd 5 22 rfl rfl (by kernel_rfl)
          exact at_op rfl rfl (ixF_op okIEv rfl e0 e1 hlt ⟨_, rfl, rfl, hg⟩)
        rcases ix with _ | ix
        · cases hj
          have e0 : A.eval (.tmp 23) = .pointer (some ⟨b2, off2 + k * 1, none⟩) := hI.val hd 6 23 rfl rfl (by kernel_rfl)
          exact at_op rfl rfl (elN_op okIEv rfl e0 (hg.su.range okIEv hu2) hV2 ⟨_, rfl, rfl, hg⟩)
        rcases ix with _ | ix
        · cases hj
          have e0 : A.eval (.tmp 20) = u1 := hI.val hd 3 20 rfl rfl (by kernel_rfl)
          have e1 : A.eval (.tmp 24) = u2 := hI.val hd 7 24 rfl rfl (by kernel_rfl)
          refine at_op rfl rfl (call_op rfl Try.func69 (by kernel_rfl) (by kernel_rfl) ?_)
          simp only [List.map_cons, List.map_nil, e0, e1]
          refine (eqEvS_same _ _ y _ (hg.rl.2 k _ _ hu1 hx) (hg.ru.2 k _ _ hu2 hx)).mono ?_
          rintro e W1 ⟨rfl, hb⟩
          exact ⟨_, rfl, _, rfl, rfl, hg.below stays_sl hb⟩
        rcases ix with _ | ix
        · cases hj
          have e0 : A.eval (.tmp 25) = .bool true := hI.val hd 8 25 rfl rfl (by kernel_rfl)
          refine at_op rfl rfl (val_op (v := .bool false) ?_ ⟨_, rfl, rfl, hg⟩)
          unfold execOp
          simp only [List.getElem_toArray, List.getElem_cons_zero, List.getElem_cons_succ, e0]
          simp [go_sem]
        omega
      case done =>
        intro A W hI
        have hg := hI.g.jj
        have s26 : A.tmps.getD 26 undef = .bool false := hI.last 9 26 rfl
        have hA := hI.frame [17, 18, 19, 20, 21, 22, 23, 24, 25, 26] (by kernel_rfl)
        rw [hA]
        simp only [putAll, List.foldl_cons, List.foldl_nil, s26, Act.put, List.setIfInBounds_toArray, List.set_cons_zero, List.set_cons_succ]
        clear hA hI s26 hK
        go_wp2
        go_roundw
        case rel => exact ⟨k + 1, by omega, by go_num, hg⟩
        case measure => simp [intOf]; omega
    · have hbel := hG.bel
      clear hG
      go_wp2
      go_ret
      exact ⟨rfl, hbel⟩
/-- A pair, as the document tells it. -/
structure Pr where
  ms : List Mc
  is : List (List M3)
  ts : List (List M3)
def Pr.size (p : Pr) : Nat := tot Mc.len p.ms + tot List.length p.is + tot List.length p.ts
/-- A pair of the laws' own, of the program's, one of a call's own. -/
def LPair (w : World) (v : Value) (p : Pr) : Prop := ∃ x y z, v = .agg #[x, y, z] ∧ NsF fLMc MSl w x p.ms ∧ NsF fLMs (SlF fL) w y p.is ∧ NsF fLEv (SlF fK) w z p.ts
def PSl (w : World) (v : Value) (p : Pr) : Prop := ∃ x y z, v = .agg #[x, y, z] ∧ NsF fIMc MSl w x p.ms ∧ NsF fIMs (SlF fM) w y p.is ∧ NsF fIEv (SlF fE) w z p.ts
def POwn (base : Nat) (w : World) (v : Value) (p : Pr) : Prop := ∃ x y z, v = .agg #[x, y, z] ∧ NoF fIMc MOwn base w x p.ms ∧ NoF fIMs (OwnF fM) base w y p.is ∧ NoF fIEv (OwnF fE) base w z p.ts
theorem LPair.below {w w' : World} {v : Value} {p : Pr} (h : LPair w v p) (hb : Below w.heap.size w w') : LPair w' v p := by
  obtain ⟨x, y, z, rfl, h1, h2, h3⟩ := h
  exact ⟨x, y, z, rfl, h1.below stays_mc hb, h2.below stays_sl hb, h3.below stays_sl hb⟩
theorem PSl.below {w w' : World} {v : Value} {p : Pr} (h : PSl w v p) (hb : Below w.heap.size w w') : PSl w' v p := by
  obtain ⟨x, y, z, rfl, h1, h2, h3⟩ := h
  exact ⟨x, y, z, rfl, h1.below stays_mc hb, h2.below stays_sl hb, h3.below stays_sl hb⟩
theorem POwn.below {base : Nat} {w w' : World} {v : Value} {p : Pr} (h : POwn base w v p) (hb : Below w.heap.size w w') : POwn base w' v p := by
  obtain ⟨x, y, z, rfl, h1, h2, h3⟩ := h
  exact ⟨x, y, z, rfl, h1.below owns_mc hb, h2.below (owns_sl okM) hb, h3.below (owns_sl okE) hb⟩
theorem POwn.mono {base base' : Nat} {w : World} {v : Value} {p : Pr} (h : POwn base w v p) (hb : base' ≤ base) : POwn base' w v p := by
  obtain ⟨x, y, z, rfl, h1, h2, h3⟩ := h
  exact ⟨x, y, z, rfl, h1.mono owns_mc hb, h2.mono (owns_sl okM) hb, h3.mono (owns_sl okE) hb⟩
theorem POwn.sl {base : Nat} {w : World} {v : Value} {p : Pr} (h : POwn base w v p) : PSl w v p := by
  obtain ⟨x, y, z, rfl, h1, h2, h3⟩ := h
  exact ⟨x, y, z, rfl, h1.ns okIMc owns_mc, h2.ns okIMs (owns_sl okM), h3.ns okIEv (owns_sl okE)⟩
theorem NsF.one {α : Type} {f : Fl Value} {R : World → Value → α → Prop} {w : World} {v : Value} {l : List α} (h : NsF f R w v l) : v.oneCell' = true := by
  obtain ⟨us, h1, _⟩ := h
  exact h1.one
theorem NoF.on {α : Type} {f : Fl Value} {O : Nat → World → Value → α → Prop} {R : World → Value → α → Prop} {base p : Nat} {w w' : World} {v : Value} {l : List α} (h : NoF f O base w v l) (ho : Owns O R) (hp : Onto p w w') (hlt : p < base) : NoF f O base w' v l := by
  obtain ⟨us, h1, h2, h3⟩ := h
  exact ⟨us, h1.onto hp (fun e => by have := (h1.lt _ e).1; omega), h2.imp fun u x _ _ h => ho.kept _ _ _ _ _ h fun k hk => hp.block k (by have := (ho.lt _ _ _ _ _ h hk).1; omega) (ho.lt _ _ _ _ _ h hk).2, h3⟩
section
variable {ops : Array Oper} {rest : List Oper} {o : Oper} {a : Act} {w : World} {Q : Exit → Act → World → Prop} {p q : Operand} {g k : Nat} {v x y z : Value} {T : TypeId}
theorem box3 (hgd : o.guard = none) (ho : o.op = .box T p) (hx : a.eval p = .agg #[x, y, z]) (h1 : x.oneCell' = true) (h2 : y.oneCell' = true) (h3 : z.oneCell' = true) (hi : (Try.prog.info? T).map (·.size) = some 3)
    (h : ∀ w', Row w' w.heap.size #[x, y, z] T → Below w.heap.size w w' → wpList Try.prog ops Q rest (a.put o.dst (.pointer (some ⟨w.heap.size, 0, none⟩))) w') : wpList Try.prog ops Q (o :: rest) a w :=
  wpList_plain hgd fun _ hK => by
    have e : (Instr.box T (.agg #[x, y, z])).run Try.prog w = .ok (.pointer (some ⟨w.heap.size, 0, none⟩)) (w.alloc (.cells #[x, y, z] T)) := rfl
    unfold Oper.wp execOp
    simp only [ho, hx, Sem.run_bind, Result.andThen_ok, e]
    exact hK _ _ (h _ (Row.new _ _ _) ((Below.refl _ _).alloc (Nat.le_refl _) _))
end
theorem sz_lp : (Try.prog.info? 26).map (·.size) = some 3 := by kernel_rfl
theorem sz_ip : (Try.prog.info? 33).map (·.size) = some 3 := by kernel_rfl
theorem szPair_any (v : Value) (p : Pr) (left : Int) (w : World) (h : LPair w v p) (hl : 0 ≤ left ∧ left ≤ 1048576) :
    Calls Try.prog 5 #[v, .int .i64 left] w fun e w' => e = .returned (.int .i64 (sub left p.size)) ∧ Below w.heap.size w w' := by
  obtain ⟨x, y, z, hv, h1, h2, h3⟩ := h
  have o1 := h1.one
  have o2 := h2.one
  have o3 := h3.one
  obtain ⟨r, HR⟩ : ∃ r, Hid (sub left p.size = r) := ⟨_, show _ = _ from rfl⟩
  rw [HR.out]
  obtain ⟨n1, HN1⟩ : ∃ n, Hid (tot Mc.len p.ms = n) := ⟨_, show _ = _ from rfl⟩
  obtain ⟨n2, HN2⟩ : ∃ n, Hid (tot List.length p.is = n) := ⟨_, show _ = _ from rfl⟩
  obtain ⟨n3, HN3⟩ : ∃ n, Hid (tot List.length p.ts = n) := ⟨_, show _ = _ from rfl⟩
  have HS : Hid (p.size = n1 + n2 + n3) := show _ = _ by unfold Pr.size; rw [HN1.out, HN2.out, HN3.out]
  by_cases c1 : left < (n1 : Int)
  · have HE : Hid (r = -1) := show _ = _ by rw [← HR.out, HS.out]; exact sub_neg (by push_cast; omega)
    go_enter Try.func5, Try.ntmps5
    go_wp2_with (first
      | (refine box3 rfl rfl hv o1 o2 o3 sz_lp ?_; intro w0 r0 hB0; have k0 := r0.cell 0; have k1 := r0.cell 1; have k2 := r0.cell 2)
      | (go_at_call 21; refine (szMcs_any _ _ _ _ (h1.below stays_mc hB0) hl).mono ?_; rintro e w1 ⟨rfl, hb1⟩; rw [HN1.out, sub_neg (by omega)]))
    go_ret
    exact ⟨by rw [HE.out]; rfl, below_more hB0 hb1⟩
  by_cases c2 : left - (n1 : Int) < (n2 : Int)
  · have HE : Hid (r = -1) := show _ = _ by rw [← HR.out, HS.out]; exact sub_neg (by push_cast; omega)
    go_enter Try.func5, Try.ntmps5
    go_wp2_with (first
      | (refine box3 rfl rfl hv o1 o2 o3 sz_lp ?_; intro w0 r0 hB0; have k0 := r0.cell 0; have k1 := r0.cell 1; have k2 := r0.cell 2)
      | (go_at_call 21; refine (szMcs_any _ _ _ _ (h1.below stays_mc hB0) hl).mono ?_; rintro e w1 ⟨rfl, hb1⟩; rw [HN1.out, sub_pos (by omega)]; have r1 := r0.below hb1; have k1' := r1.cell 1; have k2' := r1.cell 2; have hB1 := below_more hB0 hb1)
      | (go_at_call 22; refine (szMss_any _ _ _ _ (h2.below stays_sl hB1) (by omega)).mono ?_; rintro e w2 ⟨rfl, hb2⟩; rw [HN2.out, sub_neg (by omega)]))
    go_ret
    exact ⟨by rw [HE.out]; rfl, below_more hB1 hb2⟩
  by_cases c3 : left - (n1 : Int) - (n2 : Int) < (n3 : Int)
  · have HE : Hid (r = -1) := show _ = _ by rw [← HR.out, HS.out]; exact sub_neg (by push_cast; omega)
    go_enter Try.func5, Try.ntmps5
    go_wp2_with (first
      | (refine box3 rfl rfl hv o1 o2 o3 sz_lp ?_; intro w0 r0 hB0; have k0 := r0.cell 0; have k1 := r0.cell 1; have k2 := r0.cell 2)
      | (go_at_call 21; refine (szMcs_any _ _ _ _ (h1.below stays_mc hB0) hl).mono ?_; rintro e w1 ⟨rfl, hb1⟩; rw [HN1.out, sub_pos (by omega)]; have r1 := r0.below hb1; have k1' := r1.cell 1; have k2' := r1.cell 2; have hB1 := below_more hB0 hb1)
      | (go_at_call 22; refine (szMss_any _ _ _ _ (h2.below stays_sl hB1) (by omega)).mono ?_; rintro e w2 ⟨rfl, hb2⟩; rw [HN2.out, sub_pos (by omega)]; have r2 := r1.below hb2; have k2'' := r2.cell 2; have hB2 := below_more hB1 hb2)
      | (go_at_call 23; refine (szEss_any _ _ _ _ (h3.below stays_sl hB2) (by omega)).mono ?_; rintro e w3 ⟨rfl, hb3⟩; rw [HN3.out, sub_neg (by omega)]))
    go_ret
    exact ⟨by rw [HE.out]; rfl, below_more hB2 hb3⟩
  · have HE : Hid (r = left - n1 - n2 - n3) := show _ = _ by rw [← HR.out, HS.out, sub_pos (by push_cast; omega)]; push_cast; omega
    go_enter Try.func5, Try.ntmps5
    go_wp2_with (first
      | (refine box3 rfl rfl hv o1 o2 o3 sz_lp ?_; intro w0 r0 hB0; have k0 := r0.cell 0; have k1 := r0.cell 1; have k2 := r0.cell 2)
      | (go_at_call 21; refine (szMcs_any _ _ _ _ (h1.below stays_mc hB0) hl).mono ?_; rintro e w1 ⟨rfl, hb1⟩; rw [HN1.out, sub_pos (by omega)]; have r1 := r0.below hb1; have k1' := r1.cell 1; have k2' := r1.cell 2; have hB1 := below_more hB0 hb1)
      | (go_at_call 22; refine (szMss_any _ _ _ _ (h2.below stays_sl hB1) (by omega)).mono ?_; rintro e w2 ⟨rfl, hb2⟩; rw [HN2.out, sub_pos (by omega)]; have r2 := r1.below hb2; have k2'' := r2.cell 2; have hB2 := below_more hB1 hb2)
      | (go_at_call 23; refine (szEss_any _ _ _ _ (h3.below stays_sl hB2) (by omega)).mono ?_; rintro e w3 ⟨rfl, hb3⟩; rw [HN3.out, sub_pos (by omega)]))
    go_ret
    exact ⟨by rw [HE.out]; rfl, below_more hB2 hb3⟩
theorem eqPair_same (v u : Value) (p : Pr) (w : World) (h1 : PSl w v p) (h2 : PSl w u p) :
    Calls Try.prog 9 #[v, u] w fun e w' => e = .returned (.bool true) ∧ Below w.heap.size w w' := by
  obtain ⟨x1, y1, z1, hv, a1, a2, a3⟩ := h1
  obtain ⟨x2, y2, z2, hu, b1, b2, b3⟩ := h2
  have p1 := a1.one
  have p2 := a2.one
  have p3 := a3.one
  have q1 := b1.one
  have q2 := b2.one
  have q3 := b3.one
  go_enter Try.func9, Try.ntmps9
  go_wp2_with (first
    | (refine box3 rfl rfl hv p1 p2 p3 sz_ip ?_; intro w0 r0 hB0)
    | (refine box3 rfl rfl hu q1 q2 q3 sz_ip ?_; intro w1 s1 hb1; have r1 := r0.below hb1; have hB1 := below_more hB0 hb1; have k0 := r1.cell 0; have k1 := r1.cell 1; have k2 := r1.cell 2; have t0 := s1.cell 0; have t1 := s1.cell 1; have t2 := s1.cell 2)
    | (go_at_call 34; refine (eqMcs_same _ _ _ _ (a1.below stays_mc hB1) (b1.below stays_mc hB1)).mono ?_; rintro e w2 ⟨rfl, hb2⟩; have r2 := r1.below hb2; have s2 := s1.below hb2; have k1' := r2.cell 1; have k2' := r2.cell 2; have t1' := s2.cell 1; have t2' := s2.cell 2; have hB2 := below_more hB1 hb2)
    | (go_at_call 35; refine (eqMss_same _ _ _ _ (a2.below stays_sl hB2) (b2.below stays_sl hB2)).mono ?_; rintro e w3 ⟨rfl, hb3⟩; have r3 := r2.below hb3; have s3 := s2.below hb3; have k2'' := r3.cell 2; have t2'' := s3.cell 2; have hB3 := below_more hB2 hb3)
    | (go_at_call 36; refine (eqEss_same _ _ _ _ (a3.below stays_sl hB3) (b3.below stays_sl hB3)).mono ?_; rintro e w4 ⟨rfl, hb4⟩))
  go_ret
  exact ⟨rfl, below_more hB3 hb4⟩
section
variable {ops : Array Oper} {rest : List Oper} {o : Oper} {a : Act} {w : World} {Q : Exit → Act → World → Prop} {p q : Operand} {g k : Nat} {v x y z x0 y0 z0 : Value} {T : TypeId}
theorem al_pr (hgd : o.guard = none) (ho : o.op = .alloc 33)
    (h : ∀ w', Row w' w.heap.size #[.slice none 0 0, .slice none 0 0, .slice none 0 0] 33 → Below w.heap.size w w' → wpList Try.prog ops Q rest (a.put o.dst (.pointer (some ⟨w.heap.size, 0, none⟩))) w') : wpList Try.prog ops Q (o :: rest) a w :=
  wpList_plain hgd fun _ hK => by
    have e : (execOp a.eval o).run Try.prog w = .ok (.value (.pointer (some ⟨w.heap.size, 0, none⟩))) (w.alloc (.cells #[.slice none 0 0, .slice none 0 0, .slice none 0 0] 33)) := by
      unfold execOp
      rw [ho]
      kernel_rfl
    unfold Oper.wp
    rw [e]
    exact hK _ _ (h _ (Row.new _ _ _) ((Below.refl _ _).alloc (Nat.le_refl _) _))
theorem ld_pr (hgd : o.guard = none) (ho : o.op = .load 33 p) (hx : a.eval p = .pointer (some ⟨g, 0, none⟩)) (hr : Row w g #[x, y, z] T) (h : wpList Try.prog ops Q rest (a.put o.dst (.agg #[x, y, z])) w) : wpList Try.prog ops Q (o :: rest) a w :=
  ld_row hgd _ p ho hx hr Try.underlying33 rfl sz_ip h
theorem st_pr (hgd : o.guard = none) (ho : o.op = .store 33 p q) (hx : a.eval p = .pointer (some ⟨g, 0, none⟩)) (hy : a.eval q = .agg #[x, y, z]) (hr : Row w g #[x0, y0, z0] T) (h1 : x.oneCell' = true) (h2 : y.oneCell' = true) (h3 : z.oneCell' = true)
    (h : ∀ w', Row w' g #[x, y, z] T → Onto g w w' → w'.heap.size = w.heap.size → wpList Try.prog ops Q rest (a.put o.dst undef) w') : wpList Try.prog ops Q (o :: rest) a w :=
  st_row hgd _ p q ho hx hy hr sz_ip rfl (by unfold Value.oneCell' at h1 h2 h3; simp only [List.all_toArray, List.all_cons, List.all_nil, Value.oneCell', h1, h2, h3, Bool.and_true]) h
theorem sz_ms : (Try.prog.info? 29).map (·.size) = some 1 := by kernel_rfl
theorem sz_mss : (Try.prog.info? 30).map (·.size) = some 1 := by kernel_rfl
theorem sz_ess : (Try.prog.info? 31).map (·.size) = some 1 := by kernel_rfl
theorem st_p0 (hgd : o.guard = none) (ho : o.op = .store 29 p q) (hx : a.eval p = .pointer (some ⟨g, 0, none⟩)) (hy : a.eval q = v) (hr : Row w g #[x, y, z] T) (h1 : v.oneCell' = true)
    (h : ∀ w', Row w' g #[v, y, z] T → Onto g w w' → w'.heap.size = w.heap.size → wpList Try.prog ops Q rest (a.put o.dst undef) w') : wpList Try.prog ops Q (o :: rest) a w :=
  st_in (vs := [v]) (cs' := #[v, y, z]) hgd ho hx hy hr (cells_one h1) sz_ms rfl (by simp [h1]) rfl h
theorem st_p1 (hgd : o.guard = none) (ho : o.op = .store 30 p q) (hx : a.eval p = .pointer (some ⟨g, 1, none⟩)) (hy : a.eval q = v) (hr : Row w g #[x, y, z] T) (h1 : v.oneCell' = true)
    (h : ∀ w', Row w' g #[x, v, z] T → Onto g w w' → w'.heap.size = w.heap.size → wpList Try.prog ops Q rest (a.put o.dst undef) w') : wpList Try.prog ops Q (o :: rest) a w :=
  st_in (vs := [v]) (cs' := #[x, v, z]) hgd ho hx hy hr (cells_one h1) sz_mss rfl (by simp [h1]) rfl h
theorem st_p2 (hgd : o.guard = none) (ho : o.op = .store 31 p q) (hx : a.eval p = .pointer (some ⟨g, 2, none⟩)) (hy : a.eval q = v) (hr : Row w g #[x, y, z] T) (h1 : v.oneCell' = true)
    (h : ∀ w', Row w' g #[x, y, v] T → Onto g w w' → w'.heap.size = w.heap.size → wpList Try.prog ops Q rest (a.put o.dst undef) w') : wpList Try.prog ops Q (o :: rest) a w :=
  st_in (vs := [v]) (cs' := #[x, y, v]) hgd ho hx hy hr (cells_one h1) sz_ess rfl (by simp [h1]) rfl h
end
theorem NoF.one {α : Type} {f : Fl Value} {O : Nat → World → Value → α → Prop} {base : Nat} {w : World} {v : Value} {l : List α} (h : NoF f O base w v l) (hf : f.Ok) : v.oneCell' = true := by
  obtain ⟨us, h1, _⟩ := h
  exact h1.one hf
theorem toPair_any (v : Value) (p : Pr) (w : World) (h : LPair w v p) (hb : p.size ≤ 2000000) :
    Calls Try.prog 7 #[v] w fun e w' => ∃ v', e = .returned v' ∧ POwn w.heap.size w' v' p ∧ Below w.heap.size w w' := by
  obtain ⟨x, y, z, hv, h1, h2, h3⟩ := h
  have o1 := h1.one
  have o2 := h2.one
  have o3 := h3.one
  unfold Pr.size tot at hb
  have HA : Hid (∀ m ∈ p.ms, m.len ≤ 2000000) := show ∀ _, _ from fun m hm => by have := size_le (size := Mc.len) hm; omega
  have HB : Hid (∀ m ∈ p.is, m.length ≤ 2000000) := show ∀ _, _ from fun m hm => by have := size_le (size := List.length) hm; omega
  have HC : Hid (∀ m ∈ p.ts, m.length ≤ 2000000) := show ∀ _, _ from fun m hm => by have := size_le (size := List.length) hm; omega
  have l1 : p.ms.length ≤ 2000000 := by omega
  have l2 : p.is.length ≤ 2000000 := by omega
  have l3 : p.ts.length ≤ 2000000 := by omega
  clear hb
  go_enter Try.func7, Try.ntmps7
  go_wp2_with (first
    | (refine box3 rfl rfl hv o1 o2 o3 sz_lp ?_; intro w0 r0 hB0; have l0 := r0.lt)
    | (have hh := hB1; refine al_pr rfl rfl ?_; intro w2 y2 hB2; have ly2 := y2.lt; have z2 := z1.below hB2; have r2 := (r0.below hB1).below hB2; have B2 := below_more (below_more hB0 hB1) hB2; have k0 := r2.cell 0)
    | (refine al_pr rfl rfl ?_; intro w1 z1 hB1; have lz1 := z1.lt))
  go_at_call 25
  refine (toMcs_any _ _ _ (h1.below stays_mc B2) l1 HA.out).mono ?_
  rintro e w3 ⟨v3, rfl, n3, hb3⟩
  have B3 := below_more B2 hb3
  have r3 := r2.below hb3
  have z3 := z2.below hb3
  have y3 := y2.below hb3
  have s0 := hB0.size
  have s1 := hB1.size
  have s2 := hB2.size
  have s3 := hb3.size
  clear r2 z2 y2 k0 r0 z1
  go_wp2_with (first
    | (refine st_p0 rfl rfl rfl rfl y3 (n3.one okIMc) ?_; intro w4 y4 o4 s4; have r4 := r3.onto o4 (by omega); have z4 := z3.onto o4 (by omega); have n4 := n3.on owns_mc o4 (by omega); have B4 := below_onto B3 o4 (by omega); have k1 := r4.cell 1))
  go_at_call 26
  refine (toMss_any _ _ _ (h2.below stays_sl B4) l2 HB.out).mono ?_
  rintro e w5 ⟨v5, rfl, n5, hb5⟩
  have B5 := below_more B4 hb5
  have r5 := r4.below hb5
  have z5 := z4.below hb5
  have y5 := y4.below hb5
  have m5 := n4.below owns_mc hb5
  have s5 := hb5.size
  clear r3 z3 y3 r4 z4 y4 k1 n3
  go_wp2_with (first
    | (refine st_p1 rfl rfl rfl rfl y5 (n5.one okIMs) ?_; intro w6 y6 o6 s6; have r6 := r5.onto o6 (by omega); have z6 := z5.onto o6 (by omega); have m6 := m5.on owns_mc o6 (by omega); have n6 := n5.on (owns_sl okM) o6 (by omega); have B6 := below_onto B5 o6 (by omega); have k2 := r6.cell 2))
  go_at_call 27
  refine (toEss_any _ _ _ (h3.below stays_sl B6) l3 HC.out).mono ?_
  rintro e w7 ⟨v7, rfl, n7, hb7⟩
  have B7 := below_more B6 hb7
  have z7 := z6.below hb7
  have y7 := y6.below hb7
  have m7 := m6.below owns_mc hb7
  have i7 := n6.below (owns_sl okM) hb7
  have s7 := hb7.size
  clear r5 z5 y5 r6 z6 y6 k2 n4 n5 n6 m5 m6
  go_wp2_with (first
    | (refine st_p2 rfl rfl rfl rfl y7 (n7.one okIEv) ?_; intro w8 y8 o8 s8; have z8 := z7.onto o8 (by omega); have m8 := m7.on owns_mc o8 (by omega); have i8 := i7.on (owns_sl okM) o8 (by omega); have t8 := n7.on (owns_sl okE) o8 (by omega); have B8 := below_onto B7 o8 (by omega))
    | (refine ld_pr rfl rfl rfl y8 ?_)
    | (refine st_pr rfl rfl rfl rfl z8 (m8.one okIMc) (i8.one okIMs) (t8.one okIEv) ?_; intro w9 z9 o9 s9; have m9 := m8.on owns_mc o9 (by omega); have i9 := i8.on (owns_sl okM) o9 (by omega); have t9 := t8.on (owns_sl okE) o9 (by omega); have B9 := below_onto B8 o9 (by omega)))
  refine ret_row rfl rfl z9 Try.underlying33 rfl sz_ip rfl ?_
  exact ⟨_, rfl, ⟨_, _, _, rfl, m9.mono owns_mc (by omega), i9.mono (owns_sl okM) (by omega), t9.mono (owns_sl okE) (by omega)⟩, B9⟩
end Go.Proofs.Ytjjafaikaghlgaa.Mem
