/-
  What chapter 2's functions answer, of the program and of its model: the check of a code, whether a list is a rom, the rom of a code. What RomOf answers, of the program and of its model, and the copies that it makes: a list of its own.
-/
import Derived.Test.YtjjafaikaghlgaaNum
import Derived.Test.YtjjafaikaghlgaaSlc
import Derived.Deep.QuietTactic
import Derived.BigQuiet
namespace Go.Proofs.Ytjjafaikaghlgaa.Rom
open Go.ChangeShapes Go.WideShapes Go.RowKit Base Slc Num
set_option linter.unusedVariables false
set_option maxRecDepth 20000
set_option linter.unusedSimpArgs false

theorem all_take_succ (l : List Int) (k : Nat) (h : k < l.length) : (l.take (k + 1)).all bok = ((l.take k).all bok && bok (l.getD k 0)) := by
  rw [getD_take h]; simp
theorem all_false (l : List Int) (k : Nat) (h : k < l.length) (hb : bok (l.getD k 0) = false) : l.all bok = false := by
  rw [List.all_eq_false]
  refine ⟨l[k], List.getElem_mem h, ?_⟩
  rw [List.getD_eq_getElem?_getD, List.getElem?_eq_getElem h] at hb
  simpa using hb

theorem bytes_spec (a : Option Addr) (len cap : Nat) (l : List Int) (w : World) (hl : IntsAt w a len l) (hm : len ≤ maxLen) :
    Calls Try.prog 82 #[.slice a len cap] w fun e w' => e = .returned (.bool (l.all bok)) ∧ w' = w := by
  unfold maxLen at hm
  obtain ⟨hlen, hc⟩ := hl
  go_enter Try.func82, Try.ntmps82
  go_wp2
  go_loop [3] (fun i => ∃ k : Nat, k ≤ len ∧ i = .int .i64 k ∧ (l.take k).all bok = true) (fun i => len - (intOf i).toNat)
  case atStart => exact ⟨0, Nat.zero_le _, rfl, by simp⟩
  case round =>
    obtain ⟨k, hk, rfl, hall⟩ := hrel
    have HA : Hid ((l.take k).all bok = true) := hall
    clear hall
    by_cases hlt : k < len
    · rcases hc with h0 | ⟨b, off, rfl, hb, hcell⟩
      · omega
      · have hz := hcell k hlt
        clear hcell
        obtain ⟨z, hzz⟩ : ∃ z, z = l.getD k 0 := ⟨_, rfl⟩
        rw [← hzz] at hz
        have HZ : Hid (z = l.getD k 0) := hzz
        clear hzz
        by_cases hbk : bok z = true
        · go_wp2_with (go_at_call 83; refine (byteOk_spec _ _).mono ?_; rintro e w' ⟨rfl, rfl⟩)
          go_round
          case rel => exact ⟨k + 1, by omega, by go_num, by rw [all_take_succ l k (by omega), HA.out, ← HZ.out, hbk]; rfl⟩
          case measure => simp [intOf]; omega
        · have hbk' : bok z = false := by simpa using hbk
          clear hbk
          go_wp2_with (go_at_call 83; refine (byteOk_spec _ _).mono ?_; rintro e w' ⟨rfl, rfl⟩)
          go_ret
          exact ⟨ret_bool (all_false l k (by omega) (by rw [← HZ.out]; exact hbk')).symm, rfl⟩
    · go_wp2
      go_ret
      have e : l.take k = l := List.take_of_length_le (by omega)
      have h := HA.out
      rw [e] at h
      exact ⟨ret_bool h.symm, rfl⟩

theorem bytes_impl (a : Option Addr) (len cap : Nat) (l : List Int) (w : World) (hl : IntsAt w a len l) (hm : len ≤ maxLen) :
    Calls Try.prog 59 #[.slice a len cap] w fun e w' => e = .returned (.bool (l.all bok)) ∧ w' = w := by
  unfold maxLen at hm
  obtain ⟨hlen, hc⟩ := hl
  go_enter Try.func59, Try.ntmps59
  go_wp2
  go_loop [7] (fun i => ∃ k : Nat, k ≤ len ∧ i = .int .i64 k ∧ (l.take k).all bok = true) (fun i => len - (intOf i).toNat)
  case atStart => exact ⟨0, Nat.zero_le _, rfl, by simp⟩
  case round =>
    obtain ⟨k, hk, rfl, hall⟩ := hrel
    have HA : Hid ((l.take k).all bok = true) := hall
    clear hall
    by_cases hlt : k < len
    · rcases hc with h0 | ⟨b, off, rfl, hb, hcell⟩
      · omega
      · have hz := hcell k hlt
        clear hcell
        obtain ⟨z, hzz⟩ : ∃ z, z = l.getD k 0 := ⟨_, rfl⟩
        rw [← hzz] at hz
        have HZ : Hid (z = l.getD k 0) := hzz
        clear hzz
        by_cases hbk : bok z = true
        · go_wp2_with (go_at_call 60; refine (byteOk_impl _ _).mono ?_; rintro e w' ⟨rfl, rfl⟩)
          go_round
          case rel => exact ⟨k + 1, by omega, by go_num, by rw [all_take_succ l k (by omega), HA.out, ← HZ.out, hbk]; rfl⟩
          case measure => simp [intOf]; omega
        · have hbk' : bok z = false := by simpa using hbk
          clear hbk
          go_wp2_with (go_at_call 60; refine (byteOk_impl _ _).mono ?_; rintro e w' ⟨rfl, rfl⟩)
          go_ret
          exact ⟨ret_bool (all_false l k (by omega) (by rw [← HZ.out]; exact hbk')).symm, rfl⟩
    · go_wp2
      go_ret
      have e : l.take k = l := List.take_of_length_le (by omega)
      have h := HA.out
      rw [e] at h
      exact ⟨ret_bool h.symm, rfl⟩

/-- The sum that goes round, from n on. -/
def sumR (n : Int) (l : List Int) : Int := l.foldl (fun s x => (s + x) % 256) n
/-- The check of a code. -/
def chk (l : List Int) : Int := if l.all bok then sumR 25 l else -1
theorem sumR_snoc (n : Int) (l : List Int) (x : Int) : sumR n (l ++ [x]) = (sumR n l + x) % 256 := by simp [sumR]
theorem sumR_ok (n : Int) (l : List Int) (hn : bok n = true) : bok (sumR n l) = true := by
  unfold sumR
  induction l generalizing n with
  | nil => exact hn
  | cons x l ih => exact ih _ (show bok ((n + x) % 256) = true from bok_mk (by omega) (by omega))
theorem chk_ok (l : List Int) (h : l.all bok = true) : bok (chk l) = true := by
  unfold chk; rw [if_pos h]; exact sumR_ok _ _ (by decide)
theorem all_getD {l : List Int} (h : l.all bok = true) {k : Nat} (hk : k < l.length) : bok (l.getD k 0) = true := by
  rw [List.all_eq_true] at h
  rw [List.getD_eq_getElem?_getD, List.getElem?_eq_getElem hk]
  exact h _ (List.getElem_mem hk)

theorem checkOf_spec (a : Option Addr) (len cap : Nat) (l : List Int) (w : World) (hl : IntsAt w a len l) (hm : len ≤ maxLen) :
    Calls Try.prog 107 #[.slice a len cap] w fun e w' => e = .returned (.int .i64 (chk l)) ∧ w' = w := by
  by_cases hall : l.all bok = true
  · have HL : Hid (IntsAt w a len l) := hl
    have HM : Hid (len ≤ maxLen) := hm
    have e1 : chk l = sumR 25 l := by simp [chk, hall]
    have HE : Hid (chk l = sumR 25 l) := e1
    unfold maxLen at hm
    obtain ⟨hlen, hc⟩ := hl
    clear e1
    go_enter Try.func107, Try.ntmps107
    go_wp2_with (go_at_call 82; refine (bytes_spec _ _ _ _ _ HL.out HM.out).mono ?_; rintro e w' ⟨rfl, rfl⟩)
    go_loop [3, 4] (fun n i => ∃ k : Nat, k ≤ len ∧ i = .int .i64 k ∧ n = .int .i64 (sumR 25 (l.take k))) (fun _ i => len - (intOf i).toNat)
    case atStart => exact ⟨0, Nat.zero_le _, rfl, rfl⟩
    case round =>
      obtain ⟨k, hk, rfl, rfl⟩ := hrel
      obtain ⟨s, hs⟩ : ∃ s, s = sumR 25 (l.take k) := ⟨_, rfl⟩
      have hsb := bok_true (sumR_ok 25 (l.take k) (by decide))
      rw [← hs] at hsb ⊢
      have HS : Hid (s = sumR 25 (l.take k)) := hs
      clear hs
      by_cases hlt : k < len
      · rcases hc with h0 | ⟨b, off, rfl, hb, hcell⟩
        · omega
        · have hz := hcell k hlt
          have hzb := bok_true (all_getD hall (k := k) (by omega))
          clear hcell
          obtain ⟨z, hzz⟩ : ∃ z, z = l.getD k 0 := ⟨_, rfl⟩
          rw [← hzz] at hz hzb
          have HZ : Hid (z = l.getD k 0) := hzz
          clear hzz
          go_wp2
          go_round
          case rel => exact ⟨k + 1, by omega, by go_num, by rw [getD_take (by omega), sumR_snoc, ← HZ.out, ← HS.out]⟩
          case measure => simp [intOf]; omega
      · go_wp2
        go_ret
        exact ⟨ret_int (by rw [HE.out, HS.out, List.take_of_length_le (by omega)]), rfl⟩
  · have hall' : l.all bok = false := by simpa using hall
    have e1 : chk l = -1 := by simp [chk, hall']
    rw [e1]
    go_enter Try.func107, Try.ntmps107
    go_wp2_with (go_at_call 82; refine (bytes_spec _ _ _ _ _ hl hm).mono ?_; rintro e w' ⟨rfl, rfl⟩)
    go_ret
    exact ⟨rfl, rfl⟩

theorem add_round {s z : Int} (hs : bok s = true) (hz : bok z = true) : addB s z = (s + z) % 256 := by simp [addB, hs, hz]
theorem roundSum_impl (n : Int) (a : Option Addr) (len cap : Nat) (l : List Int) (w : World) (hl : IntsAt w a len l) (hm : len ≤ maxLen) (hall : l.all bok = true) (hn : bok n = true) :
    Calls Try.prog 109 #[.int .i64 n, .slice a len cap] w fun e w' => e = .returned (.int .i64 (sumR n l)) ∧ w' = w := by
  unfold maxLen at hm
  obtain ⟨hlen, hc⟩ := hl
  go_enter Try.func109, Try.ntmps109
  go_wp2
  go_loop [5, 11] (fun s i => ∃ k : Nat, k ≤ len ∧ i = .int .i64 k ∧ s = .int .i64 (sumR n (l.take k))) (fun _ i => len - (intOf i).toNat)
  case atStart => exact ⟨0, Nat.zero_le _, rfl, rfl⟩
  case round =>
    obtain ⟨k, hk, rfl, rfl⟩ := hrel
    obtain ⟨s, hs⟩ : ∃ s, s = sumR n (l.take k) := ⟨_, rfl⟩
    have hsb := sumR_ok n (l.take k) hn
    rw [← hs] at hsb ⊢
    have HS : Hid (s = sumR n (l.take k)) := hs
    clear hs
    by_cases hlt : k < len
    · rcases hc with h0 | ⟨b, off, rfl, hb, hcell⟩
      · omega
      · have hz := hcell k hlt
        have hzb := all_getD hall (k := k) (by omega)
        clear hcell
        obtain ⟨z, hzz⟩ : ∃ z, z = l.getD k 0 := ⟨_, rfl⟩
        rw [← hzz] at hz hzb
        have HZ : Hid (z = l.getD k 0) := hzz
        clear hzz
        go_wp2_with (go_at_call 111; refine (addByte_impl _ _ _).mono ?_; rintro e w' ⟨rfl, rfl⟩)
        go_round
        case rel => exact ⟨k + 1, by omega, by go_num, by rw [getD_take (by omega), sumR_snoc, ← HZ.out, ← HS.out, ← add_round hsb hzb]⟩
        case measure => simp [intOf]; omega
    · go_wp2
      go_ret
      exact ⟨ret_int (by rw [HS.out, List.take_of_length_le (by omega)]), rfl⟩
theorem checkOf_impl (a : Option Addr) (len cap : Nat) (l : List Int) (w : World) (hl : IntsAt w a len l) (hm : len ≤ maxLen) :
    Calls Try.prog 92 #[.slice a len cap] w fun e w' => e = .returned (.int .i64 (chk l)) ∧ w' = w := by
  by_cases hall : l.all bok = true
  · have e1 : chk l = sumR 25 l := by simp [chk, hall]
    rw [e1]
    go_enter Try.func92, Try.ntmps92
    go_wp2_with (first
      | (go_at_call 59; refine (bytes_impl _ _ _ _ _ hl hm).mono ?_; rintro e w' ⟨rfl, rfl⟩)
      | (go_at_call 109; refine (roundSum_impl 25 _ _ _ _ _ hl hm hall (by decide)).mono ?_; rintro e w' ⟨rfl, rfl⟩))
    go_ret
    exact ⟨rfl, rfl⟩
  · have hall' : l.all bok = false := by simpa using hall
    have e1 : chk l = -1 := by simp [chk, hall']
    rw [e1]
    go_enter Try.func92, Try.ntmps92
    go_wp2_with (go_at_call 59; refine (bytes_impl _ _ _ _ _ hl hm).mono ?_; rintro e w' ⟨rfl, rfl⟩)
    go_ret
    exact ⟨rfl, rfl⟩

/-- Is it a rom? -/
def romOk (l : List Int) : Bool := decide (2 ≤ l.length) && decide (l.length ≤ 128) && l.all bok && (l.getD (l.length - 1) 0 == chk (l.take (l.length - 1)))
theorem romOk_short {l : List Int} (h : l.length < 2) : romOk l = false := by unfold romOk; rw [decide_eq_false (by omega)]; rfl
theorem romOk_long {l : List Int} (h : 128 < l.length) : romOk l = false := by unfold romOk; rw [decide_eq_false (p := l.length ≤ 128) (by omega)]; simp
theorem romOk_wrong {l : List Int} (h : l.all bok = false) : romOk l = false := by unfold romOk; rw [h]; simp
theorem romOk_mid {l : List Int} (h2 : 2 ≤ l.length) (h128 : l.length ≤ 128) (h : l.all bok = true) : romOk l = (l.getD (l.length - 1) 0 == chk (l.take (l.length - 1))) := by
  unfold romOk; rw [h, decide_eq_true h2, decide_eq_true h128]; simp
theorem split_last {l : List Int} (h : 0 < l.length) : l.all bok = ((l.take (l.length - 1)).all bok && bok (l.getD (l.length - 1) 0)) := by
  have := all_take_succ l (l.length - 1) (by omega)
  rw [← this, List.take_of_length_le (by omega)]
theorem romOk_last {l : List Int} (h : 0 < l.length) (hb : bok (l.getD (l.length - 1) 0) = false) : romOk l = false := romOk_wrong (by rw [split_last h, hb]; simp)
theorem romOk_last_ok {l : List Int} (h2 : 2 ≤ l.length) (h128 : l.length ≤ 128) (hb : bok (l.getD (l.length - 1) 0) = true) : romOk l = (l.getD (l.length - 1) 0 == chk (l.take (l.length - 1))) := by
  by_cases hall : (l.take (l.length - 1)).all bok = true
  · exact romOk_mid h2 h128 (by rw [split_last (by omega), hall, hb]; rfl)
  · have hall' : (l.take (l.length - 1)).all bok = false := by simpa using hall
    rw [romOk_wrong (by rw [split_last (by omega), hall']; rfl)]
    have e1 : chk (l.take (l.length - 1)) = -1 := by simp [chk, hall']
    have := bok_true hb
    rw [e1, beq_eq_false_iff_ne.mpr (by omega)]

theorem romOk_spec (a : Option Addr) (len cap : Nat) (l : List Int) (w : World) (hl : IntsAt w a len l) (hm : len ≤ cap) (hcm : cap ≤ maxLen) :
    Calls Try.prog 70 #[.slice a len cap] w fun e w' => e = .returned (.bool (romOk l)) ∧ ∃ n, w' = w.drewN n := by
  have HL : Hid (IntsAt w a len l) := hl
  have HM : Hid (len ≤ maxLen) := Nat.le_trans hm hcm
  unfold maxLen at hcm
  obtain ⟨hlen, hc⟩ := hl
  by_cases h2 : 2 ≤ len
  · by_cases h128 : len ≤ 128
    · by_cases hall : l.all bok = true
      · rcases hc with h0 | ⟨b, off, rfl, hb, hcell⟩
        · omega
        · obtain ⟨m, hmm⟩ : ∃ m, m = len - 1 := ⟨_, rfl⟩
          have hz := hcell m (by omega)
          clear hcell
          obtain ⟨z, hzz⟩ : ∃ z, z = l.getD m 0 := ⟨_, rfl⟩
          rw [← hzz] at hz
          have HE : Hid (romOk l = (z == chk (l.take m))) := by rw [hzz, hmm, ← hlen]; exact romOk_mid (by omega) (by omega) hall
          clear hzz
          have ht : IntsAt w (some ⟨b, off, none⟩) m (l.take m) := HL.out.take _ (by omega)
          have HT : Hid (IntsAt w (some ⟨b, off, none⟩) m (l.take m)) := ht
          have HTM : Hid (m ≤ maxLen) := by show m ≤ maxLen; unfold maxLen; omega
          have hml : m < len := by omega
          have hmi : (m : Int) < (len : Int) := by omega
          have hmc : m ≤ cap := by omega
          have hwr : IntKind.i64.wrap ((len : Int) - 1) = (m : Int) := by simp [IntKind.wrap, IntKind.bits, IntKind.signed]; omega
          clear ht hlen hmm
          have hd1 : decide ((2 : Int) ≤ (len : Int)) = true := by simp; omega
          have hd2 : decide ((len : Int) ≤ 128) = true := by simp; omega
          go_enter Try.func70, Try.ntmps70
          go_wp2
          go_quiet ((first | (go_at_call 82; refine Calls.quiet_of_same (bytes_spec _ _ _ l _ HL.out HM.out)) | (go_at_call 107; refine Calls.quiet_of_same (checkOf_spec _ _ _ (l.take m) _ HT.out HTM.out))))
          go_wp2
          go_ret
          exact ⟨ret_bool HE.out.symm, _, rfl⟩
      · have hall' : l.all bok = false := by simpa using hall
        have HE : Hid (romOk l = false) := romOk_wrong hall'
        have hd1 : decide ((2 : Int) ≤ (len : Int)) = true := by simp; omega
        have hd2 : decide ((len : Int) ≤ 128) = true := by simp; omega
        clear hall
        go_enter Try.func70, Try.ntmps70
        go_wp2
        go_quiet ((go_at_call 82; refine Calls.quiet_of_same (bytes_spec _ _ _ l _ HL.out HM.out)))
        go_wp2
        go_ret
        exact ⟨ret_bool HE.out.symm, _, rfl⟩
    · have HE : Hid (romOk l = false) := romOk_long (by omega)
      have hd1 : decide ((2 : Int) ≤ (len : Int)) = true := by simp; omega
      have hd2 : decide ((len : Int) ≤ 128) = false := by simp; omega
      go_enter Try.func70, Try.ntmps70
      go_wp2
      go_quiet (fail)
      go_wp2
      go_ret
      exact ⟨ret_bool HE.out.symm, _, rfl⟩
  · have HE : Hid (romOk l = false) := romOk_short (by omega)
    have hd1 : decide ((2 : Int) ≤ (len : Int)) = false := by simp; omega
    go_enter Try.func70, Try.ntmps70
    go_wp2
    go_quiet (fail)
    go_wp2
    go_ret
    exact ⟨ret_bool HE.out.symm, _, rfl⟩

set_option maxHeartbeats 1000000 in
theorem romOk_impl (a : Option Addr) (len cap : Nat) (l : List Int) (w : World) (hl : IntsAt w a len l) (hm : len ≤ cap) (hcm : cap ≤ maxLen) :
    Calls Try.prog 58 #[.slice a len cap] w fun e w' => e = .returned (.bool (romOk l)) ∧ ∃ n, w' = w.drewN n := by
  have HL : Hid (IntsAt w a len l) := hl
  unfold maxLen at hcm
  obtain ⟨hlen, hc⟩ := hl
  by_cases h2 : len < 2
  · have HE : Hid (romOk l = false) := romOk_short (by omega)
    go_enter Try.func58, Try.ntmps58
    go_wp2
    go_ret
    exact ⟨ret_bool HE.out.symm, 0, rfl⟩
  · by_cases h128 : 128 < len
    · have HE : Hid (romOk l = false) := romOk_long (by omega)
      go_enter Try.func58, Try.ntmps58
      go_wp2
      go_ret
      exact ⟨ret_bool HE.out.symm, 0, rfl⟩
    · rcases hc with h0 | ⟨b, off, rfl, hb, hcell⟩
      · omega
      · obtain ⟨m, hmm⟩ : ∃ m, m = len - 1 := ⟨_, rfl⟩
        have hz := hcell m (by omega)
        clear hcell
        obtain ⟨z, hzz⟩ : ∃ z, z = l.getD m 0 := ⟨_, rfl⟩
        rw [← hzz] at hz
        have HZ : Hid (z = l.getD m 0) := hzz
        have HE0 : bok z = false → romOk l = false := by rw [hzz, hmm, ← hlen]; exact romOk_last (by omega)
        have HE1 : bok z = true → romOk l = (z == chk (l.take m)) := by rw [hzz, hmm, ← hlen]; exact romOk_last_ok (by omega) (by omega)
        clear hzz
        have ht : IntsAt w (some ⟨b, off, none⟩) m (l.take m) := HL.out.take _ (by omega)
        have HT : Hid (IntsAt w (some ⟨b, off, none⟩) m (l.take m)) := ht
        have HTM : Hid (m ≤ maxLen) := by show m ≤ maxLen; unfold maxLen; omega
        have hml : m < len := by omega
        have hmi : (m : Int) < (len : Int) := by omega
        have hmc : m ≤ cap := by omega
        have hwr : (len : Int) - 1 = (m : Int) := by omega
        clear ht hlen hmm
        by_cases hbz : bok z = true
        · have HE : Hid (romOk l = (z == chk (l.take m))) := HE1 hbz
          clear HE0 HE1
          have hB : ∀ W, Calls Try.prog 60 #[.int .i64 z] W fun e w' => e = .returned (.bool true) ∧ w' = W := fun W => by have := byteOk_impl z W; rw [hbz] at this; exact this
          go_enter Try.func58, Try.ntmps58
          go_wp2
          go_quiet ((first | (go_at_call 60; refine Calls.quiet_of_same (hB _)) | (go_at_call 92; refine Calls.quiet_of_same (checkOf_impl _ _ _ (l.take m) _ HT.out HTM.out))))
          go_wp2
          go_ret
          exact ⟨ret_bool HE.out.symm, _, rfl⟩
        · have hbz' : bok z = false := by simpa using hbz
          have HE : Hid (romOk l = false) := HE0 hbz'
          clear HE0 HE1 hbz
          have hB : ∀ W, Calls Try.prog 60 #[.int .i64 z] W fun e w' => e = .returned (.bool false) ∧ w' = W := fun W => by have := byteOk_impl z W; rw [hbz'] at this; exact this
          go_enter Try.func58, Try.ntmps58
          go_wp2
          go_quiet ((go_at_call 60; refine Calls.quiet_of_same (hB _)))
          go_wp2
          go_ret
          exact ⟨ret_bool HE.out.symm, _, rfl⟩
theorem checkOf_specS (v : Value) (l : List Int) (w : World) (h : Sl w v l) :
    Calls Try.prog 107 #[v] w fun e w' => e = .returned (.int .i64 (chk l)) ∧ w' = w := by
  obtain ⟨a, cap, rfl, h1, h2, h3, h4⟩ := h
  exact checkOf_spec _ _ _ l _ h1 (Nat.le_trans h2 h3)
theorem romOk_specS (v : Value) (l : List Int) (w : World) (h : Sl w v l) :
    Calls Try.prog 70 #[v] w fun e w' => e = .returned (.bool (romOk l)) ∧ ∃ n, w' = w.drewN n := by
  obtain ⟨a, cap, rfl, h1, h2, h3, h4⟩ := h
  exact romOk_spec _ _ _ l _ h1 h2 h3
theorem checkOf_implS (v : Value) (l : List Int) (w : World) (h : Sl w v l) :
    Calls Try.prog 92 #[v] w fun e w' => e = .returned (.int .i64 (chk l)) ∧ w' = w := by
  obtain ⟨a, cap, rfl, h1, h2, h3, h4⟩ := h
  exact checkOf_impl _ _ _ l _ h1 (Nat.le_trans h2 h3)
theorem romOk_implS (v : Value) (l : List Int) (w : World) (h : Sl w v l) :
    Calls Try.prog 58 #[v] w fun e w' => e = .returned (.bool (romOk l)) ∧ ∃ n, w' = w.drewN n := by
  obtain ⟨a, cap, rfl, h1, h2, h3, h4⟩ := h
  exact romOk_impl _ _ _ l _ h1 h2 h3
end Go.Proofs.Ytjjafaikaghlgaa.Rom
namespace Go.Proofs.Ytjjafaikaghlgaa.RomOf
open Go.ChangeShapes Go.WideShapes Go.RowKit Base Slc Num Rom
set_option linter.unusedVariables false
set_option maxRecDepth 20000
set_option linter.unusedSimpArgs false

theorem copy_spec (v : Value) (l : List Int) (w : World) (h : Sl w v l) (hb : l.length ≤ 17592186044415) :
    Calls Try.prog 71 #[v] w fun e w' => ∃ v', e = .returned v' ∧ Own w.heap.size w' v' l ∧ Below w.heap.size w w' := by
  have HO := own_lit w.heap.size w #[] [] rfl (by decide) (Nat.le_refl _)
  have HS := h.below ((Below.refl _ _).alloc (Nat.le_refl _) (.cells #[] 2))
  have HB : Below w.heap.size w (w.alloc (.cells #[] 2)) := (Below.refl _ _).alloc (Nat.le_refl _) _
  go_enter Try.func71, Try.ntmps71
  go_wp2_with (at_builtin; refine app rfl (.tmp 3) (.tmp 4) rfl w.heap.size [] l HO HS (by simp; omega) (by simp) ?_; intro v' w' ho hg)
  go_ret
  exact ⟨v', rfl, by simpa using ho, HB.grown hg (by simp) (fun k hk => (HO.lt k hk).1)⟩

theorem clone_any (v : Value) (l : List Int) (w : World) (h : Sl w v l) (hb : l.length ≤ 17592186044415) :
    Calls Try.prog 72 #[v] w fun e w' => ∃ v', e = .returned v' ∧ Own w.heap.size w' v' l ∧ Below w.heap.size w w' := by
  have HO := own_lit w.heap.size w #[] [] rfl (by decide) (Nat.le_refl _)
  have HS := h.below ((Below.refl _ _).alloc (Nat.le_refl _) (.cells #[] 2))
  have HB : Below w.heap.size w (w.alloc (.cells #[] 2)) := (Below.refl _ _).alloc (Nat.le_refl _) _
  have q : ∀ (w : World) (a : Option Addr) (n c n' c' : Nat), (binOp .eql 37 (.slice a n c) (.slice none n' c')).run Try.prog w = .ok (.bool a.isNone) w := fun w a n c n' c' => Lib.run_eql_slice_nil w _ _ a n c n' c' und64
  obtain ⟨a, cap, rfl, hat, hlc, hcm, hnil⟩ := h
  cases a with
  | none =>
    obtain ⟨h0, rfl⟩ := hnil rfl
    have : l = [] := List.eq_nil_of_length_eq_zero h0
    subst this
    go_enter Try.func72, Try.ntmps72
    go_wp2
    go_ret
    exact ⟨_, rfl, Own.nil _ _, Below.refl _ _⟩
  | some x =>
    go_enter Try.func72, Try.ntmps72
    go_wp2_with (at_builtin; refine app rfl (.tmp 5) (.tmp 6) rfl w.heap.size [] l HO HS (by simp; omega) (by simp) ?_; intro v' w' ho hg)
    go_ret
    exact ⟨v', rfl, by simpa using ho, HB.grown hg (by simp) (fun k hk => (HO.lt k hk).1)⟩

/-- The rom of a code: what it would be, and what is answered. -/
def romOf (l : List Int) : List Int := if romOk (l ++ [chk l]) then l ++ [chk l] else []

end Go.Proofs.Ytjjafaikaghlgaa.RomOf
