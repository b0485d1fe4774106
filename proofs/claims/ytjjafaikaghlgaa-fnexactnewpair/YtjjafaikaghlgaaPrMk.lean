/-
  Marks in lists of lists: set, and found again.
-/
import Derived.Test.YtjjafaikaghlgaaPrLaw
import Derived.Test.YtjjafaikaghlgaaMsgMk
import Derived.Test.YtjjafaikaghlgaaEvMk
namespace Go.Proofs.Ytjjafaikaghlgaa.Mem
open Go.ChangeShapes Go.WideShapes Go.RowKit Base Num Slc Slf Rw Tmr Reg Ex
set_option linter.unusedVariables false
set_option linter.unusedSimpArgs false
set_option maxRecDepth 20000

/-- What the marks are: list by list, three numbers an element. -/
def marksLL (k : Nat) : List (List M3) → List (List M3)
  | [] => []
  | l :: ls => marks3 k l.length :: marksLL (k + 3 * l.length) ls
theorem marksLL_length (k : Nat) (ls : List (List M3)) : (marksLL k ls).length = ls.length := by
  induction ls generalizing k with
  | nil => rfl
  | cons l ls ih => simp [marksLL, ih]
theorem marksLL_snoc (k : Nat) (ls : List (List M3)) (x : List M3) : marksLL k (ls ++ [x]) = marksLL k ls ++ [marks3 (k + 3 * sm List.length ls) x.length] := by
  induction ls generalizing k with
  | nil => simp [marksLL, sm]
  | cons l ls ih =>
    have := ih (k + 3 * l.length)
    simp only [List.cons_append, marksLL, this]
    have e : k + 3 * l.length + 3 * sm List.length ls = k + 3 * sm List.length (l :: ls) := by simp [sm]; omega
    rw [e]
theorem marksLL_get (k : Nat) (ls : List (List M3)) {i : Nat} {l : List M3} (h : ls[i]? = some l) : (marksLL k ls)[i]? = some (marks3 (k + 3 * sm List.length (ls.take i)) l.length) := by
  induction ls generalizing k i with
  | nil => simp at h
  | cons x ls ih =>
    cases i with
    | zero => simp at h; subst h; simp [marksLL, sm]
    | succ i =>
      simp at h
      have := ih (k + 3 * x.length) h
      simp only [marksLL, List.getElem?_cons_succ, this, List.take_succ_cons]
      have e : k + 3 * x.length + 3 * sm List.length (ls.take i) = k + 3 * sm List.length (x :: ls.take i) := by simp [sm]; omega
      rw [e]
theorem marks_part (k : Nat) (ls : List (List M3)) (i j : Nat) (x : List M3) (hi : i ≤ ls.length) (h : (marksLL k (ls.take i) ++ ls.drop i)[j]? = some x) : (j < i ∧ (marksLL k (ls.take i))[j]? = some x) ∨ (i ≤ j ∧ ls[j]? = some x) := by
  have hl : (marksLL k (ls.take i)).length = i := by rw [marksLL_length]; simp; omega
  by_cases hj : j < i
  · rw [List.getElem?_append_left (by omega)] at h
    exact .inl ⟨hj, h⟩
  · rw [List.getElem?_append_right (by omega), hl, List.getElem?_drop, show i + (j - i) = j by omega] at h
    exact .inr ⟨by omega, h⟩
/-- Lists that are one's own, each in a block that no other one has. -/
structure Apt (v : Value) (us : List Value) : Prop where
  two : ∀ (i j : Nat) (u u' : Value), i ≠ j → us[i]? = some u → us[j]? = some u' → ∀ k, u.ownBlock = some k → u'.ownBlock ≠ some k
  out : ∀ u ∈ us, ∀ k, u.ownBlock = some k → v.ownBlock ≠ some k
def InOne (us : List Value) (k : Nat) : Prop := ∃ u ∈ us, u.ownBlock = some k
theorem markMss_any (v : Value) (us : List Value) (ls : List (List M3)) (base k : Nat) (w : World) (h : SlF fIMs w v us) (ha : All2 (OwnF fM base w) us ls) (hp : Apt v us) (hs : tot List.length ls ≤ 4000000) (hk : k ≤ 100000000) :
    Calls Try.prog 47 #[v, .int .i64 (k : Int)] w fun e w' => e = .returned (.int .i64 ((k + 3 * sm List.length ls : Nat) : Int)) ∧ SlF fIMs w' v us ∧ All2 (OwnF fM base w') us (marksLL k ls) ∧ Turn (InOne us) w w' := by
  have HL : Hid (us.length = ls.length) := ha.1
  have HP : Hid (Apt v us) := hp
  unfold tot at hs
  obtain ⟨a, cap, rfl, -, hlc, hcm, -⟩ := id h
  unfold maxLen at hcm
  have hH : SlF fIMs w (.slice a us.length cap) us := h
  clear hp h
  go_enter Try.func47, Try.ntmps47
  go_wp2_with fail
  go_loopw [1, 5] (fun z i wr => ∃ j : Nat, j ≤ us.length ∧ i = .int .i64 j ∧ z = .int .i64 ((k + 3 * sm List.length (ls.take j) : Nat) : Int) ∧ SlF fIMs wr (.slice a us.length cap) us ∧ All2 (OwnF fM base wr) us (marksLL k (ls.take j) ++ ls.drop j) ∧ Turn (InOne us) w wr) (fun _ i _ => us.length - (intOf i).toNat)
  case atStart => exact ⟨0, Nat.zero_le _, rfl, by simp [sm], hH, by simpa [marksLL] using ha, Turn.of (Below.refl _ _)⟩
  case round =>
    obtain ⟨j, hj, rfl, rfl, hsl, hal, ht⟩ := hrel
    clear hH ha
    have HT : Hid (Turn (InOne us) w wr) := ht
    have HA : Hid (All2 (OwnF fM base wr) us (marksLL k (ls.take j) ++ ls.drop j)) := hal
    have HS : Hid (SlF fIMs wr (.slice a us.length cap) us) := hsl
    have HM : Hid (sm List.length (ls.take j) ≤ sm List.length ls) := sm_le _
    by_cases hlt : j < us.length
    · obtain ⟨u, hu⟩ : ∃ u, us[j]? = some u := ⟨_, List.getElem?_eq_getElem hlt⟩
      obtain ⟨l, hl⟩ : ∃ l, ls[j]? = some l := ⟨_, List.getElem?_eq_getElem (by rw [← HL.out]; exact hlt)⟩
      obtain ⟨b, off, c, e, -, -, -⟩ := hsl.shape (by omega)
      simp only [Value.slice.injEq] at e
      obtain ⟨rfl, -, rfl⟩ := e
      have hg : wr.rangeAt b (off + j * 1) (fIMs.F u) := hsl.range okIMs hu
      have hlen : (marksLL k (ls.take j)).length = j := by rw [marksLL_length]; have := HL.out; simp; omega
      have ho : OwnF fM base wr u l := hal.2 j u l hu (by rw [List.getElem?_append_right (by omega), hlen, Nat.sub_self, List.getElem?_drop]; simpa using hl)
      have hV : fIMs.V u = u := fit_sl _ _ _ (ho.sl okM)
      have HM2 : Hid (sm List.length (ls.take (j + 1)) = sm List.length (ls.take j) + l.length) := sm_take hl
      have HU : Hid (us[j]? = some u) := hu
      have HLl : Hid (ls[j]? = some l) := hl
      have HO : Hid (OwnF fM base wr u l) := ho
      have hle : l.length ≤ 4000000 := by have := HM2.out; have := sm_le (size := List.length) (l := ls) (j + 1); omega
      have hkk : k + 3 * sm List.length (ls.take j) ≤ 1000000000 := by have := HM.out; omega
      clear hsl hal ht hl ho hlen
      generalize hq : k + 3 * sm List.length (ls.take j) = q at *
      go_wp2_with (first
        | (refine ixF okIMs (r := j) rfl rfl rfl rfl hlt ?_)
        | (refine elN okIMs rfl rfl rfl hg hV ?_)
        | (go_at_call 18; refine (markMsgS_any u l _ base q HO.out hle hkk).mono ?_; rintro e w2 ⟨rfl, ho2, hg2⟩))
      go_roundw
      case rel =>
        have hlj : j < ls.length := by rw [← HL.out]; exact hlt
        have hT2 : Turn (InOne us) wr w2 := Turn.grown hg2 fun q hq' => ⟨u, List.mem_of_getElem? HU.out, hq'⟩
        refine ⟨j + 1, by omega, by go_num, by rw [HM2.out]; congr 2; omega, ?_, ?_, HT.out.trans hT2⟩
        · exact HS.out.grown hg2 (fun _ q hq' => HP.out.out u (List.mem_of_getElem? HU.out) q hq')
        · have hxe : ls[j] = l := by simpa [List.getElem?_eq_getElem hlj] using HLl.out
          refine ⟨by rw [List.length_append, marksLL_length, HL.out]; simp; omega, fun i y x h1 h2 => ?_⟩
          by_cases e : i = j
          · subst e
            rw [HU.out] at h1
            cases h1
            rcases marks_part k ls (i + 1) i x (by omega) h2 with ⟨_, h3⟩ | ⟨h3, _⟩
            · rw [marksLL_get k _ (i := i) (l := l) (by rw [List.getElem?_take_of_lt (by omega)]; exact HLl.out), List.take_take, Nat.min_eq_left (by omega), hq] at h3
              cases h3
              exact ho2
            · omega
          · have hy : OwnF fM base wr y x := by
              refine HA.out.2 i y x h1 ?_
              have hl1 : (marksLL k (ls.take j)).length = j := by rw [marksLL_length]; simp; omega
              rcases marks_part k ls (j + 1) i x (by omega) h2 with ⟨h3, h4⟩ | ⟨h3, h4⟩
              · have hij : i < j := by omega
                rw [List.getElem?_append_left (by omega)]
                obtain ⟨li, hli⟩ : ∃ li, ls[i]? = some li := ⟨_, List.getElem?_eq_getElem (by omega)⟩
                rw [marksLL_get k _ (i := i) (l := li) (by rw [List.getElem?_take_of_lt (by omega)]; exact hli), List.take_take, Nat.min_eq_left (by omega)] at h4
                rw [marksLL_get k _ (i := i) (l := li) (by rw [List.getElem?_take_of_lt (by omega)]; exact hli), List.take_take, Nat.min_eq_left (by omega)]
                exact h4
              · rw [List.getElem?_append_right (by omega), hl1, List.getElem?_drop, show j + (i - j) = i by omega]
                exact h4
            exact hy.grown hg2 (fun q hq' => HP.out.two j i u y (fun e' => e e'.symm) HU.out h1 q hq')
      case measure => simp [intOf]; omega
    · have e : j = us.length := by omega
      subst e
      have HE : Hid (ls.take us.length = ls ∧ ls.drop us.length = []) := ⟨by rw [HL.out, List.take_length], by rw [HL.out]; simp⟩
      clear hsl hal ht
      go_wp2
      go_ret
      refine ⟨by rw [HE.out.1]; rfl, HS.out, ?_, HT.out⟩
      have := HA.out
      rw [HE.out.1, HE.out.2, List.append_nil] at this
      exact this
theorem heldMss_any (v : Value) (ls : List (List M3)) (k : Nat) (w : World) (h : NsF fIMs (SlF fM) w v (marksLL k ls)) (hs : tot List.length ls ≤ 4000000) (hk : k ≤ 100000000) :
    Calls Try.prog 50 #[v, .int .i64 (k : Int)] w fun e w' => e = .returned (.int .i64 ((k + 3 * sm List.length ls : Nat) : Int)) ∧ Below w.heap.size w w' := by
  have HN : Hid (NsF fIMs (SlF fM) w v (marksLL k ls)) := h
  unfold tot at hs
  obtain ⟨a, cap, rfl, hlc, hcm⟩ := h.len
  rw [marksLL_length] at HN hlc ⊢
  unfold maxLen at hcm
  clear h
  go_enter Try.func50, Try.ntmps50
  go_wp2_with fail
  go_loopw [1, 5] (fun z i wr => ∃ j : Nat, j ≤ ls.length ∧ i = .int .i64 j ∧ z = .int .i64 ((k + 3 * sm List.length (ls.take j) : Nat) : Int) ∧ Below w.heap.size w wr) (fun _ i _ => ls.length - (intOf i).toNat)
  case atStart => exact ⟨0, Nat.zero_le _, rfl, by simp [sm], Below.refl _ _⟩
  case round =>
    obtain ⟨j, hj, rfl, rfl, hbw⟩ := hrel
    have HB : Hid (Below w.heap.size w wr) := hbw
    have HM : Hid (sm List.length (ls.take j) ≤ sm List.length ls) := sm_le _
    obtain ⟨us, hsl, hal⟩ := HN.out.below stays_sl hbw
    clear hbw
    by_cases hlt : j < ls.length
    · obtain ⟨l, hl⟩ : ∃ l, ls[j]? = some l := ⟨_, List.getElem?_eq_getElem hlt⟩
      obtain ⟨u, x, hu, hx, hr⟩ := hal.get (i := j) (by rw [marksLL_length]; exact hlt)
      rw [marksLL_get k ls hl] at hx
      obtain rfl := (Option.some.inj hx).symm
      obtain ⟨b, off, c, e, -, -, -⟩ := hsl.shape (by rw [hal.1, marksLL_length]; omega)
      simp only [Value.slice.injEq] at e
      obtain ⟨rfl, -, rfl⟩ := e
      have hg : wr.rangeAt b (off + j * 1) (fIMs.F u) := hsl.range okIMs hu
      have hV : fIMs.V u = u := fit_sl _ _ _ hr
      have HR : Hid (SlF fM wr u (marks3 (k + 3 * sm List.length (ls.take j)) l.length)) := hr
      have HM2 : Hid (sm List.length (ls.take (j + 1)) = sm List.length (ls.take j) + l.length) := sm_take hl
      have hle : l.length ≤ 4000000 := by have := HM2.out; have := sm_le (size := List.length) (l := ls) (j + 1); omega
      have hkk : k + 3 * sm List.length (ls.take j) ≤ 1000000000 := by have := HM.out; omega
      clear hsl hal hr hx hl hu
      generalize hq : k + 3 * sm List.length (ls.take j) = q at *
      go_wp2_with (first
        | (refine ixF okIMs (r := j) rfl rfl rfl rfl hlt ?_)
        | (refine elN okIMs rfl rfl rfl hg hV ?_)
        | (go_at_call 79; refine (heldMsgS_any u l.length _ q HR.out hle hkk).mono ?_; rintro e w2 ⟨rfl, rfl⟩))
      go_roundw
      case rel => exact ⟨j + 1, by omega, by go_num, by rw [HM2.out]; congr 2; omega, HB.out⟩
      case measure => simp [intOf]; omega
    · have e : j = ls.length := by omega
      subst e
      clear hsl hal
      have HE : Hid (ls.take ls.length = ls) := List.take_length
      go_wp2
      go_ret
      exact ⟨by rw [HE.out]; rfl, HB.out⟩
theorem markEss_any (v : Value) (us : List Value) (ls : List (List M3)) (base k : Nat) (w : World) (h : SlF fIEv w v us) (ha : All2 (OwnF fE base w) us ls) (hp : Apt v us) (hs : tot List.length ls ≤ 4000000) (hk : k ≤ 100000000) :
    Calls Try.prog 48 #[v, .int .i64 (k : Int)] w fun e w' => e = .returned (.int .i64 ((k + 3 * sm List.length ls : Nat) : Int)) ∧ SlF fIEv w' v us ∧ All2 (OwnF fE base w') us (marksLL k ls) ∧ Turn (InOne us) w w' := by
  have HL : Hid (us.length = ls.length) := ha.1
  have HP : Hid (Apt v us) := hp
  unfold tot at hs
  obtain ⟨a, cap, rfl, -, hlc, hcm, -⟩ := id h
  unfold maxLen at hcm
  have hH : SlF fIEv w (.slice a us.length cap) us := h
  clear hp h
  go_enter Try.func48, Try.ntmps48
  go_wp2_with fail
  go_loopw [1, 5] (fun z i wr => ∃ j : Nat, j ≤ us.length ∧ i = .int .i64 j ∧ z = .int .i64 ((k + 3 * sm List.length (ls.take j) : Nat) : Int) ∧ SlF fIEv wr (.slice a us.length cap) us ∧ All2 (OwnF fE base wr) us (marksLL k (ls.take j) ++ ls.drop j) ∧ Turn (InOne us) w wr) (fun _ i _ => us.length - (intOf i).toNat)
  case atStart => exact ⟨0, Nat.zero_le _, rfl, by simp [sm], hH, by simpa [marksLL] using ha, Turn.of (Below.refl _ _)⟩
  case round =>
    obtain ⟨j, hj, rfl, rfl, hsl, hal, ht⟩ := hrel
    clear hH ha
    have HT : Hid (Turn (InOne us) w wr) := ht
    have HA : Hid (All2 (OwnF fE base wr) us (marksLL k (ls.take j) ++ ls.drop j)) := hal
    have HS : Hid (SlF fIEv wr (.slice a us.length cap) us) := hsl
    have HM : Hid (sm List.length (ls.take j) ≤ sm List.length ls) := sm_le _
    by_cases hlt : j < us.length
    · obtain ⟨u, hu⟩ : ∃ u, us[j]? = some u := ⟨_, List.getElem?_eq_getElem hlt⟩
      obtain ⟨l, hl⟩ : ∃ l, ls[j]? = some l := ⟨_, List.getElem?_eq_getElem (by rw [← HL.out]; exact hlt)⟩
      obtain ⟨b, off, c, e, -, -, -⟩ := hsl.shape (by omega)
      simp only [Value.slice.injEq] at e
      obtain ⟨rfl, -, rfl⟩ := e
      have hg : wr.rangeAt b (off + j * 1) (fIEv.F u) := hsl.range okIEv hu
      have hlen : (marksLL k (ls.take j)).length = j := by rw [marksLL_length]; have := HL.out; simp; omega
      have ho : OwnF fE base wr u l := hal.2 j u l hu (by rw [List.getElem?_append_right (by omega), hlen, Nat.sub_self, List.getElem?_drop]; simpa using hl)
      have hV : fIEv.V u = u := fit_sl _ _ _ (ho.sl okE)
      have HM2 : Hid (sm List.length (ls.take (j + 1)) = sm List.length (ls.take j) + l.length) := sm_take hl
      have HU : Hid (us[j]? = some u) := hu
      have HLl : Hid (ls[j]? = some l) := hl
      have HO : Hid (OwnF fE base wr u l) := ho
      have hle : l.length ≤ 4000000 := by have := HM2.out; have := sm_le (size := List.length) (l := ls) (j + 1); omega
      have hkk : k + 3 * sm List.length (ls.take j) ≤ 1000000000 := by have := HM.out; omega
      clear hsl hal ht hl ho hlen
      generalize hq : k + 3 * sm List.length (ls.take j) = q at *
      go_wp2_with (first
        | (refine ixF okIEv (r := j) rfl rfl rfl rfl hlt ?_)
        | (refine elN okIEv rfl rfl rfl hg hV ?_)
        | (go_at_call 77; refine (markEvS_any u l _ base q HO.out hle hkk).mono ?_; rintro e w2 ⟨rfl, ho2, hg2⟩))
      go_roundw
      case rel =>
        have hlj : j < ls.length := by rw [← HL.out]; exact hlt
        have hT2 : Turn (InOne us) wr w2 := Turn.grown hg2 fun q hq' => ⟨u, List.mem_of_getElem? HU.out, hq'⟩
        refine ⟨j + 1, by omega, by go_num, by rw [HM2.out]; congr 2; omega, ?_, ?_, HT.out.trans hT2⟩
        · exact HS.out.grown hg2 (fun _ q hq' => HP.out.out u (List.mem_of_getElem? HU.out) q hq')
        · have hxe : ls[j] = l := by simpa [List.getElem?_eq_getElem hlj] using HLl.out
          refine ⟨by rw [List.length_append, marksLL_length, HL.out]; simp; omega, fun i y x h1 h2 => ?_⟩
          by_cases e : i = j
          · subst e
            rw [HU.out] at h1
            cases h1
            rcases marks_part k ls (i + 1) i x (by omega) h2 with ⟨_, h3⟩ | ⟨h3, _⟩
            · rw [marksLL_get k _ (i := i) (l := l) (by rw [List.getElem?_take_of_lt (by omega)]; exact HLl.out), List.take_take, Nat.min_eq_left (by omega), hq] at h3
              cases h3
              exact ho2
            · omega
          · have hy : OwnF fE base wr y x := by
              refine HA.out.2 i y x h1 ?_
              have hl1 : (marksLL k (ls.take j)).length = j := by rw [marksLL_length]; simp; omega
              rcases marks_part k ls (j + 1) i x (by omega) h2 with ⟨h3, h4⟩ | ⟨h3, h4⟩
              · have hij : i < j := by omega
                rw [List.getElem?_append_left (by omega)]
                obtain ⟨li, hli⟩ : ∃ li, ls[i]? = some li := ⟨_, List.getElem?_eq_getElem (by omega)⟩
                rw [marksLL_get k _ (i := i) (l := li) (by rw [List.getElem?_take_of_lt (by omega)]; exact hli), List.take_take, Nat.min_eq_left (by omega)] at h4
                rw [marksLL_get k _ (i := i) (l := li) (by rw [List.getElem?_take_of_lt (by omega)]; exact hli), List.take_take, Nat.min_eq_left (by omega)]
                exact h4
              · rw [List.getElem?_append_right (by omega), hl1, List.getElem?_drop, show j + (i - j) = i by omega]
                exact h4
            exact hy.grown hg2 (fun q hq' => HP.out.two j i u y (fun e' => e e'.symm) HU.out h1 q hq')
      case measure => simp [intOf]; omega
    · have e : j = us.length := by omega
      subst e
      have HE : Hid (ls.take us.length = ls ∧ ls.drop us.length = []) := ⟨by rw [HL.out, List.take_length], by rw [HL.out]; simp⟩
      clear hsl hal ht
      go_wp2
      go_ret
      refine ⟨by rw [HE.out.1]; rfl, HS.out, ?_, HT.out⟩
      have := HA.out
      rw [HE.out.1, HE.out.2, List.append_nil] at this
      exact this
theorem heldEss_any (v : Value) (ls : List (List M3)) (k : Nat) (w : World) (h : NsF fIEv (SlF fE) w v (marksLL k ls)) (hs : tot List.length ls ≤ 4000000) (hk : k ≤ 100000000) :
    Calls Try.prog 51 #[v, .int .i64 (k : Int)] w fun e w' => e = .returned (.int .i64 ((k + 3 * sm List.length ls : Nat) : Int)) ∧ Below w.heap.size w w' := by
  have HN : Hid (NsF fIEv (SlF fE) w v (marksLL k ls)) := h
  unfold tot at hs
  obtain ⟨a, cap, rfl, hlc, hcm⟩ := h.len
  rw [marksLL_length] at HN hlc ⊢
  unfold maxLen at hcm
  clear h
  go_enter Try.func51, Try.ntmps51
  go_wp2_with fail
  go_loopw [1, 5] (fun z i wr => ∃ j : Nat, j ≤ ls.length ∧ i = .int .i64 j ∧ z = .int .i64 ((k + 3 * sm List.length (ls.take j) : Nat) : Int) ∧ Below w.heap.size w wr) (fun _ i _ => ls.length - (intOf i).toNat)
  case atStart => exact ⟨0, Nat.zero_le _, rfl, by simp [sm], Below.refl _ _⟩
  case round =>
    obtain ⟨j, hj, rfl, rfl, hbw⟩ := hrel
    have HB : Hid (Below w.heap.size w wr) := hbw
    have HM : Hid (sm List.length (ls.take j) ≤ sm List.length ls) := sm_le _
    obtain ⟨us, hsl, hal⟩ := HN.out.below stays_sl hbw
    clear hbw
    by_cases hlt : j < ls.length
    · obtain ⟨l, hl⟩ : ∃ l, ls[j]? = some l := ⟨_, List.getElem?_eq_getElem hlt⟩
      obtain ⟨u, x, hu, hx, hr⟩ := hal.get (i := j) (by rw [marksLL_length]; exact hlt)
      rw [marksLL_get k ls hl] at hx
      obtain rfl := (Option.some.inj hx).symm
      obtain ⟨b, off, c, e, -, -, -⟩ := hsl.shape (by rw [hal.1, marksLL_length]; omega)
      simp only [Value.slice.injEq] at e
      obtain ⟨rfl, -, rfl⟩ := e
      have hg : wr.rangeAt b (off + j * 1) (fIEv.F u) := hsl.range okIEv hu
      have hV : fIEv.V u = u := fit_sl _ _ _ hr
      have HR : Hid (SlF fE wr u (marks3 (k + 3 * sm List.length (ls.take j)) l.length)) := hr
      have HM2 : Hid (sm List.length (ls.take (j + 1)) = sm List.length (ls.take j) + l.length) := sm_take hl
      have hle : l.length ≤ 4000000 := by have := HM2.out; have := sm_le (size := List.length) (l := ls) (j + 1); omega
      have hkk : k + 3 * sm List.length (ls.take j) ≤ 1000000000 := by have := HM.out; omega
      clear hsl hal hr hx hl hu
      generalize hq : k + 3 * sm List.length (ls.take j) = q at *
      go_wp2_with (first
        | (refine ixF okIEv (r := j) rfl rfl rfl rfl hlt ?_)
        | (refine elN okIEv rfl rfl rfl hg hV ?_)
        | (go_at_call 80; refine (heldEvS_any u l.length _ q HR.out hle hkk).mono ?_; rintro e w2 ⟨rfl, rfl⟩))
      go_roundw
      case rel => exact ⟨j + 1, by omega, by go_num, by rw [HM2.out]; congr 2; omega, HB.out⟩
      case measure => simp [intOf]; omega
    · have e : j = ls.length := by omega
      subst e
      clear hsl hal
      have HE : Hid (ls.take ls.length = ls) := List.take_length
      go_wp2
      go_ret
      exact ⟨by rw [HE.out]; rfl, HB.out⟩
end Go.Proofs.Ytjjafaikaghlgaa.Mem
