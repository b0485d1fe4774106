/-
  KeysIn: the model's and the program's.
-/
import Derived.Test.YtjjafaikaghlgaaInb
import Derived.Test.YtjjafaikaghlgaaInI
namespace Go.Proofs.Ytjjafaikaghlgaa.Mem
open Go.ChangeShapes Go.WideShapes Go.RowKit Base Num Slc Slf Rw Tmr Reg
set_option linter.unusedVariables false
set_option linter.unusedSimpArgs false
set_option maxRecDepth 20000

/-- No key to begin with: of another kind, or at 0. -/
def noKey (m : M3) : Bool := m.k != 3 || m.t == 0
def keysIn (l : List M3) : Bool := inboxOk l && !l.any noKey
theorem any_at (l : List M3) (p : M3 → Bool) : l.any p = false ↔ ∀ i, i < l.length → p (M3.at' l i) = false := by
  rw [List.any_eq_false]
  constructor
  · intro h i hi
    have := h (M3.at' l i) (List.mem_of_getElem? (at_some hi))
    simpa using this
  · intro h x hx
    obtain ⟨j, hj, rfl⟩ := List.mem_iff_getElem.1 hx
    have := h j hj
    unfold M3.at' at this
    rw [List.getD_eq_getElem?_getD, List.getElem?_eq_getElem hj] at this
    simpa using this
theorem keysIn_spec (v : Value) (l : List M3) (w : World) (h : SlF fM w v l) :
    Calls Try.prog 38 #[v] w fun e w' => e = .returned (.bool (keysIn l)) ∧ Below w.heap.size w w' := by
  have HO : Hid (∀ k, k < l.length → (M3.at' l k).k = 3 → (M3.at' l k).t < 1 → keysIn l = false) := show ∀ _, _ from fun k hk h3 h1 => by
    unfold keysIn
    rw [Bool.and_eq_false_iff]
    by_cases h0 : (M3.at' l k).t = 0
    · right
      rw [Bool.not_eq_false', List.any_eq_true]
      exact ⟨M3.at' l k, List.mem_of_getElem? (at_some hk), by simp [noKey, h0]⟩
    · left
      rw [Bool.eq_false_iff]
      intro e
      have h2 := (fits_all.1 e).1 k hk
      unfold M3.ok at h2
      rw [Bool.and_eq_true] at h2
      have := inn_true h2.1
      omega
  have HN : Hid (∀ k, k < l.length → (M3.at' l k).k ≠ 3 → keysIn l = false) := show ∀ _, _ from fun k hk h3 => by
    unfold keysIn
    rw [Bool.and_eq_false_iff]
    right
    rw [Bool.not_eq_false', List.any_eq_true]
    exact ⟨M3.at' l k, List.mem_of_getElem? (at_some hk), by simp [noKey, h3]⟩
  have HY : Hid ((∀ j, j < l.length → (M3.at' l j).k = 3 ∧ 1 ≤ (M3.at' l j).t) → keysIn l = inboxOk l) := show _ → _ from fun ha => by
    unfold keysIn
    have : l.any noKey = false := (any_at l noKey).2 fun i hi => by
      have := ha i hi
      simp only [noKey, Bool.or_eq_false_iff, bne_eq_false_iff_eq, beq_eq_false_iff_ne, ne_eq]
      omega
    rw [this]
    simp
  generalize keysIn l = r at HO HN HY ⊢
  have HS : Hid (SlF fM w v l) := h
  obtain ⟨a, cap, rfl, -, hlc, hcm, -⟩ := h
  unfold maxLen at hcm
  go_enter Try.func38, Try.ntmps38
  go_wp2_with fail
  go_loopw [3] (fun i wr => ∃ k : Nat, k ≤ l.length ∧ i = .int .i64 k ∧ wr = w ∧ ∀ j, j < k → (M3.at' l j).k = 3 ∧ 1 ≤ (M3.at' l j).t) (fun i _ => l.length - (intOf i).toNat)
  case atStart => exact ⟨0, Nat.zero_le _, rfl, rfl, fun j hj => by omega⟩
  case round =>
    obtain ⟨k, hk, rfl, rfl, hall⟩ := hrel
    by_cases hlt : k < l.length
    · obtain ⟨b, off, c, e, -, -, -⟩ := HS.out.shape (by omega)
      simp only [Value.slice.injEq] at e
      obtain ⟨rfl, -, rfl⟩ := e
      obtain ⟨tt, kk, vv, hm⟩ : ∃ tt kk vv, M3.at' l k = ⟨tt, kk, vv⟩ := ⟨_, _, _, rfl⟩
      have c1 : wr.cell? ⟨b, off + k * fM.n + 1, none⟩ = some (.int .i64 kk) := by have := HS.out.cell okM (at_some hlt) (j := 1) (by decide); rw [hm] at this; exact this
      have c0 : wr.cell? ⟨b, off + k * 3, none⟩ = some (.int .i64 tt) := by have := HS.out.cell okM (at_some hlt) (j := 0) (by decide); rw [hm] at this; exact this
      have HO1 := HO.out k hlt
      have HN1 := HN.out k hlt
      rw [hm] at HO1 HN1
      have HM : Hid (M3.at' l k = ⟨tt, kk, vv⟩) := hm
      have HA : Hid (∀ j, j < k → (M3.at' l j).k = 3 ∧ 1 ≤ (M3.at' l j).t) := hall
      clear hm hall
      by_cases h3 : kk = 3
      · subst h3
        by_cases h1 : tt < 1
        · have HR : Hid (r = false) := HO1 rfl h1
          clear HO1 HN1
          go_wp2_with (refine ixF okM (r := k) rfl rfl rfl rfl hlt ?_)
          go_ret
          exact ⟨ret_bool HR.out.symm, Below.refl _ _⟩
        · clear HO1 HN1
          go_wp2_with (refine ixF okM (r := k) rfl rfl rfl rfl hlt ?_)
          go_roundw
          case rel => exact ⟨k + 1, by omega, by go_num, by first | rfl | trivial, fun j hj => by
            by_cases e : j = k
            · rw [e, HM.out]; exact ⟨rfl, by show 1 ≤ tt; omega⟩
            · exact HA.out j (by omega)⟩
          case measure => simp [intOf]; omega
      · have HR : Hid (r = false) := HN1 h3
        clear HO1 HN1
        have hb3 : (kk != 3) = true := by simpa using h3
        go_wp2_with (refine ixF okM (r := k) rfl rfl rfl rfl hlt ?_)
        go_ret
        exact ⟨ret_bool HR.out.symm, Below.refl _ _⟩
    · have HR : Hid (r = inboxOk l) := HY.out fun j hj => hall j (by omega)
      clear hall
      go_wp2_with (go_at_call 55; refine (inboxOk_spec _ l _ HS.out).mono ?_; rintro e w1 ⟨rfl, hb1⟩)
      go_ret
      exact ⟨ret_bool HR.out.symm, hb1⟩
/-- The first of a list for which a function of the program says yes. -/
theorem indexBy_impl (F : FuncId) {fn : Func} (hf : Try.prog.funcs[F]? = some fn) (hn : (fn.name == "runtime.NumGoroutine") = false) (hb : fn.body.isNone = false) (p : M3 → Bool)
    (hp : ∀ m w, Calls Try.prog F #[m.val] w fun e w' => e = .returned (.bool (p m)) ∧ Below w.heap.size w w') (v : Value) (l : List M3) (w : World) (h : SlF fM w v l) :
    Calls Try.prog 99 #[v, fnv F] w fun e w' => ∃ z : Int, e = .returned (.int .i64 z) ∧ decide (0 ≤ z) = l.any p ∧ Below w.heap.size w w' := by
  by_cases h0 : 0 < l.length
  · obtain ⟨b, off, c, rfl, hbl, hlc, hcm⟩ := h.shape h0
    unfold maxLen at hcm
    have hG : Gi w (.slice (some ⟨b, off, none⟩) l.length c) l w := ⟨h, Below.refl _ _⟩
    clear h hbl
    go_enter Try.func99, Try.ntmps99
    go_wp2_with fail
    go_loopw [8] (fun i wr => ∃ k : Nat, k ≤ l.length ∧ i = .int .i64 k ∧ (∀ j, j < k → p (M3.at' l j) = false) ∧ Gi w (.slice (some ⟨b, off, none⟩) l.length c) l wr) (fun i _ => l.length - (intOf i).toNat)
    case atStart => exact ⟨0, Nat.zero_le _, rfl, fun j hj => by omega, hG⟩
    case round =>
      clear hG
      obtain ⟨k, hk, rfl, hall, hG⟩ := hrel
      by_cases hlt : k < l.length
      · cases hok : p (M3.at' l k)
        · have HK : Hid (∀ j, j < k + 1 → p (M3.at' l j) = false) := show ∀ _, _ from fun j hj => by
            by_cases e : j = k
            · rw [e]; exact hok
            · exact hall j (by omega)
          clear hall
          go_wp2_with (first
            | (refine ixF okM (r := k) rfl rfl rfl rfl hlt ?_)
            | (refine elF okM rfl rfl rfl (hG.sl.range okM (at_some hlt)) ?_)
            | (refine callv (args := [.tmp 15]) rfl rfl rfl hf hn hb ?_; refine (hp (M3.at' l k) _).mono ?_; rintro e w1 ⟨rfl, hb1⟩; refine ⟨_, rfl, ?_⟩; rw [hok]))
          go_roundw
          case rel => exact ⟨k + 1, by omega, by go_num, HK.out, hG.below hb1⟩
          case measure => simp [intOf]; omega
        · have HF : Hid (l.any p = true) := show _ = _ by
            rw [List.any_eq_true]
            exact ⟨M3.at' l k, List.mem_of_getElem? (at_some hlt), hok⟩
          clear hall
          go_wp2_with (first
            | (refine ixF okM (r := k) rfl rfl rfl rfl hlt ?_)
            | (refine elF okM rfl rfl rfl (hG.sl.range okM (at_some hlt)) ?_)
            | (refine callv (args := [.tmp 15]) rfl rfl rfl hf hn hb ?_; refine (hp (M3.at' l k) _).mono ?_; rintro e w1 ⟨rfl, hb1⟩; refine ⟨_, rfl, ?_⟩; rw [hok]))
          go_ret
          exact ⟨_, rfl, by rw [HF.out]; simp, below_more hG.bel hb1⟩
      · have HF : Hid (l.any p = false) := show _ = _ from (any_at l p).2 fun i hi => hall i (by omega)
        have hbel := hG.bel
        clear hall
        go_wp2
        go_ret
        exact ⟨_, rfl, by rw [HF.out]; simp, hbel⟩
  · obtain ⟨a, cap, rfl, h1⟩ := h
    have hl : l = [] := List.eq_nil_of_length_eq_zero (by omega)
    subst hl
    go_enter Try.func99, Try.ntmps99
    go_wp2_with fail
    go_loopw [8] (fun i wr => i = .int .i64 0 ∧ wr = w) (fun i _ => 0)
    case atStart => exact ⟨rfl, rfl⟩
    case round =>
      obtain ⟨rfl, rfl⟩ := hrel
      go_wp2
      go_ret
      exact ⟨_, rfl, by simp, Below.refl _ _⟩
theorem containsBy_impl (F : FuncId) {fn : Func} (hf : Try.prog.funcs[F]? = some fn) (hn : (fn.name == "runtime.NumGoroutine") = false) (hb : fn.body.isNone = false) (p : M3 → Bool)
    (hp : ∀ m w, Calls Try.prog F #[m.val] w fun e w' => e = .returned (.bool (p m)) ∧ Below w.heap.size w w') (v : Value) (l : List M3) (w : World) (h : SlF fM w v l) :
    Calls Try.prog 64 #[v, fnv F] w fun e w' => e = .returned (.bool (l.any p)) ∧ Below w.heap.size w w' := by
  obtain ⟨r, HR⟩ : ∃ r, Hid (l.any p = r) := ⟨_, show _ = _ from rfl⟩
  rw [HR.out]
  obtain ⟨fv, hfv⟩ : ∃ fv, fv = fnv F := ⟨_, rfl⟩
  rw [← hfv]
  go_enter Try.func64, Try.ntmps64
  go_wp2_with (go_at_call 99; rw [hfv]; refine (indexBy_impl F hf hn hb p hp _ _ _ h).mono ?_; rintro e w1 ⟨z, rfl, hz, hb1⟩)
  go_ret
  exact ⟨ret_bool (by rw [← HR.out, ← hz]), hb1⟩
theorem noKeys_impl (m : M3) (w : World) : Calls Try.prog 73 #[m.val] w fun e w' => e = .returned (.bool (noKey m)) ∧ Below w.heap.size w w' := by
  obtain ⟨t, k, v⟩ := m
  have hB : Hid (Below w.heap.size w (w.alloc (.cells #[.int .i64 t, .int .i64 k, .int .i64 v] 78))) := (Below.refl _ w).alloc (Nat.le_refl _) _
  rw [m3_val]
  by_cases h : k = 3
  · subst h
    have HR : Hid ((t == 0) = noKey ⟨t, 3, v⟩) := show _ = _ by simp [noKey]
    generalize noKey ⟨t, 3, v⟩ = r at HR ⊢
    go_enter Try.func73, Try.ntmps73
    go_wp2
    go_ret
    exact ⟨ret_bool HR.out, hB.out⟩
  · have hb : (k != 3) = true := by simpa using h
    have HR : Hid (true = noKey ⟨t, k, v⟩) := show _ = _ by simp [noKey, h]
    generalize noKey ⟨t, k, v⟩ = r at HR ⊢
    go_enter Try.func73, Try.ntmps73
    go_wp2
    go_ret
    exact ⟨ret_bool HR.out, hB.out⟩
theorem keysIn_impl (v : Value) (l : List M3) (w : World) (h : SlF fM w v l) :
    Calls Try.prog 42 #[v] w fun e w' => e = .returned (.bool (keysIn l)) ∧ Below w.heap.size w w' := by
  have hone := h.one
  cases hok : inboxOk l
  · have HR : Hid (false = keysIn l) := show _ = _ by simp [keysIn, hok]
    generalize keysIn l = r at HR ⊢
    go_enter Try.func42, Try.ntmps42
    go_wp2_with (go_at_call 31; refine (inboxOk_impl _ l _ h).mono ?_; rw [hok]; rintro e w1 ⟨rfl, hb1⟩)
    go_ret
    exact ⟨ret_bool HR.out, hb1⟩
  · obtain ⟨q, hq⟩ : ∃ q, l.any noKey = q := ⟨_, rfl⟩
    have HR : Hid ((!q) = keysIn l) := show _ = _ by simp [keysIn, hok, hq]
    have HQ : Hid (l.any noKey = q) := hq
    generalize keysIn l = r at HR ⊢
    clear hq
    go_enter Try.func42, Try.ntmps42
    go_wp2_with (first
      | (go_at_call 31; refine (inboxOk_impl _ l _ h).mono ?_; rw [hok]; rintro e w1 ⟨rfl, hb1⟩)
      | (go_at_call 64; refine (containsBy_impl 73 Try.func73 (by kernel_rfl) (by kernel_rfl) noKey noKeys_impl _ l _ (h.below hb1)).mono ?_; rw [HQ.out]; rintro e w2 ⟨rfl, hb2⟩))
    go_ret
    exact ⟨ret_bool HR.out, below_more hb1 hb2⟩
end Go.Proofs.Ytjjafaikaghlgaa.Mem
