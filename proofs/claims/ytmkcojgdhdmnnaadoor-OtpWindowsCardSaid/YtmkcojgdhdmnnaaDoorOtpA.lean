/-
  Contracts of otp's leaves: the decimal form, the code of a counter, the form of a code, on both sides. Condition: strings of at most 1000000 bytes.
-/
import Derived.Test.YtmkcojgdhdmnnaaDoorOtpL
import Derived.Test.YtmkcojgdhdmnnaaDoorShelfD
import Derived.Laws.RangeAny
import Derived.Laws.RangeString
import Derived.Deep.QuietTactic
import Derived.BigQuiet
import Derived.Lib.MinMax
set_option maxRecDepth 100000
set_option linter.unusedVariables false
set_option linter.unusedSimpArgs false
set_option linter.unnecessarySimpa false
namespace Go.Proofs.YtmkcojgdhdmnnaaDoor
open Go.RowKit Go.PlainAid

theorem intS_size (n : Int) (h0 : -9223372036854775808 ≤ n) (h1 : n ≤ 9223372036854775807) : (intS n).size ≤ 21 := by
  unfold intS ofL
  rw [Lib.size_mk]
  have := Lib.itoa_length_le n h0 h1
  omega
theorem oint_k (n : Int) (x : ByteArray) (w : World) (h0 : -9223372036854775808 ≤ n) (h1 : n ≤ 9223372036854775807) (ho : PowOk w) (hx : intS n = x) :
    Calls Tryd.prog 42 #[.int .i64 n] w fun e w' => e = .returned (.string x) ∧ Below w.heap.size w w' := by
  have HX := Lib.hid hx
  clear hx
  go_enter Tryd.func42, Tryd.ntmps42
  go_wp2_with (go_at_call 54; refine (Tryd.strconv_Itoa n h0 h1 _ ho).mono ?_; rintro e w1 ⟨rfl, kk, os, rfl⟩)
  go_ret
  exact ⟨by rw [← HX.out]; rfl, below_grow w kk os⟩
theorem rint_k (n : Int) (x : ByteArray) (w : World) (h0 : -9223372036854775808 ≤ n) (h1 : n ≤ 9223372036854775807) (hx : intS n = x) :
    Calls Tryd.prog 35 #[.int .i64 n] w fun e w' => e = .returned (.string x) ∧ Below w.heap.size w w' := by
  subst hx; exact rint_s n w h0 h1
theorem mac_k (key s x : ByteArray) (w : World) (hk : key.size ≤ 1000000) (hs : s.size ≤ 1000000) (ho : PowOk w) (hx : macS key s = x) :
    Calls Tryd.prog 27 #[.string key, .string s] w fun e w' => e = .returned (.string x) ∧ Below w.heap.size w w' := by
  subst hx; exact mac_s key s w hk hs ho
theorem rmac_k (key s x : ByteArray) (w : World) (hk : key.size ≤ 1000000) (hs : s.size ≤ 1000000) (hx : macS key s = x) :
    Calls Tryd.prog 34 #[.string key, .string s] w fun e w' => e = .returned (.string x) ∧ w = w' := by
  subst hx; exact rmac_s key s w hk hs
theorem sum_k (s : ByteArray) (n : Nat) (w : World) (hs : s.size ≤ 1000000000) (hn : sumN s.data.toList = n) :
    Calls Tryd.prog 47 #[.string s] w fun e w' => e = .returned (.int .u64 n) ∧ w = w' := by
  subst hn; exact sum_s s w hs
theorem rsum_k (s : ByteArray) (n : Nat) (w : World) (hs : s.size ≤ 1000000000) (hn : sumN s.data.toList = n) :
    Calls Tryd.prog 33 #[.string s] w fun e w' => e = .returned (.int .u64 n) ∧ w = w' := by
  subst hn; exact rsum_s s w hs
theorem clean_k (s : ByteArray) (x : Bool) (w : World) (hs : s.size ≤ 1000000000) (hx : cleanB s = x) :
    Calls Tryd.prog 29 #[.string s] w fun e w' => e = .returned (.bool x) ∧ w = w' := by
  subst hx; exact clean_s s w hs
theorem rclean_k (s : ByteArray) (x : Bool) (w : World) (hs : s.size ≤ 1000000000) (hx : cleanB s = x) :
    Calls Tryd.prog 31 #[.string s] w fun e w' => e = .returned (.bool x) ∧ w = w' := by
  subst hx; exact rClean_s s w hs

theorem rep_zero : ∀ k, Lib.repeatL [48] k = zeroL k
  | 0 => rfl
  | k + 1 => by
    show [48] ++ Lib.repeatL [48] k = _
    rw [rep_zero k]; unfold zeroL; rw [List.replicate_succ]; rfl
theorem ofL_add (a b : List UInt8) : ofL a ++ ofL b = ofL (a ++ b) := by
  unfold ofL
  apply ByteArray.ext
  rw [ByteArray.data_append]
  simp
theorem ofL_size (a : List UInt8) : (ofL a).size = a.length := by unfold ofL; rw [Lib.size_mk]
theorem intS_nat (n : Nat) : intS (n : Int) = ofL (Lib.decDigits n) := by unfold intS; rw [Lib.itoa_nonneg]
theorem repz_k (c : Nat) (v : Int) (x : ByteArray) (w : World) (hv : v = (c : Int)) (hc : c ≤ 1000) (hx : ofL (zeroL c) = x) :
    Calls Tryd.prog 48 #[.string ⟨#[48]⟩, .int .i64 v] w fun e w' => e = .returned (.string x) ∧ Below w.heap.size w w' := by
  subst hv hx
  refine (Tryd.strings_Repeat ⟨#[48]⟩ c w (by omega) (by show 1 * c ≤ _; omega)).mono fun e w' h => ⟨?_, h.2⟩
  rw [h.1, show (⟨#[48]⟩ : ByteArray).data.toList = [48] from rfl, rep_zero]; rfl

set_option maxHeartbeats 2000000 in
theorem codeOf_s (s : ByteArray) (c : Int) (w : World) (hs : s.size ≤ 1000000) (h0 : 0 ≤ c) (h1 : c ≤ mostC) (ho : PowOk w) :
    Calls Tryd.prog 30 #[.string s, .int .i64 c] w fun e w' => e = .returned (.string (codeS s c)) ∧ Below w.heap.size w w' := by
  have HO := Lib.hid ho
  clear ho
  unfold mostC at h1
  obtain ⟨x, hx⟩ : ∃ x, intS c = x := ⟨_, rfl⟩
  have hxs : x.size ≤ 21 := by rw [← hx]; exact intS_size c (by omega) (by omega)
  obtain ⟨m, hm⟩ : ∃ m, macS s x = m := ⟨_, rfl⟩
  have hms : m.size = 16 := by rw [← hm]; exact macS_size _ _
  obtain ⟨n, hn⟩ : ∃ n, sumN m.data.toList = n := ⟨_, rfl⟩
  obtain ⟨q, hq⟩ : ∃ q, n % 1000000 = q := ⟨_, rfl⟩
  have hq6 : q < 1000000 := by rw [← hq]; exact Nat.mod_lt _ (by decide)
  have hql : (q : Int) < 1000000 := by omega
  obtain ⟨d, hd⟩ : ∃ d, intS (q : Int) = d := ⟨_, rfl⟩
  have hds : d.size ≤ 6 := by rw [← hd, intS_nat, ofL_size]; exact dec_six hq6
  obtain ⟨k, hk⟩ : ∃ k, 6 - d.size = k := ⟨_, rfl⟩
  obtain ⟨z, hz⟩ : ∃ z, ofL (zeroL k) = z := ⟨_, rfl⟩
  have hzs : z.size ≤ 6 := by rw [← hz, ofL_size]; unfold zeroL; rw [List.length_replicate]; omega
  have HE := Lib.hid (show z ++ d = codeS s c by
    unfold codeS codeN padL
    rw [hx, hm, hn, hq, ← hz, ← hk, ← hd, intS_nat, ofL_size, ofL_add])
  have HX := Lib.hid hx
  have HM := Lib.hid hm
  have HN := Lib.hid hn
  have HD := Lib.hid hd
  have HZ := Lib.hid hz
  have HK := Lib.hid (show (6 : Int) - (d.size : Int) = (k : Int) by omega)
  have hkk : k ≤ 6 := by omega
  have r1 : (n : Int) % 1000000 = (q : Int) := by rw [← hq]; rfl
  clear hx hm hn hd hz hk hq
  go_enter Tryd.func30, Tryd.ntmps30
  go_wp2_with fail
  refine (oint_k c x _ (by omega) (by omega) HO.out HX.out).mono ?_
  rintro e w1 ⟨rfl, hb⟩
  have HB := Lib.hid hb
  clear hb
  go_wp2_with fail
  refine (mac_k s x m _ (by omega) (by omega) (HO.out.below HB.out) HM.out).mono ?_
  rintro e w2 ⟨rfl, hb⟩
  have HB := Lib.hid (HB.out.trans (hb.mono HB.out.size))
  clear hb
  go_wp2_with fail
  refine (sum_k m n _ (by omega) HN.out).mono ?_
  rintro e w' ⟨rfl, rfl⟩
  go_wp2_with fail
  refine (oint_k q d _ (by omega) (by omega) (HO.out.below HB.out) HD.out).mono ?_
  rintro e w3 ⟨rfl, hb⟩
  have HB := Lib.hid (HB.out.trans (hb.mono HB.out.size))
  clear hb
  go_wp2_with fail
  refine (repz_k k _ z _ (by first | exact HK.out | (have := HK.out; omega)) (by omega) HZ.out).mono ?_
  rintro e w4 ⟨rfl, hb⟩
  have HB := Lib.hid (HB.out.trans (hb.mono HB.out.size))
  clear hb
  go_wp2_with fail
  go_ret
  exact ⟨by rw [← HE.out]; rfl, HB.out⟩

set_option maxHeartbeats 2000000 in
theorem six_s (q : Nat) (w : World) (hq : q < 1000000) :
    Calls Tryd.prog 32 #[.int .i64 q] w fun e w' => e = .returned (.string (ofL (padL q))) ∧ Below w.heap.size w w' := by
  obtain ⟨d, hd⟩ : ∃ d, intS (q : Int) = d := ⟨_, rfl⟩
  have HL := Lib.hid (dec_six hq)
  have HD := Lib.hid hd
  have HD2 := Lib.hid (show d = ofL (zeroL 0 ++ Lib.decDigits q) by rw [← hd, intS_nat]; rfl)
  clear hd
  go_enter Tryd.func32, Tryd.ntmps32
  go_wp2_with fail
  refine (rint_k q d _ (by omega) (by omega) HD.out).mono ?_
  rintro e w1 ⟨rfl, hb⟩
  have HB := Lib.hid hb
  clear hb
  go_wp2_with fail
  go_loopw [3] (fun sv wr => ∃ (k : Nat) (x : ByteArray), Hid (k + (Lib.decDigits q).length ≤ 6) ∧ sv = .string x ∧ Hid (x = ofL (zeroL k ++ Lib.decDigits q)) ∧ Hid (Below w.heap.size w wr)) (fun sv _ => match sv with | .string x => 6 - x.size | _ => 0)
  case atStart => exact ⟨0, d, Lib.hid (by have := HL.out; omega), rfl, HD2, HB⟩
  case round =>
    clear HB
    obtain ⟨k, x, HK, rfl, HX, HB⟩ := hrel
    have hxs : x.size = k + (Lib.decDigits q).length := by rw [HX.out, ofL_size, List.length_append]; unfold zeroL; rw [List.length_replicate]
    have HS := Lib.hid hxs
    by_cases hlt : x.size < 6
    · have d1 : (x.size : Int) < 6 := by omega
      have HX1 := Lib.hid (show (⟨#[48]⟩ : ByteArray) ++ x = ofL (zeroL (k + 1) ++ Lib.decDigits q) by
        rw [HX.out, show (⟨#[48]⟩ : ByteArray) = ofL [48] from rfl, ofL_add]
        unfold zeroL
        rw [List.replicate_succ]; rfl)
      have HM := Lib.hid (show ((⟨#[48]⟩ : ByteArray) ++ x).size = x.size + 1 by rw [ByteArray.size_append]; show 1 + x.size = _; omega)
      clear hxs
      go_wp2_with fail
      go_roundw
      case rel => exact ⟨k + 1, _, Lib.hid (by have := HS.out; omega), rfl, HX1, HB⟩
      case measure => have := HM.out; simp only []; omega
    · have d1 : ¬ (x.size : Int) < 6 := by omega
      have HE := Lib.hid (show x = ofL (padL q) by
        have h1 := HK.out
        rw [HX.out]
        unfold padL
        rw [show 6 - (Lib.decDigits q).length = k by omega])
      clear hxs
      go_wp2_with fail
      go_ret
      exact ⟨by rw [← HE.out]; rfl, HB.out⟩
theorem six_k (q : Nat) (x : ByteArray) (w : World) (hq : q < 1000000) (hx : ofL (padL q) = x) :
    Calls Tryd.prog 32 #[.int .i64 q] w fun e w' => e = .returned (.string x) ∧ Below w.heap.size w w' := by
  subst hx; exact six_s q w hq

/-! ### the form of a code -/
def ndP (r : Nat) : Bool := decide (r < 48) || decide (57 < r)
theorem nodig_s (r : Nat) (w : World) :
    Calls Tryd.prog 51 #[.int .i32 (r : Int)] w fun e w' => e = .returned (.bool (ndP r)) ∧ w' = w := by
  by_cases h1 : r < 48
  · have d1 : (r : Int) < 48 := by omega
    have HU := Lib.hid (show ndP r = true by unfold ndP; rw [decide_eq_true h1]; rfl)
    clear h1
    go_enter Tryd.func51, Tryd.ntmps51
    go_wp2_with fail
    go_ret
    exact ⟨by rw [HU.out]; rfl, rfl⟩
  · have d1 : ¬ (r : Int) < 48 := by omega
    by_cases h2 : 57 < r
    · have d2 : decide ((57 : Int) < (r : Int)) = true := decide_eq_true (by omega)
      have HU := Lib.hid (show ndP r = true by unfold ndP; rw [decide_eq_true h2]; simp)
      clear h1 h2
      go_enter Tryd.func51, Tryd.ntmps51
      go_wp2_with fail
      go_ret
      exact ⟨by rw [HU.out]; rfl, rfl⟩
    · have d2 : decide ((57 : Int) < (r : Int)) = false := decide_eq_false (by omega)
      have HU := Lib.hid (show ndP r = false by unfold ndP; rw [decide_eq_false h1, decide_eq_false h2]; rfl)
      clear h1 h2
      go_enter Tryd.func51, Tryd.ntmps51
      go_wp2_with fail
      go_ret
      exact ⟨by rw [HU.out]; rfl, rfl⟩
def ndB (s : ByteArray) : Bool := decide (0 ≤ Lib.idxFunc ndP true s)
theorem contains_s (s : ByteArray) (w : World) :
    Calls Tryd.prog 52 #[.string s, .func (.func 51) #[] #[]] w fun e w' => e = .returned (.bool (ndB s)) ∧ Below w.heap.size w w' :=
  Tryd.strings_ContainsFunc 51 #[] (enters_of Tryd.func51 (by kernel_rfl) rfl) ndP s w (fun W x _ => (nodig_s x W).mono fun e w' h => ⟨h.1, 0, h.2⟩)
theorem ndP_byte {s : ByteArray} {p : Nat} (h : p < s.size) : ndP (s[p]'h).toNat = !dgtI (bt s p) := by
  have hg : ((s[p]'h).toNat : Int) = bt s p := by rw [bt_at s p h]; rfl
  unfold ndP dgtI
  rw [← hg]
  by_cases h1 : (s[p]'h).toNat < 48
  · rw [decide_eq_true h1, decide_eq_false (p := (48 : Int) ≤ _) (by omega)]; rfl
  · by_cases h2 : 57 < (s[p]'h).toNat
    · rw [decide_eq_false h1, decide_eq_true h2, decide_eq_false (p := ((s[p]'h).toNat : Int) ≤ 57) (by omega)]; simp
    · rw [decide_eq_false h1, decide_eq_false h2, decide_eq_true (p := (48 : Int) ≤ _) (by omega), decide_eq_true (p := ((s[p]'h).toNat : Int) ≤ 57) (by omega)]; rfl
theorem nd_hit (s : ByteArray) : ∀ (f pos : Nat), s.size ≤ pos + f → (0 ≤ Lib.idxFuncFrom ndP true s f pos ↔ ∃ j, pos ≤ j ∧ j < s.size ∧ dgtI (bt s j) = false)
  | 0, pos, h => by
    unfold Lib.idxFuncFrom
    constructor
    · intro k; exact absurd k (by decide)
    · rintro ⟨j, h1, h2, _⟩; omega
  | f + 1, pos, h => by
    unfold Lib.idxFuncFrom
    by_cases hp : pos < s.size
    · rw [if_pos hp]
      have hg : ((s[pos]'hp).toNat : Int) = bt s pos := by rw [bt_at s pos hp]; rfl
      by_cases h128 : (s[pos]'hp).toNat < 128
      · rw [decode_ascii s pos hp h128]
        show (0 ≤ (if ndP (s[pos]'hp).toNat = true then (pos : Int) else Lib.idxFuncFrom ndP true s f (pos + 1)) ↔ _)
        rw [ndP_byte hp]
        cases hd : dgtI (bt s pos)
        · rw [if_pos (by rfl)]
          exact ⟨fun _ => ⟨pos, Nat.le_refl _, hp, hd⟩, fun _ => by omega⟩
        · rw [if_neg (by decide), nd_hit s f (pos + 1) (by omega)]
          constructor
          · rintro ⟨j, h1, h2⟩; exact ⟨j, by omega, h2⟩
          · rintro ⟨j, h1, h2, h3⟩
            by_cases e : j = pos
            · subst e; rw [hd] at h3; cases h3
            · exact ⟨j, by omega, h2, h3⟩
      · have hd := decode_high s pos hp (by omega)
        have : ndP (Utf8.decode s pos).1 = true := by unfold ndP; rw [decide_eq_true (p := 57 < _) (by omega)]; simp
        rw [if_pos this]
        refine ⟨fun _ => ⟨pos, Nat.le_refl _, hp, ?_⟩, fun _ => by omega⟩
        unfold dgtI
        rw [decide_eq_false (p := bt s pos ≤ 57) (by omega), Bool.and_false]
    · rw [if_neg hp]
      constructor
      · intro k; exact absurd k (by decide)
      · rintro ⟨j, h1, h2, _⟩; omega
theorem ndB_eq (s : ByteArray) : ndB s = !allB dgtI s := by
  unfold ndB Lib.idxFunc
  have := nd_hit s s.size 0 (by omega)
  cases h : allB dgtI s
  · rw [decide_eq_true]; · rfl
    rw [this]
    refine Classical.byContradiction fun k => ?_
    have : allB dgtI s = true := allB_true fun j hj => by
      cases hd : dgtI (bt s j)
      · exact absurd ⟨j, Nat.zero_le _, hj, hd⟩ k
      · rfl
    rw [this] at h; cases h
  · rw [decide_eq_false]; · rfl
    rw [this]
    rintro ⟨j, _, hj, hd⟩
    have := allB_iff.1 h j hj
    rw [this] at hd; cases hd
set_option maxHeartbeats 2000000 in
theorem isCode_s (s : ByteArray) (w : World) (hs : s.size ≤ 1000000000) :
    Calls Tryd.prog 37 #[.string s] w fun e w' => e = .returned (.bool (isC s)) ∧ Below w.heap.size w w' := by
  by_cases h6 : s.size = 6
  · obtain ⟨x, hx⟩ : ∃ x, ndB s = x := ⟨_, rfl⟩
    have HE := Lib.hid (show isC s = !x by unfold isC; rw [decide_eq_true h6, Bool.true_and, ← hx, ndB_eq, Bool.not_not])
    have HC := Lib.hid (fun w => show Calls Tryd.prog 52 #[.string s, .func (.func 51) #[] #[]] w fun e w' => e = .returned (.bool x) ∧ Below w.heap.size w w' by rw [← hx]; exact contains_s s w)
    have d1 : ((s.size : Int) == 6) = true := by rw [beq_iff_eq]; omega
    clear hx
    go_enter Tryd.func37, Tryd.ntmps37
    go_wp2_with fail
    refine (HC.out _).mono ?_
    rintro e w1 ⟨rfl, hb⟩
    go_wp2_with fail
    go_ret
    exact ⟨by rw [HE.out]; rfl, hb⟩
  · have HE := Lib.hid (show isC s = false by unfold isC; rw [decide_eq_false h6]; rfl)
    have d1 : ((s.size : Int) == 6) = false := by rw [beq_eq_false_iff_ne]; omega
    go_enter Tryd.func37, Tryd.ntmps37
    go_wp2_with fail
    go_ret
    exact ⟨by rw [HE.out]; rfl, Below.refl _ _⟩
theorem isCode_k (s : ByteArray) (x : Bool) (w : World) (hs : s.size ≤ 1000000000) (hx : isC s = x) :
    Calls Tryd.prog 37 #[.string s] w fun e w' => e = .returned (.bool x) ∧ Below w.heap.size w w' := by
  subst hx; exact isCode_s s w hs
set_option maxHeartbeats 2000000 in
theorem possible_s (s : ByteArray) (w : World) (hs : s.size ≤ 1000000000) :
    Calls Tryd.prog 40 #[.string s] w fun e w' => e = .returned (.bool (isC s)) ∧ w = w' := by
  have hb := get_bt s
  have HBad := Lib.hid (fun k (hk : k < s.size) (h : dgtI (bt s k) = false) => show isC s = false by unfold isC; rw [allB_false k hk h, Bool.and_false])
  have HYes := Lib.hid (fun (h : ∀ j, j < s.size → dgtI (bt s j) = true) => show isC s = decide (s.size = 6) by unfold isC; rw [allB_true h, Bool.and_true])
  obtain ⟨r, hr⟩ : ∃ r, isC s = r := ⟨_, rfl⟩
  rw [hr] at HBad HYes ⊢
  clear hr
  go_enter Tryd.func40, Tryd.ntmps40
  go_wp2
  go_loop [3] (fun i => ∃ k : Nat, k ≤ s.size ∧ i = .int .i64 k ∧ Hid (∀ j, j < k → dgtI (bt s j) = true)) (fun i => s.size - (intOf i).toNat)
  case atStart => exact ⟨0, Nat.zero_le _, rfl, Lib.hid fun j hj => absurd hj (Nat.not_lt_zero _)⟩
  case round =>
    obtain ⟨k, hk, rfl, HA⟩ := hrel
    by_cases hlt : k < s.size
    · by_cases c1 : bt s k < 48
      · have HE := Lib.hid (HBad.out k hlt (by unfold dgtI; rw [decide_eq_false (p := 48 ≤ bt s k) (by omega)]; rfl))
        go_wp2
        go_ret
        exact ⟨by rw [HE.out]; rfl, rfl⟩
      · by_cases c2 : 57 < bt s k
        · have HE := Lib.hid (HBad.out k hlt (by unfold dgtI; rw [decide_eq_false (p := bt s k ≤ 57) (by omega), Bool.and_false]))
          go_wp2
          go_ret
          exact ⟨by rw [HE.out]; rfl, rfl⟩
        · have HN := Lib.hid (all_next (p := dgtI) HA.out (by unfold dgtI; rw [decide_eq_true (p := 48 ≤ bt s k) (by omega), decide_eq_true (p := bt s k ≤ 57) (by omega)]; rfl))
          go_wp2
          go_round
          case rel => exact ⟨k + 1, by omega, by go_num, HN⟩
          case measure => simp [intOf]; omega
    · have HB : Hid (∀ j, j < s.size → dgtI (bt s j) = true) := Lib.hid (fun j hj => HA.out j (by omega))
      clear HA
      have HE := Lib.hid (HYes.out HB.out)
      by_cases h6 : s.size = 6
      · have d1 : ((s.size : Int) == 6) = true := by rw [beq_iff_eq]; omega
        have HF := Lib.hid (show r = true by rw [HE.out, decide_eq_true h6])
        clear h6
        go_wp2
        go_ret
        exact ⟨by rw [HF.out]; rfl, rfl⟩
      · have d1 : ((s.size : Int) == 6) = false := by rw [beq_eq_false_iff_ne]; omega
        have HF := Lib.hid (show r = false by rw [HE.out, decide_eq_false h6])
        go_wp2
        go_ret
        exact ⟨by rw [HF.out]; rfl, rfl⟩
theorem possible_k (s : ByteArray) (x : Bool) (w : World) (hs : s.size ≤ 1000000000) (hx : isC s = x) :
    Calls Tryd.prog 40 #[.string s] w fun e w' => e = .returned (.bool x) ∧ w = w' := by
  subst hx; exact possible_s s w hs
end Go.Proofs.YtmkcojgdhdmnnaaDoor
