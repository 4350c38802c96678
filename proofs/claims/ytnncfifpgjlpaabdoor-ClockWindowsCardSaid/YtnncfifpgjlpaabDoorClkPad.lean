/-
  Contracts of the specification's leap, year, month and padded. Condition: numbers of at most 1000000000.
-/
import Derived.Test.YtnncfifpgjlpaabDoorClkInt
set_option linter.unusedVariables false
set_option linter.unusedSimpArgs false
set_option linter.unnecessarySimpa false
namespace Go.Proofs.YtnncfifpgjlpaabDoor
open Go.RowKit Go.PlainAid

set_option maxHeartbeats 1000000 in
theorem rleap_s (y : Nat) (w : World) :
    Calls Tryd.prog 52 #[.int .i64 y] w fun e w' => e = .returned (.bool (leapN y)) ∧ w = w' := by
  have HL : Hid (leapN y = (decide (y % 4 = 0) && !decide (y % 100 = 0) || decide (y % 400 = 0))) := Lib.hid rfl
  by_cases h4 : y % 4 = 0
  · have d4 : ((y : Int) % 4 == 0) = true := by rw [beq_iff_eq]; omega
    by_cases h100 : y % 100 = 0
    · have d100 : ((y : Int) % 100 == 0) = true := by rw [beq_iff_eq]; omega
      have e100 : ((y : Int) % 100 != 0) = false := by simp [bne, d100]
      by_cases h400 : y % 400 = 0
      · have d400 : ((y : Int) % 400 == 0) = true := by rw [beq_iff_eq]; omega
        have HX := Lib.hid (show leapN y = true by rw [HL.out]; simp [h400])
        clear h4 h100 h400
        go_enter Tryd.func52, Tryd.ntmps52
        go_wp2
        go_ret
        exact ⟨by rw [HX.out]; rfl, rfl⟩
      · have d400 : ((y : Int) % 400 == 0) = false := by rw [beq_eq_false_iff_ne]; omega
        have HX := Lib.hid (show leapN y = false by rw [HL.out]; simp [h100, h400])
        clear h4 h100 h400
        go_enter Tryd.func52, Tryd.ntmps52
        go_wp2
        go_ret
        exact ⟨by rw [HX.out]; rfl, rfl⟩
    · have d100 : ((y : Int) % 100 == 0) = false := by rw [beq_eq_false_iff_ne]; omega
      have e100 : ((y : Int) % 100 != 0) = true := by simp [bne, d100]
      have HX := Lib.hid (show leapN y = true by rw [HL.out]; simp [h4, h100])
      clear h4 h100
      go_enter Tryd.func52, Tryd.ntmps52
      go_wp2
      go_ret
      exact ⟨by rw [HX.out]; rfl, rfl⟩
  · have d4 : ((y : Int) % 4 == 0) = false := by rw [beq_eq_false_iff_ne]; omega
    have d400 : ((y : Int) % 400 == 0) = false := by rw [beq_eq_false_iff_ne]; omega
    have HX := Lib.hid (show leapN y = false by rw [HL.out]; have : ¬ y % 400 = 0 := by omega
                                                simp [h4, this])
    clear h4
    go_enter Tryd.func52, Tryd.ntmps52
    go_wp2
    go_ret
    exact ⟨by rw [HX.out]; rfl, rfl⟩
theorem rleap_k (y : Nat) (r : Bool) (w : World) (h : leapN y = r) :
    Calls Tryd.prog 52 #[.int .i64 y] w fun e w' => e = .returned (.bool r) ∧ w = w' := by subst h; exact rleap_s y w


theorem ryear_k (y : Nat) (v x : Int) (w : World) (hv : v = (y : Int)) (h : ((ylen y : Nat) : Int) = x) :
    Calls Tryd.prog 41 #[.int .i64 v] w fun e w' => e = .returned (.int .i64 x) ∧ w = w' := by
  subst hv
  subst h
  cases hl : leapN y with
  | true =>
    have HX := Lib.hid (show ylen y = 366 by unfold ylen; rw [hl]; rfl)
    go_enter Tryd.func41, Tryd.ntmps41
    go_wp2_with (go_at_call 52; refine (rleap_k _ true _ hl).mono ?_; rintro e w' ⟨rfl, rfl⟩)
    go_ret
    exact ⟨by rw [HX.out]; rfl, rfl⟩
  | false =>
    have HX := Lib.hid (show ylen y = 365 by unfold ylen; rw [hl]; rfl)
    go_enter Tryd.func41, Tryd.ntmps41
    go_wp2_with (go_at_call 52; refine (rleap_k _ false _ hl).mono ?_; rintro e w' ⟨rfl, rfl⟩)
    go_ret
    exact ⟨by rw [HX.out]; rfl, rfl⟩

def monC : Array Value := #[.int .i64 31, .int .i64 28, .int .i64 31, .int .i64 30, .int .i64 31, .int .i64 30, .int .i64 31, .int .i64 31, .int .i64 30, .int .i64 31, .int .i64 30, .int .i64 31]
theorem mon_cell (w : World) (t : TypeId) (m : Nat) (h1 : 1 ≤ m) (h2 : m ≤ 12) : (w.alloc (.cells monC t)).cell? ⟨w.heap.size, m - 1, none⟩ = some (.int .i64 (mtab m : Nat)) := by
  have e : ∀ j, j < 12 → (w.alloc (.cells monC t)).cell? ⟨w.heap.size, j, none⟩ = some (.int .i64 (mtab (j + 1) : Nat)) := by
    intro j hj
    have hh : (w.alloc (.cells monC t)).heap[w.heap.size]? = some (.cells monC t) := by show (w.heap.push _)[w.heap.size]? = _; simp
    unfold World.cell?
    rw [hh]
    rcases j with _ | _ | _ | _ | _ | _ | _ | _ | _ | _ | _ | _ | j
    all_goals first | rfl | omega
  have := e (m - 1) (by omega)
  rwa [show m - 1 + 1 = m by omega] at this

set_option maxHeartbeats 2000000 in
theorem rmonth_k (y m : Nat) (v u x : Int) (w : World) (h1 : 1 ≤ m) (h2 : m ≤ 12) (hv : v = (y : Int)) (hu : u = (m : Int)) (h : ((mlen y m : Nat) : Int) = x) :
    Calls Tryd.prog 40 #[.int .i64 v, .int .i64 u] w fun e w' => e = .returned (.int .i64 x) ∧ Below w.heap.size w w' := by
  subst hv
  subst hu
  subst h
  have hc := fun W => mon_cell W 3 m h1 h2
  unfold monC at hc
  have hb := mtab_bd m h1 h2
  obtain ⟨t, ht⟩ : ∃ t, mtab m = t := ⟨_, rfl⟩
  rw [ht] at hb
  simp only [ht] at hc
  obtain ⟨hb1, hb2⟩ := hb
  have k1 : (1 : Int) ≤ (m : Int) := by omega
  have k2 : (m : Int) ≤ 12 := by omega
  have HL := Lib.hid (show mlen y m = if m = 2 ∧ leapN y = true then 29 else t by unfold mlen; rw [ht])
  by_cases hm : m = 2
  · have d2 : ((m : Int) == 2) = true := by rw [beq_iff_eq]; omega
    cases hl : leapN y with
    | true =>
      have HX := Lib.hid (show mlen y m = 29 by rw [HL.out, if_pos ⟨hm, hl⟩])
      clear hm ht
      go_enter Tryd.func40, Tryd.ntmps40
      go_wp2_with (go_at_call 52; refine (rleap_k _ true _ hl).mono ?_; rintro e w' ⟨rfl, rfl⟩)
      go_ret
      exact ⟨by rw [HX.out]; rfl, Below.refl _ _⟩
    | false =>
      have HX := Lib.hid (show mlen y m = t by rw [HL.out, if_neg (by simp [hl])])
      clear hm ht
      go_enter Tryd.func40, Tryd.ntmps40
      have hc1 := hc w
      go_wp2_with (go_at_call 52; refine (rleap_k _ false _ hl).mono ?_; rintro e w' ⟨rfl, rfl⟩)
      go_ret
      exact ⟨by rw [HX.out]; rfl, Below.alloc (Below.refl _ _) (Nat.le_refl _) _⟩
  · have d2 : ((m : Int) == 2) = false := by rw [beq_eq_false_iff_ne]; omega
    have HX := Lib.hid (show mlen y m = t by rw [HL.out, if_neg (by simp [hm])])
    clear hm ht
    go_enter Tryd.func40, Tryd.ntmps40
    have hc1 := hc w
    go_wp2_with fail
    go_ret
    exact ⟨by rw [HX.out]; rfl, Below.alloc (Below.refl _ _) (Nat.le_refl _) _⟩

def strZ : Value → Nat
  | .string s => s.size
  | _ => 0
def pads : Nat → ByteArray → ByteArray
  | 0, s => s
  | k + 1, s => ⟨#[48]⟩ ++ pads k s
theorem pads_of (l : List UInt8) : ∀ k, pads k (ofL l) = ofL (List.replicate k 48 ++ l)
  | 0 => rfl
  | k + 1 => by unfold pads; rw [pads_of l k, show (⟨#[48]⟩ : ByteArray) = ofL [48] from rfl, ofL_app]; rfl
theorem pads_size (s : ByteArray) : ∀ k, (pads k s).size = k + s.size
  | 0 => by unfold pads; omega
  | k + 1 => by unfold pads; rw [ByteArray.size_append, pads_size s k, show (⟨#[48]⟩ : ByteArray).size = 1 from rfl]; omega

set_option maxHeartbeats 2000000 in
theorem padded_s (n k : Nat) (w : World) (h : n ≤ 1000000000) (hk : k ≤ 10) :
    Calls Tryd.prog 44 #[.int .i64 n, .int .i64 k] w fun e w' => e = .returned (.string (ofL (padL n k))) ∧ Below w.heap.size w w' := by
  obtain ⟨s, HS, zs⟩ : ∃ s : ByteArray, Hid (ofL (Lib.decDigits n) = s) ∧ s.size ≤ 10 := ⟨_, Lib.hid rfl, by rw [ofL_size]; exact dec_len 9 n (by omega)⟩
  have HE := Lib.hid (show pads (k - s.size) s = ofL (padL n k) by rw [← HS.out, pads_of, ofL_size]; rfl)
  go_enter Tryd.func44, Tryd.ntmps44
  go_wp2_with fail
  refine (rint_s n _ h).mono ?_
  rintro e w1 ⟨rfl, hb1⟩
  rw [HS.out]
  go_wp2_with fail
  go_loopw [5] (fun sv wr => ∃ (j : Nat) (t : ByteArray), j ≤ k - s.size ∧ sv = .string t ∧ t.size = j + s.size ∧ Hid (t = pads j s) ∧ wr = w1) (fun sv _ => 20 - strZ sv)
  case atStart => exact ⟨0, s, Nat.zero_le _, rfl, by omega, Lib.hid rfl, rfl⟩
  case round =>
    obtain ⟨j, t, hj, rfl, zt, HT, rfl⟩ := hrel
    by_cases hlt : t.size < k
    · have g : (t.size : Int) < (k : Int) := by omega
      have HN := Lib.hid (show (⟨#[48]⟩ : ByteArray) ++ t = pads (j + 1) s by rw [HT.out]; rfl)
      have ZN : ((⟨#[48]⟩ : ByteArray) ++ t).size = j + 1 + s.size := by rw [HN.out, pads_size]
      go_wp2_with fail
      go_roundw
      case rel => exact ⟨j + 1, _, by omega, rfl, ZN, HN, trivial⟩
      case measure => show 20 - ((⟨#[48]⟩ : ByteArray) ++ t).size < 20 - t.size; rw [ZN]; omega
    · have g : ¬ (t.size : Int) < (k : Int) := by omega
      have HF := Lib.hid (show t = ofL (padL n k) by rw [HT.out, ← HE.out, show j = k - s.size by omega])
      go_wp2_with fail
      go_ret
      exact ⟨by rw [HF.out]; rfl, hb1⟩

end Go.Proofs.YtnncfifpgjlpaabDoor
