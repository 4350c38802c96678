/-
  Contracts of the specification's Int and padded and of clock's digits, at numbers that are not negative. Condition: at most 1000000000; the library's table of powers lies as the program's text lays it.
-/
import Derived.Test.YtnncfifpgjlpaabDoorClkFrom
import Derived.Test.YtnncfifpgjlpaabDoorShelfK
import Derived.Test.YtnncfifpgjlpaabDoorCodecA
import Derived.Lib.LaidTab
import Derived.Lib.ItoaLen
import Derived.Deep.RegionHeld3
import Derived.Deep.AppendLies
set_option linter.unusedVariables false
set_option linter.unusedSimpArgs false
set_option linter.unnecessarySimpa false
namespace Go.Proofs.YtnncfifpgjlpaabDoor
open Go.RowKit Go.PlainAid

def PowOk (w : World) : Prop := Lib.TabIs Tryd.prog w "internal/strconv.uint64pow10" .u64 Lib.pow10Tab
theorem var_below {w w' : World} {B : Nat} {n : String} {cs : Array Value} (h : w.var? Tryd.prog n = some cs) (hb : Below B w w') (hB : w.heap.size ≤ B) : w'.var? Tryd.prog n = some cs := by
  unfold World.var? at h ⊢
  cases hg : Tryd.prog.globalNamed n with
  | none => rw [hg] at h; cases h
  | some g =>
    rw [hg] at h
    simp only [Option.bind_some] at h ⊢
    have hlt : g < w.heap.size := by
      rcases Nat.lt_or_ge g w.heap.size with k | k
      · exact k
      · rw [Array.getElem?_eq_none k] at h; cases h
    rw [hb.block g (by omega)]
    exact h
theorem PowOk.below {w w' : World} (h : PowOk w) (hb : Below w.heap.size w w') : PowOk w' := var_below h hb (Nat.le_refl _)
def ofL (l : List UInt8) : ByteArray := ⟨l.toArray⟩
theorem ofL_size (l : List UInt8) : (ofL l).size = l.length := by unfold ofL; rw [Lib.size_mk]
theorem ofL_app (a b : List UInt8) : ofL a ++ ofL b = ofL (a ++ b) := by apply ByteArray.ext; rw [ByteArray.data_append]; simp [ofL]
theorem dec_len : ∀ (k n : Nat), n < 10 ^ (k + 1) → (Lib.decDigits n).length ≤ k + 1
  | 0, n, h => by
    rw [Lib.decDigits, dif_pos (by simpa using h)]; simp
  | k + 1, n, h => by
    rw [Lib.decDigits]
    split
    · simp
    · rw [List.length_append]
      have := dec_len k (n / 10) (by rw [Nat.pow_succ] at h; omega)
      simp; omega
/-- a number with at least k digits -/
def padL (n k : Nat) : List UInt8 := List.replicate (k - (Lib.decDigits n).length) 48 ++ Lib.decDigits n
theorem padL_len (n k : Nat) (h : n ≤ 1000000000) (hk : k ≤ 10) : (padL n k).length ≤ 10 := by
  have := dec_len 9 n (by omega)
  unfold padL; rw [List.length_append, List.length_replicate]; omega
theorem repeat_zero : ∀ c, Lib.repeatL [48] c = List.replicate c 48
  | 0 => rfl
  | c + 1 => by rw [Lib.repeatL, repeat_zero c, List.replicate_succ]; rfl

set_option maxHeartbeats 1000000 in
theorem int_s (n : Nat) (w : World) (h : n ≤ 1000000000) (ho : PowOk w) :
    Calls Tryd.prog 55 #[.int .i64 n] w fun e w' => e = .returned (.string (ofL (Lib.decDigits n))) ∧ Below w.heap.size w w' := by
  have HO := Lib.hid ho; clear ho
  have HI : Hid (Lib.itoa (n : Int) = Lib.decDigits n) := Lib.hid (Lib.itoa_nonneg n)
  go_enter Tryd.func55, Tryd.ntmps55
  go_wp2_with (go_at_call 62; refine (Tryd.strconv_Itoa (n : Int) (by omega) (by omega) _ HO.out).mono ?_; rintro e w1 ⟨rfl, kk, os, rfl⟩)
  go_ret
  exact ⟨by unfold ofL; rw [← HI.out]; rfl, below_grown w kk os⟩

set_option maxHeartbeats 2000000 in
theorem digits_s (n k : Nat) (w : World) (h : n ≤ 1000000000) (hk : k ≤ 10) (ho : PowOk w) :
    Calls Tryd.prog 43 #[.int .i64 n, .int .i64 k] w fun e w' => e = .returned (.string (ofL (padL n k))) ∧ Below w.heap.size w w' := by
  have HO := Lib.hid ho; clear ho
  obtain ⟨s, HS, zs⟩ : ∃ s : ByteArray, Hid (ofL (Lib.decDigits n) = s) ∧ s.size ≤ 10 := ⟨_, Lib.hid rfl, by rw [ofL_size]; exact dec_len 9 n (by omega)⟩
  obtain ⟨c, HC, hc⟩ : ∃ c : Nat, Hid (c = k - s.size) ∧ c ≤ 10 := ⟨_, Lib.hid rfl, by omega⟩
  have hmax : max ((k : Int) - (s.size : Int)) 0 = (c : Int) := by have := HC.out; omega
  have HP := Lib.hid (show (⟨(Lib.repeatL [48] c).toArray⟩ : ByteArray) ++ s = ofL (padL n k) by
    rw [repeat_zero, ← HS.out, HC.out, ← HS.out, ofL_size]
    exact ofL_app _ _)
  have zr : (⟨(Lib.repeatL [48] c).toArray⟩ : ByteArray).size ≤ 10 := by rw [Lib.size_mk, repeat_zero, List.length_replicate]; exact hc
  go_enter Tryd.func43, Tryd.ntmps43
  go_wp2_with fail
  refine (int_s n _ h HO.out).mono ?_
  rintro e w1 ⟨rfl, hb1⟩
  rw [HS.out]
  go_wp2_with fail
  refine (Tryd.strings_Repeat ⟨#[48]⟩ c _ (by omega) (by rw [show (⟨#[48]⟩ : ByteArray).size = 1 from rfl]; omega)).mono ?_
  rintro e w2 ⟨rfl, hb2⟩
  go_wp2_with fail
  go_ret
  exact ⟨by rw [← HP.out]; rfl, hb1.trans (hb2.mono hb1.size)⟩


/-- u digits left in front of what is written -/
def IntAt (u0 u : Nat) (o : List UInt8) : Prop := (u = 0 ∧ o = Lib.decDigits u0) ∨ (1 ≤ u ∧ Lib.decDigits u ++ o = Lib.decDigits u0)
theorem intAt_start (u0 : Nat) (h : 1 ≤ u0) : IntAt u0 u0 [] := .inr ⟨h, by simp⟩
theorem intAt_step {u0 u : Nat} {o : List UInt8} (h : IntAt u0 u o) (h1 : 1 ≤ u) : IntAt u0 (u / 10) (UInt8.ofNat (48 + u % 10) :: o) := by
  rcases h with ⟨h2, _⟩ | ⟨_, h2⟩
  · omega
  · by_cases h3 : u < 10
    · rw [Lib.decDigits, dif_pos h3] at h2
      refine .inl ⟨by omega, ?_⟩
      rw [show u % 10 = u by omega]; exact h2
    · rw [Lib.decDigits, dif_neg h3] at h2
      refine .inr ⟨by omega, ?_⟩
      rw [← h2, List.append_assoc]; rfl
theorem intAt_end {u0 : Nat} {o : List UInt8} (h : IntAt u0 0 o) : o = Lib.decDigits u0 := by
  rcases h with ⟨_, h⟩ | ⟨h, _⟩
  · exact h
  · omega
theorem intAt_len {u0 u : Nat} {o : List UInt8} (h : IntAt u0 u o) (hu : u0 < 18446744073709551616) : o.length ≤ 20 := by
  have h2 := Lib.nDigits_le20 u0 hu
  rw [← Lib.decDigits_length] at h2
  rcases h with ⟨_, h⟩ | ⟨_, h⟩
  · rw [h]; exact h2
  · have := congrArg List.length h
    rw [List.length_append] at this
    omega
theorem one_back (wr : World) (b : UInt8) (c : Int) (hc : c = (b.toNat : Int)) :
    (convert 72 9 (.slice (some ⟨wr.heap.size, 0, none⟩) 1 1)).run Tryd.prog (wr.alloc (.cells #[.int .u8 c] 5)) = .ok (.string ⟨#[b]⟩) (wr.alloc (.cells #[.int .u8 c] 5)) := by
  subst hc
  exact run_convert_bytes_back (wr.alloc (.cells #[.int .u8 (b.toNat : Int)] 5)) _ _ _ ⟨wr.heap.size, 0, none⟩ 1 [b] Tryd.underlying72 Tryd.underlying5 Tryd.underlying9
    (fun j hj => by
      have hj0 : j = 0 := by simp at hj; omega
      subst hj0
      exact cell_one_new wr _ _ 0 _ rfl)
set_option maxRecDepth 100000 in
set_option maxHeartbeats 4000000 in
theorem rint_s (u0 : Nat) (w : World) (hu1 : u0 ≤ 1000000000) :
    Calls Tryd.prog 57 #[.int .i64 u0] w fun e w' => e = .returned (.string (ofL (Lib.decDigits u0))) ∧ Below w.heap.size w w' := by
  by_cases hz : u0 = 0
  · subst hz
    have HE := Lib.hid (show Lib.decDigits 0 = [48] by rw [Lib.decDigits, dif_pos (by omega)]; rfl)
    go_enter Tryd.func57, Tryd.ntmps57
    go_wp2
    go_ret
    exact ⟨by rw [HE.out]; rfl, Below.refl _ _⟩
  · have hne : ((u0 : Int) == 0) = false := beq_false_of_ne (by omega)
    have hu0 : u0 < 18446744073709551616 := by omega
    go_enter Tryd.func57, Tryd.ntmps57
    go_wp2_with fail
    go_loopw [3, 4] (fun o m wr => ∃ (u : Nat) (l : List UInt8), u ≤ u0 ∧ m = .int .i64 (u : Int) ∧ o = .string (ofL l) ∧ Hid (IntAt u0 u l) ∧ (ofL l).size ≤ 20 ∧ Below w.heap.size w wr) (fun _ m _ => (intOf m).natAbs)
    case atStart => exact ⟨u0, [], Nat.le_refl _, rfl, rfl, Lib.hid (intAt_start u0 (by omega)), Nat.zero_le _, Below.refl _ _⟩
    case round =>
      obtain ⟨u, l, hu, rfl, rfl, HI, hl, hbel⟩ := hrel
      by_cases hu2 : u = 0
      · subst hu2
        have HF := Lib.hid (intAt_end HI.out)
        have hm : ((((0 : Nat) : Int)) != 0) = false := rfl
        go_wp2
        go_ret
        exact ⟨by rw [HF.out]; rfl, hbel⟩
      · have hm : ((u : Int) != 0) = true := by simp; omega
        have HS := Lib.hid (intAt_step HI.out (by omega))
        have HL := Lib.hid (intAt_len HS.out hu0)
        obtain ⟨d, hd⟩ : ∃ d, d = u % 10 := ⟨_, rfl⟩
        obtain ⟨q, hq⟩ : ∃ q, q = u / 10 := ⟨_, rfl⟩
        have r1 : (u : Int).tmod 10 = (d : Int) := by rw [Int.tmod_eq_emod_of_nonneg (by omega)]; omega
        have r2 : (u : Int).tdiv 10 = (q : Int) := by rw [Int.tdiv_eq_ediv_of_nonneg (by omega)]; omega
        have hd9 : d ≤ 9 := by omega
        have hqu : q < u := by omega
        have HD := Lib.hid (show (⟨#[UInt8.ofNat (48 + d)]⟩ : ByteArray) ++ ofL l = ofL (UInt8.ofNat (48 + u % 10) :: l) by
          rw [← hd]; apply ByteArray.ext; rw [ByteArray.data_append]; simp [ofL])
        have HQ := Lib.hid hq
        clear hq
        have hneg : ¬ (d : Int) < 0 := by omega
        have hw : IntKind.u8.wrap (48 + (d : Int)) = 48 + (d : Int) := IntWalk.u8_in _ (by omega)
        obtain ⟨c, hc⟩ : ∃ c, c = UInt8.ofNat (48 + d) := ⟨_, rfl⟩
        rw [← hc] at HD
        have hbk := one_back wr c (48 + (d : Int)) (by rw [hc, UInt8.toNat_ofNat']; omega)
        clear hd hc
        go_wp2
        go_roundw
        case rel => exact ⟨q, UInt8.ofNat (48 + u % 10) :: l, by omega, rfl, by rw [HD.out], Lib.hid (by rw [HQ.out]; exact HS.out), HL.out, hbel.alloc hbel.size _⟩
        case measure => simp [intOf]; omega


end Go.Proofs.YtnncfifpgjlpaabDoor
