/-
  Contracts of codec.escaped and codec.Unescape. Condition: at most 1000000000 bytes.
-/
import Derived.Test.YtelddbgnhfhkiabDoorCodecEsc
import Derived.Test.YtelddbgnhfhkiabDoorCodecB
set_option linter.unusedVariables false
set_option linter.unusedSimpArgs false
set_option linter.unnecessarySimpa false
namespace Go.Proofs.YtelddbgnhfhkiabDoor
open Go.RowKit Go.PlainAid

theorem hex_index (x : Int) (c : UInt8) (w : World) (hx : x = (c.toNat : Int)) :
    Calls Tryd.prog 49 #[.string ⟨#[48, 49, 50, 51, 52, 53, 54, 55, 56, 57, 65, 66, 67, 68, 69, 70]⟩, .int .u8 x] w fun e w' => e = .returned (.int .i64 (hexV c)) ∧ w = w' := by
  refine (Tryd.strings_IndexByte ⟨#[48, 49, 50, 51, 52, 53, 54, 55, 56, 57, 65, 66, 67, 68, 69, 70]⟩ x w).mono fun e w' h => ⟨?_, h.2.symm⟩
  rw [h.1]
  have e1 : x.toNat.toUInt8 = c := by subst hx; simp
  rw [e1]; rfl

theorem or_table : ∀ a : Nat, a < 16 → ∀ b : Nat, b < 16 → bits BinOp.or IntKind.i64 ((a : Int) * 16) (b : Int) % 256 = 16 * (a : Int) + (b : Int) := by decide +kernel
theorem or_hex (a b : Int) (a0 : 0 ≤ a) (a1 : a ≤ 15) (b0 : 0 ≤ b) (b1 : b ≤ 15) : bits BinOp.or IntKind.i64 (a * 16) b % 256 = 16 * a + b := by
  have := or_table a.toNat (by omega) b.toNat (by omega)
  rw [Int.toNat_of_nonneg a0, Int.toNat_of_nonneg b0] at this
  exact this

def escVal (o : Option UInt8) : Int := match o with
  | some d => (d.toNat : Int)
  | none => 0

set_option maxRecDepth 100000 in
set_option maxHeartbeats 2000000 in
theorem escaped_s (t : ByteArray) (w : World) (ht : t.size ≤ 1000000000) :
    Calls Tryd.prog 39 #[.string t] w fun e w' => e = .returned (.tuple #[.int .u8 (escVal (escO t)), .bool (escO t).isSome]) ∧ w = w' := by
  have hb := get_bt t
  by_cases h2 : t.size < 2
  · have HE := Lib.hid (show escO t = none by unfold escO; rw [if_pos h2])
    go_enter Tryd.func39, Tryd.ntmps39
    go_wp2
    go_ret2
    exact ⟨by rw [HE.out]; rfl, rfl⟩
  · have HE := Lib.hid (show escO t = decC (chr t 0) (chr t 1) by unfold escO; rw [if_neg h2])
    have r0 := hexV_le (chr t 0)
    have r1 := hexV_le (chr t 1)
    have H0 := Lib.hid (bt_chr t 0)
    have H1 := Lib.hid (bt_chr t 1)
    go_enter Tryd.func39, Tryd.ntmps39
    go_wp2_with fail
    refine (hex_index _ (chr t 0) _ H0.out).mono ?_
    rintro e w' ⟨rfl, rfl⟩
    go_wp2_with fail
    refine (hex_index _ (chr t 1) _ H1.out).mono ?_
    rintro e w' ⟨rfl, rfl⟩
    obtain ⟨v0, hv0⟩ : ∃ v, v = hexV (chr t 0) := ⟨_, rfl⟩
    obtain ⟨v1, hv1⟩ : ∃ v, v = hexV (chr t 1) := ⟨_, rfl⟩
    rw [← hv0] at r0 ⊢
    rw [← hv1] at r1 ⊢
    have HV0 := Lib.hid hv0; have HV1 := Lib.hid hv1; clear hv0 hv1
    by_cases n0 : v0 < 0
    · have HF := Lib.hid (show escO t = none by rw [HE.out]; unfold decC; rw [if_pos (.inl (by rw [← HV0.out]; exact n0))])
      go_wp2
      go_ret2
      exact ⟨by rw [HF.out]; rfl, rfl⟩
    · by_cases n1 : v1 < 0
      · have HF := Lib.hid (show escO t = none by rw [HE.out]; unfold decC; rw [if_pos (.inr (by rw [← HV1.out]; exact n1))])
        go_wp2
        go_ret2
        exact ⟨by rw [HF.out]; rfl, rfl⟩
      · go_wp2_with fail
        have hor := or_hex v0 v1 (by omega) r0.2 (by omega) r1.2
        rw [hor]
        obtain ⟨x, hxe⟩ : ∃ x, x = 16 * v0 + v1 := ⟨_, rfl⟩
        have hx0 : 0 ≤ x ∧ x ≤ 255 := by omega
        rw [← hxe]
        have HX := Lib.hid hxe; clear hxe hor
        have HD := Lib.hid (show escO t = if plainI x then none else some (UInt8.ofNat x.toNat) by
          rw [HE.out]; unfold decC; rw [if_neg (by rw [← HV0.out, ← HV1.out]; omega), ← HV0.out, ← HV1.out, ← HX.out])
        cases c : plainI x
        · have HF := Lib.hid (show escO t = some (UInt8.ofNat x.toNat) by rw [HD.out, c]; rfl)
          have HN := Lib.hid (show x = ((UInt8.ofNat x.toNat).toNat : Int) by rw [UInt8.toNat_ofNat']; omega)
          go_wp2_with (go_at_call 40; refine (plain_any _ _ hx0.1 hx0.2).mono ?_; rintro e w' ⟨rfl, rfl⟩)
          go_ret2
          refine ⟨?_, rfl⟩
          rw [HF.out]
          show Ending.returned (.tuple #[.int .u8 x, .bool true]) = Ending.returned (.tuple #[.int .u8 ((UInt8.ofNat x.toNat).toNat : Int), .bool true])
          rw [← HN.out]
        · have HF := Lib.hid (show escO t = none by rw [HD.out, c]; rfl)
          go_wp2_with (go_at_call 40; refine (plain_any _ _ hx0.1 hx0.2).mono ?_; rintro e w' ⟨rfl, rfl⟩)
          go_ret2
          exact ⟨by rw [HF.out]; rfl, rfl⟩

/-- the value that Unescape returns, and its error -/
def unS (s : ByteArray) : ByteArray := match unesc s.data.toList with
  | some l => ⟨l.toArray⟩
  | none => ⟨#[]⟩
def unE (s : ByteArray) : Int := match unesc s.data.toList with
  | some _ => 0
  | none => 4

set_option maxRecDepth 100000 in
set_option maxHeartbeats 4000000 in
theorem unescape_s (s : ByteArray) (w : World) (hs : s.size ≤ 1000000000) :
    Calls Tryd.prog 24 #[.string s] w fun e w' => e = .returned (.tuple #[.string (unS s), .int .i64 (unE s)]) ∧ Below w.heap.size w w' := by
  have hb := get_bt s
  have HN := Lib.hid (bld_new w)
  go_enter Tryd.func24, Tryd.ntmps24
  go_wp2
  go_loopw [5] (fun iv wr => ∃ (i : Nat) (out : List UInt8), i ≤ s.size ∧ iv = .int .i64 i ∧ out.length ≤ i ∧ Hid (unesc s.data.toList = (unesc (s.data.toList.drop i)).map (out ++ ·)) ∧ Bld w.heap.size w.heap.size out wr ∧ Below w.heap.size w wr)
    (fun iv _ => s.size - (intOf iv).toNat)
  case atStart => exact ⟨0, [], Nat.zero_le _, rfl, by simp, Lib.hid (by simp), HN.out, (Below.refl _ _).alloc (Nat.le_refl _) _⟩
  case round =>
    obtain ⟨i, out, hi, rfl, hol, HU, HB, hbel⟩ := hrel
    have h0 := bt_nonneg s i
    have h255 := bt_le s i
    by_cases hlt : i < s.size
    · have HD := Lib.hid (drop_chr s i hlt)
      have HC := Lib.hid (bt_chr s i)
      cases c0 : (bt s i == 37)
      · have H37 := Lib.hid (show chr s i ≠ 37 from fun e => by rw [HC.out, e] at c0; simp at c0)
        cases c1 : plainI (bt s i)
        · have HF := Lib.hid (show unesc s.data.toList = none by
            rw [HU.out, HD.out]; unfold unesc; rw [if_neg H37.out, plain_chr, c1]; rfl)
          go_wp2_with (go_at_call 40; refine (plain_any _ _ h0 h255).mono ?_; rintro e w' ⟨rfl, rfl⟩)
          go_ret2
          exact ⟨by unfold unS unE; rw [HF.out]; rfl, hbel⟩
        · have HF := Lib.hid (show unesc s.data.toList = (unesc (s.data.toList.drop (i + 1))).map ((out ++ [chr s i]) ++ ·) by
            rw [HU.out, HD.out]; conv => lhs; arg 2; unfold unesc
            rw [if_neg H37.out, plain_chr, c1, if_pos rfl, Option.map_map]; congr 1; funext l; simp)
          go_wp2_with (go_at_call 40; refine (plain_any _ _ h0 h255).mono ?_; rintro e w' ⟨rfl, rfl⟩)
          refine (writeByte_s w.heap.size w.heap.size _ (chr s i) _ _ HB HC.out (by omega) hbel.size).mono ?_
          rintro e w1 ⟨rfl, HB1, hb1⟩
          go_wp2
          go_roundw
          case rel => exact ⟨i + 1, _, by omega, by go_num, by simp; omega, HF, HB1, hbel.trans hb1⟩
          case measure => simp [intOf]; omega
      · have H37 := Lib.hid (show chr s i = 37 from by
          have : bt s i = 37 := by simpa using c0
          rw [HC.out] at this; exact UInt8.toNat_inj.1 (by have h3 : (37 : UInt8).toNat = 37 := rfl; omega))
        have hse : (s.extract (i + 1) s.size) = dr s (i + 1) := Lib.extract_from s (i + 1)
        have hds := dr_size s (i + 1)
        have HE := Lib.hid (unesc_pct s i hlt H37.out)
        cases c1 : escO (dr s (i + 1)) with
        | none =>
          have HF := Lib.hid (show unesc s.data.toList = none by rw [HU.out, HE.out, c1]; rfl)
          go_wp2_with (go_at_call 39; refine (escaped_s _ _ ?_).mono ?_; (omega); rintro e w' ⟨rfl, rfl⟩)
          go_ret2
          exact ⟨by unfold unS unE; rw [HF.out]; rfl, hbel⟩
        | some d =>
          have HF := Lib.hid (show unesc s.data.toList = (unesc (s.data.toList.drop (i + 3))).map ((out ++ [d]) ++ ·) by
            rw [HU.out, HE.out, c1]; show Option.map _ (Option.map _ _) = _; rw [Option.map_map]; congr 1; funext l; simp)
          have h3 : i + 3 ≤ s.size := by
            have : ¬ (dr s (i + 1)).size < 2 := fun h => by unfold escO at c1; rw [if_pos h] at c1; cases c1
            rw [dr_size] at this; omega
          go_wp2_with (go_at_call 39; refine (escaped_s _ _ ?_).mono ?_; (omega); rintro e w' ⟨rfl, rfl⟩)
          refine (writeByte_s w.heap.size w.heap.size _ d _ _ HB rfl (by omega) hbel.size).mono ?_
          rintro e w1 ⟨rfl, HB1, hb1⟩
          go_wp2
          go_roundw
          case rel => exact ⟨i + 3, _, by omega, by go_num, by simp; omega, HF, HB1, hbel.trans hb1⟩
          case measure => simp [intOf]; omega
    · have HF := Lib.hid (show unesc s.data.toList = some out by
        rw [HU.out, List.drop_eq_nil_of_le (by rw [← Lib.size_eq]; omega)]; simp [unesc])
      go_wp2_with (go_at_call 33; refine (string_s w.heap.size w.heap.size _ _ HB hbel.size).mono ?_; rintro e w1 ⟨rfl, hb1⟩)
      go_ret2
      exact ⟨by unfold unS unE; rw [HF.out]; rfl, hbel.trans hb1⟩

end Go.Proofs.YtelddbgnhfhkiabDoor
