/-
  Contracts of name.unescaped, name.escaped, name.check and of the specification's value. Condition: at most 1000000000 bytes.
-/
import Derived.Test.YtdjhhofmlefaaaaDoorNamM
import Derived.Test.YtdjhhofmlefaaaaDoorFoldName
set_option linter.unusedVariables false
set_option linter.unusedSimpArgs false
set_option linter.unnecessarySimpa false
namespace Go.Proofs.YtdjhhofmlefaaaaDoor
open Go.RowKit Go.PlainAid

theorem valQ_end (s : ByteArray) (i : Nat) (h : i < s.size) (h92 : chr s i = 92) (h1 : ¬ i + 1 < s.size) : valQ (s.data.toList.drop i) = none := by
  rw [drop_chr s i h, List.drop_eq_nil_of_le (by rw [← Lib.size_eq]; omega)]
  unfold valQ; rw [if_pos h92]
theorem valQ_esc (s : ByteArray) (i : Nat) (h : i + 1 < s.size) (h92 : chr s i = 92) :
    valQ (s.data.toList.drop i) = if spec4 (chr s (i + 1)) then (valQ (s.data.toList.drop (i + 2))).map (chr s (i + 1) :: ·) else none := by
  rw [drop_chr s i (by omega), drop_chr s (i + 1) h]
  conv => lhs; unfold valQ
  rw [if_pos h92]
theorem valQ_other (s : ByteArray) (i : Nat) (h : i < s.size) (h92 : chr s i ≠ 92) :
    valQ (s.data.toList.drop i) = if spec4 (chr s i) then none else (valQ (s.data.toList.drop (i + 1))).map (chr s i :: ·) := by
  rw [drop_chr s i h]
  conv => lhs; unfold valQ
  rw [if_neg h92]
theorem valP_end (s : ByteArray) (i : Nat) (h : i < s.size) (h92 : chr s i = 92) (h1 : ¬ i + 1 < s.size) : valP (s.data.toList.drop i) = none := by
  rw [drop_chr s i h, List.drop_eq_nil_of_le (by rw [← Lib.size_eq]; omega)]
  unfold valP; rw [if_pos h92]
theorem valP_esc (s : ByteArray) (i : Nat) (h : i + 1 < s.size) (h92 : chr s i = 92) :
    valP (s.data.toList.drop i) = if spec4 (chr s (i + 1)) then (valP (s.data.toList.drop (i + 2))).map (chr s (i + 1) :: ·) else none := by
  rw [drop_chr s i (by omega), drop_chr s (i + 1) h]
  conv => lhs; unfold valP
  rw [if_pos h92]
theorem valP_other (s : ByteArray) (i : Nat) (h : i < s.size) (h92 : chr s i ≠ 92) :
    valP (s.data.toList.drop i) = if chr s i = 61 ∨ chr s i = 43 then none else (valP (s.data.toList.drop (i + 1))).map (chr s i :: ·) := by
  rw [drop_chr s i h]
  conv => lhs; unfold valP
  rw [if_neg h92]
/-- what is known at place i: what has been read, and what is left -/
def ValAt (f : List UInt8 → Option (List UInt8)) (s : ByteArray) (i : Nat) (out : List UInt8) : Prop := f s.data.toList = (f (s.data.toList.drop i)).map (out ++ ·)
theorem valAt_step {f : List UInt8 → Option (List UInt8)} {s : ByteArray} {i j : Nat} {out : List UInt8} {c : UInt8} (h : ValAt f s i out) (e : f (s.data.toList.drop i) = (f (s.data.toList.drop j)).map (c :: ·)) : ValAt f s j (out ++ [c]) := by
  unfold ValAt at *
  rw [h, e, Option.map_map]; congr 1; funext l; simp
theorem valAt_none {f : List UInt8 → Option (List UInt8)} {s : ByteArray} {i : Nat} {out : List UInt8} (h : ValAt f s i out) (e : f (s.data.toList.drop i) = none) : f s.data.toList = none := by
  unfold ValAt at *
  rw [h, e]; rfl
theorem valAt_end {f : List UInt8 → Option (List UInt8)} {s : ByteArray} {i : Nat} {out : List UInt8} (h : ValAt f s i out) (hf : f [] = some []) (hi : ¬ i < s.size) : f s.data.toList = some out := by
  unfold ValAt at *
  rw [h, List.drop_eq_nil_of_le (by rw [← Lib.size_eq]; omega), hf]; simp
def optB (o : Option (List UInt8)) : ByteArray := ofB (o.getD [])
theorem chr_92 (s : ByteArray) (i : Nat) {b : Bool} (h : (bt s i == 92) = b) : decide (chr s i = 92) = b := by
  rw [← h]; exact (bt_ne s i 92).symm

set_option maxRecDepth 100000 in
set_option maxHeartbeats 4000000 in
theorem unescaped_s (s : ByteArray) (w : World) (hs : s.size ≤ 1000000000) :
    Calls Tryd.prog 60 #[.string s] w fun e w' => e = .returned (.tuple #[.string (optB (valQ s.data.toList)), .bool (valQ s.data.toList).isSome]) ∧ Below w.heap.size w w' := by
  have hb := get_bt s
  have HN := Lib.hid (bld_new w)
  go_enter Tryd.func60, Tryd.ntmps60
  go_wp2
  go_loopw [5] (fun iv wr => ∃ (i : Nat) (out : List UInt8), i ≤ s.size ∧ iv = .int .i64 i ∧ out.length ≤ i ∧ Hid (ValAt valQ s i out) ∧ Bld w.heap.size w.heap.size out wr ∧ Below w.heap.size w wr)
    (fun iv _ => s.size - (intOf iv).toNat)
  case atStart => exact ⟨0, [], Nat.zero_le _, rfl, by simp, Lib.hid (by unfold ValAt; simp), HN.out, (Below.refl _ _).alloc (Nat.le_refl _) _⟩
  case round =>
    obtain ⟨i, out, hi, rfl, hol, HU, HB, hbel⟩ := hrel
    by_cases hlt : i < s.size
    · have HC := Lib.hid (bt_chr s i)
      cases c0 : (bt s i == 92)
      · have HM := Lib.hid (of_decide_eq_false (chr_92 s i c0))
        have HE := Lib.hid (valQ_other s i hlt HM.out)
        cases c1 : spec4 (chr s i)
        · rw [c1] at HE
          have HT := Lib.hid (valAt_step (j := i + 1) (c := chr s i) HU.out HE.out)
          go_wp2_with (go_at_call 67; refine (mark_s _ (chr s i) _ HC.out).mono ?_; rintro e w' ⟨rfl, rfl⟩; rw [c1])
          refine (writeByte_s w.heap.size w.heap.size _ (chr s i) _ _ HB HC.out (by omega) hbel.size).mono ?_
          rintro e w1 ⟨rfl, HB1, hb1⟩
          go_wp2
          go_roundw
          case rel => exact ⟨i + 1, _, by omega, by go_num, by simp; omega, HT, HB1, hbel.trans hb1⟩
          case measure => simp [intOf]; omega
        · rw [c1] at HE
          have HF := Lib.hid (valAt_none HU.out HE.out)
          go_wp2_with (go_at_call 67; refine (mark_s _ (chr s i) _ HC.out).mono ?_; rintro e w' ⟨rfl, rfl⟩; rw [c1])
          go_ret2
          exact ⟨by rw [HF.out]; rfl, hbel⟩
      · have HM := Lib.hid (of_decide_eq_true (chr_92 s i c0))
        by_cases h1 : i + 1 < s.size
        · have HE := Lib.hid (valQ_esc s i h1 HM.out)
          have HC1 := Lib.hid (bt_chr s (i + 1))
          have q1 : ((i : Int) + 1 == (s.size : Int)) = false := beq_eq_false_iff_ne.2 (by omega)
          have q2 : ((i : Int) + 1).toNat = i + 1 := by omega
          cases c1 : spec4 (chr s (i + 1))
          · rw [c1] at HE
            have HF := Lib.hid (valAt_none HU.out HE.out)
            go_wp2_with (go_at_call 67; refine (mark_s _ (chr s (i + 1)) _ HC1.out).mono ?_; rintro e w' ⟨rfl, rfl⟩; rw [c1])
            go_ret2
            exact ⟨by rw [HF.out]; rfl, hbel⟩
          · rw [c1] at HE
            have HT := Lib.hid (valAt_step (j := i + 2) (c := chr s (i + 1)) HU.out HE.out)
            go_wp2_with (go_at_call 67; refine (mark_s _ (chr s (i + 1)) _ HC1.out).mono ?_; rintro e w' ⟨rfl, rfl⟩; rw [c1])
            refine (writeByte_s w.heap.size w.heap.size _ (chr s (i + 1)) _ _ HB HC1.out (by omega) hbel.size).mono ?_
            rintro e w1 ⟨rfl, HB1, hb1⟩
            go_wp2
            go_roundw
            case rel => exact ⟨i + 2, _, by omega, by go_num, by simp; omega, HT, HB1, hbel.trans hb1⟩
            case measure => simp [intOf]; omega
        · have HF := Lib.hid (valAt_none HU.out (valQ_end s i hlt HM.out h1))
          have q1 : ((i : Int) + 1 == (s.size : Int)) = true := beq_iff_eq.2 (by omega)
          go_wp2
          go_ret2
          exact ⟨by rw [HF.out]; rfl, hbel⟩
    · have HF := Lib.hid (valAt_end HU.out rfl hlt)
      go_wp2_with (go_at_call 45; refine (string_s w.heap.size w.heap.size _ _ HB hbel.size).mono ?_; rintro e w1 ⟨rfl, hb1⟩)
      go_ret2
      exact ⟨by rw [HF.out]; rfl, hbel.trans hb1⟩

set_option maxRecDepth 100000 in
set_option maxHeartbeats 4000000 in
theorem value_s (s : ByteArray) (w : World) (hs : s.size ≤ 1000000000) :
    Calls Tryd.prog 62 #[.string s] w fun e w' => e = .returned (.tuple #[.string (optB (valP s.data.toList)), .bool (valP s.data.toList).isSome]) ∧ Below w.heap.size w w' := by
  have hb := get_bt s
  go_enter Tryd.func62, Tryd.ntmps62
  go_wp2
  go_loopw [4, 5] (fun bv iv wr => ∃ (i : Nat) (out : List UInt8), i ≤ s.size ∧ iv = .int .i64 i ∧ out.length ≤ i ∧ Hid (ValAt valP s i out) ∧ wr.ownsRow w.heap.size 5 1 bv out.length (bcells out) ∧ Below w.heap.size w wr)
    (fun _ iv _ => s.size - (intOf iv).toNat)
  case atStart => exact ⟨0, [], Nat.zero_le _, rfl, by simp, Lib.hid (by unfold ValAt; simp), World.ownsRow_nil _ _ _ _, Below.refl _ _⟩
  case round =>
    obtain ⟨i, out, hi, rfl, hol, HU, hown, hbel⟩ := hrel
    have i0 : (0 : Int) ≤ (i : Int) := by omega
    by_cases hlt : i < s.size
    · have HC := Lib.hid (bt_chr s i)
      cases c0 : (bt s i == 92)
      · have HM := Lib.hid (of_decide_eq_false (chr_92 s i c0))
        have HE := Lib.hid (valP_other s i hlt HM.out)
        have e61 : (bt s i == 61) = decide (chr s i = 61) := bt_ne s i 61
        have e43 : (bt s i == 43) = decide (chr s i = 43) := bt_ne s i 43
        by_cases d1 : chr s i = 61
        · have HF := Lib.hid (valAt_none HU.out (by rw [HE.out, if_pos (.inl d1)]))
          rw [decide_eq_true d1] at e61
          clear e43 d1
          go_wp2
          go_ret2
          exact ⟨by rw [HF.out]; rfl, hbel⟩
        · by_cases d2 : chr s i = 43
          · have HF := Lib.hid (valAt_none HU.out (by rw [HE.out, if_pos (.inr d2)]))
            rw [decide_eq_false d1] at e61
            rw [decide_eq_true d2] at e43
            clear d1 d2
            go_wp2
            go_ret2
            exact ⟨by rw [HF.out]; rfl, hbel⟩
          · have HT := Lib.hid (valAt_step (j := i + 1) (c := chr s i) HU.out (by rw [HE.out, if_neg (by rintro (h | h); exact d1 h; exact d2 h)]))
            rw [decide_eq_false d1] at e61
            rw [decide_eq_false d2] at e43
            clear d1 d2
            go_wp2_with (at_builtin; go_must (refine push_byte _ hown (.tmp 41) (.tmp 45) _ ?_ ?_ ?_ ?_ ?_ ?_ ?_; exact rfl; exact rfl; exact rfl; exact rfl; omega; exact hbel.size; intro v' w1 hown1 hb1))
            go_roundw
            case rel => exact ⟨i + 1, out ++ [chr s i], by omega, by go_num, by simp; omega, HT, by rw [List.length_append, bcells_append]; rw [HC.out] at hown1; exact hown1, hbel.trans hb1⟩
            case measure => simp [intOf]; omega
      · have HM := Lib.hid (of_decide_eq_true (chr_92 s i c0))
        by_cases h1 : i + 1 < s.size
        · have HE := Lib.hid (valP_esc s i h1 HM.out)
          have HC1 := Lib.hid (bt_chr s (i + 1))
          have q1 : decide ((s.size : Int) ≤ (i : Int) + 1) = false := decide_eq_false (by omega)
          have q2 : ((i : Int) + 1).toNat = i + 1 := by omega
          cases c1 : spec4 (chr s (i + 1))
          · rw [c1] at HE
            have HF := Lib.hid (valAt_none HU.out HE.out)
            go_wp2_with (go_at_call 50; refine (special_s _ (chr s (i + 1)) _ HC1.out).mono ?_; rintro e w' ⟨rfl, rfl⟩; rw [c1])
            go_ret2
            exact ⟨by rw [HF.out]; rfl, hbel⟩
          · rw [c1] at HE
            have HT := Lib.hid (valAt_step (j := i + 2) (c := chr s (i + 1)) HU.out HE.out)
            go_wp2_with (first
              | (go_at_call 50; refine (special_s _ (chr s (i + 1)) _ HC1.out).mono ?_; rintro e w' ⟨rfl, rfl⟩; rw [c1])
              | (at_builtin; go_must (refine push_byte _ hown (.tmp 41) (.tmp 45) _ ?_ ?_ ?_ ?_ ?_ ?_ ?_; exact rfl; exact rfl; exact rfl; exact rfl; omega; exact hbel.size; intro v' w1 hown1 hb1)))
            go_roundw
            case rel => exact ⟨i + 2, out ++ [chr s (i + 1)], by omega, by go_num, by simp; omega, HT, by rw [List.length_append, bcells_append]; rw [HC1.out] at hown1; exact hown1, hbel.trans hb1⟩
            case measure => simp [intOf]; omega
        · have HF := Lib.hid (valAt_none HU.out (valP_end s i hlt HM.out h1))
          have q1 : decide ((s.size : Int) ≤ (i : Int) + 1) = true := decide_eq_true (by omega)
          go_wp2
          go_ret2
          exact ⟨by rw [HF.out]; rfl, hbel⟩
    · have HF := Lib.hid (valAt_end HU.out rfl hlt)
      have hbk := back hown
      go_wp2
      go_ret2
      exact ⟨by rw [HF.out]; rfl, hbel⟩

theorem escV_snoc (l : List UInt8) (c : UInt8) : escV (l ++ [c]) = escV l ++ escB c := by unfold escV; simp
theorem escV_len : ∀ l : List UInt8, (escV l).length ≤ 2 * l.length
  | [] => by simp [escV]
  | c :: l => by
    have e : escV (c :: l) = escB c ++ escV l := rfl
    have := escV_len l
    rw [e, List.length_append, List.length_cons]
    unfold escB; split <;> simp <;> omega
theorem escV_step (s : ByteArray) (k : Nat) (h : k < s.size) : escV (s.data.toList.take (k + 1)) = escV (s.data.toList.take k) ++ escB (chr s k) := by rw [take_chr s k h, escV_snoc]
def escS (s : ByteArray) : ByteArray := ofB (escV s.data.toList)
theorem escS_size (s : ByteArray) : (escS s).size ≤ 2 * s.size := by unfold escS; rw [ofB_size, Lib.size_eq]; exact escV_len _

set_option maxRecDepth 100000 in
set_option maxHeartbeats 2000000 in
theorem escaped_s (s : ByteArray) (w : World) (hs : s.size ≤ 1000000000) :
    Calls Tryd.prog 43 #[.string s] w fun e w' => e = .returned (.string (escS s)) ∧ Below w.heap.size w w' := by
  have hb := get_bt s
  have HN := Lib.hid (bld_new w)
  go_enter Tryd.func43, Tryd.ntmps43
  go_wp2
  go_loopw [7] (fun i wr => ∃ k : Nat, k ≤ s.size ∧ i = .int .i64 k ∧ Bld w.heap.size w.heap.size (escV (s.data.toList.take k)) wr ∧ Below w.heap.size w wr)
    (fun i _ => s.size - (intOf i).toNat)
  case atStart => exact ⟨0, Nat.zero_le _, rfl, HN.out, (Below.refl _ _).alloc (Nat.le_refl _) _⟩
  case round =>
    obtain ⟨k, hk, rfl, HB, hbel⟩ := hrel
    have hl3 := escV_len (s.data.toList.take k)
    have hl4 : (s.data.toList.take k).length ≤ k := List.length_take_le _ _
    have HC := Lib.hid (bt_chr s k)
    by_cases hlt : k < s.size
    · have HST := Lib.hid (escV_step s k hlt)
      cases c1 : spec4 (chr s k)
      · have HST2 := Lib.hid (show escV (s.data.toList.take (k + 1)) = escV (s.data.toList.take k) ++ [chr s k] by rw [HST.out]; unfold escB; rw [c1]; rfl)
        go_wp2_with (go_at_call 67; refine (mark_s _ (chr s k) _ HC.out).mono ?_; rintro e w' ⟨rfl, rfl⟩; rw [c1])
        refine (writeByte_s w.heap.size w.heap.size _ (chr s k) _ _ HB HC.out (by omega) hbel.size).mono ?_
        rintro e w1 ⟨rfl, HB1, hb1⟩
        go_wp2
        go_roundw
        case rel => exact ⟨k + 1, by omega, by go_num, by rw [HST2.out]; exact HB1, hbel.trans hb1⟩
        case measure => simp [intOf]; omega
      · have HST2 := Lib.hid (show escV (s.data.toList.take (k + 1)) = (escV (s.data.toList.take k) ++ [92]) ++ [chr s k] by rw [HST.out]; unfold escB; rw [c1]; simp)
        go_wp2_with (go_at_call 67; refine (mark_s _ (chr s k) _ HC.out).mono ?_; rintro e w' ⟨rfl, rfl⟩; rw [c1])
        refine (writeByte_s w.heap.size w.heap.size _ 92 92 _ HB rfl (by omega) hbel.size).mono ?_
        rintro e w1 ⟨rfl, HB1, hb1⟩
        go_wp2_with fail
        refine (writeByte_s w.heap.size w.heap.size _ (chr s k) _ _ HB1 HC.out (by simp; omega) (Nat.le_trans hbel.size hb1.size)).mono ?_
        rintro e w2 ⟨rfl, HB2, hb2⟩
        go_wp2
        go_roundw
        case rel => exact ⟨k + 1, by omega, by go_num, by rw [HST2.out]; exact HB2, hbel.trans (hb1.trans hb2)⟩
        case measure => simp [intOf]; omega
    · have HT := Lib.hid (show s.data.toList.take k = s.data.toList by rw [List.take_of_length_le]; simp; omega)
      rw [HT.out] at HB
      go_wp2_with (go_at_call 45; refine (string_s w.heap.size w.heap.size _ _ HB hbel.size).mono ?_; rintro e w1 ⟨rfl, hb1⟩)
      go_ret
      exact ⟨rfl, hbel.trans hb1⟩

set_option maxRecDepth 100000 in
set_option maxHeartbeats 2000000 in
theorem check_s (p : Pr) (w : World) (h1 : p.1.size ≤ 1000000000) (h2 : p.2.size ≤ 1000000000) :
    Calls Tryd.prog 40 #[.agg #[.string p.1, .string p.2]] w fun e w' => e = .returned (.int .i64 (prE p)) ∧ Below w.heap.size w w' := by
  obtain ⟨a, b⟩ := p
  simp only at h1 h2
  cases c1 : nameB a
  · have HE := Lib.hid (show prE (a, b) = 5 by unfold prE; rw [if_pos c1])
    go_enter Tryd.func40, Tryd.ntmps40
    go_wp2_with (go_at_call 64; refine (name_s a _ h1).mono ?_; rintro e w' ⟨rfl, rfl⟩; rw [c1])
    go_ret
    exact ⟨by rw [HE.out]; rfl, (Below.refl _ _).alloc (Nat.le_refl _) _⟩
  · cases c2 : cleanB b
    · have HE := Lib.hid (show prE (a, b) = 8 by unfold prE; simp only []; rw [if_neg (by rw [c1]; decide), if_pos c2])
      go_enter Tryd.func40, Tryd.ntmps40
      go_wp2_with (first
        | (go_at_call 64; refine (name_s a _ h1).mono ?_; rintro e w' ⟨rfl, rfl⟩; rw [c1])
        | (go_at_call 65; refine (clean_s b _ h2).mono ?_; rintro e w' ⟨rfl, rfl⟩; rw [c2]))
      go_ret
      exact ⟨by rw [HE.out]; rfl, (Below.refl _ _).alloc (Nat.le_refl _) _⟩
    · have HE := Lib.hid (show prE (a, b) = 0 by unfold prE; simp only []; rw [if_neg (by rw [c1]; decide), if_neg (by rw [c2]; decide)])
      go_enter Tryd.func40, Tryd.ntmps40
      go_wp2_with (first
        | (go_at_call 64; refine (name_s a _ h1).mono ?_; rintro e w' ⟨rfl, rfl⟩; rw [c1])
        | (go_at_call 65; refine (clean_s b _ h2).mono ?_; rintro e w' ⟨rfl, rfl⟩; rw [c2]))
      go_ret
      exact ⟨by rw [HE.out]; rfl, (Below.refl _ _).alloc (Nat.le_refl _) _⟩

end Go.Proofs.YtdjhhofmlefaaaaDoor
