/-
  Texts of the schema layer and of those beneath it, joined: CodecInt, CodecIntP, CodecRInt, CodecRInt2, CodecP, CodecUn. Conditions stand at each contract.
-/
import Derived.Lib.AtoiAllCases
import Derived.Lib.LaidTab
import Derived.Lib.ItoaLen
import Derived.Test.YtgepcbggkfjlgaaGreatDoorM02

section
/-
  What strconv's Itoa and Atoi ask of the world, and the contracts of codec.Int and codec.ReadInt. Condition: the library's table of powers and its error lie as the program's text lays them; at most 1000000000 bytes.
-/
set_option maxRecDepth 100000
set_option linter.unusedVariables false
set_option linter.unusedSimpArgs false
set_option linter.unnecessarySimpa false
namespace Go.Proofs.YtgepcbggkfjlgaaGreatDoor
open Go.RowKit Go.PlainAid

def IntOk (w : World) : Prop := Lib.TabIs Tryz.prog w "internal/strconv.uint64pow10" .u64 Lib.pow10Tab ∧ ∃ tp p, w.var? Tryz.prog "strconv.ErrRange" = some #[.iface tp p]
theorem var_below {w w' : World} {B : Nat} {n : String} {cs : Array Value} (h : w.var? Tryz.prog n = some cs) (hb : Below B w w') (hB : w.heap.size ≤ B) : w'.var? Tryz.prog n = some cs := by
  unfold World.var? at h ⊢
  cases hg : Tryz.prog.globalNamed n with
  | none => rw [hg] at h; cases h
  | some g =>
    rw [hg] at h
    simp only [Option.bind_some] at h ⊢
    have hlt : g < w.heap.size := by
      rcases Nat.lt_or_ge g w.heap.size with k | k
      · exact k
      · rw [Array.getElem?_eq_none k] at h; cases h
    rw [hb.block g (by omega)]
    exact h
theorem IntOk.below {w w' : World} (h : IntOk w) (hb : Below w.heap.size w w') : IntOk w' :=
  ⟨var_below h.1 hb (Nat.le_refl _), by obtain ⟨tp, p, e⟩ := h.2; exact ⟨tp, p, var_below e hb (Nat.le_refl _)⟩⟩

theorem below_bw (w : World) (e : TypeId) (s : ByteArray) : Below w.heap.size w (Lib.bytesWorld w e s) :=
  ⟨rfl, rfl, rfl, by rw [Lib.bytesWorld_size]; omega, fun j hj => Lib.bytesWorld_at_old w e s j hj⟩
theorem below_grow (w : World) (k : Nat) (os : Array Obj) : Below w.heap.size w (Go.Sort.grow (w.drewN k) os) :=
  ⟨rfl, rfl, rfl, by simp [Go.Sort.grow], fun j hj => by simp [Go.Sort.grow, Array.getElem?_append, hj]⟩
theorem atoi_ok (s : ByteArray) (v : Int) (w : World) (hs : s.size ≤ 1000000000) (h : Lib.atoiAll s.data.toList = .ok v) :
    Calls Tryz.prog 123 #[.string s] w fun e w' => e = .returned (.tuple #[.int .i64 v, .nilIface]) ∧ Below w.heap.size w w' :=
  (Tryz.strconv_Atoi_ok s (by omega) v h w).mono fun e w' k => ⟨k.1, by
    rcases k.2 with rfl | ⟨t, rfl⟩
    · exact Below.refl _ _
    · exact below_bw _ _ _⟩
theorem atoi_range (s : ByteArray) (w : World) (hs : s.size ≤ 1000000000) (h : Lib.atoiAll s.data.toList = .range) (ho : IntOk w) :
    Calls Tryz.prog 123 #[.string s] w fun e w' => (∃ (n : Int) (t : TypeId) (N : Nat), e = .returned (.tuple #[.int .i64 n, .iface t (.pointer (some ⟨N, 0, none⟩))])) ∧ Below w.heap.size w w' := by
  obtain ⟨_, tp, p, hv⟩ := ho
  refine (Tryz.strconv_Atoi_range_var s (by omega) h tp p w hv).mono fun e w' ⟨N, h1, h2, h3, h4⟩ => ⟨⟨_, _, N, h1⟩, h4⟩
theorem itoa_s (n : Int) (w : World) (h0 : -9223372036854775808 ≤ n) (h1 : n ≤ 9223372036854775807) (ho : IntOk w) :
    Calls Tryz.prog 95 #[.int .i64 n] w fun e w' => e = .returned (.string (ofL (Lib.itoa n))) ∧ Below w.heap.size w w' :=
  (Tryz.strconv_Itoa n h0 h1 w ho.1).mono fun e w' ⟨k1, k, os, k2⟩ => ⟨k1, by rw [k2]; exact below_grow w k os⟩

/-- a parse that ends in a number or out of range -/
def Fair {α : Type} (x : Lib.NumEnd α) : Prop := (∃ v, x = .ok v) ∨ x = .range
theorem parse_digits : ∀ (l : List UInt8) (acc : Nat), l.all digB = true → Fair (Lib.parseUint10 acc l)
  | [], acc, _ => .inl ⟨acc, rfl⟩
  | c :: r, acc, h => by
    rw [List.all_cons, Bool.and_eq_true] at h
    have hc : 48 ≤ c.toNat ∧ c.toNat ≤ 57 := by simpa [digB] using h.1
    unfold Lib.parseUint10
    rw [if_pos hc]
    split
    · exact .inr rfl
    · split
      · exact .inr rfl
      · exact parse_digits r _ h.2
theorem mag_digits {l : List UInt8} (h : digsB l = true) : Fair (Lib.parseMag l) := by
  cases l with
  | nil => cases h
  | cons c r =>
    unfold digsB at h
    rw [Bool.and_eq_true] at h
    unfold Lib.parseMag
    rw [if_neg (by simp)]
    exact parse_digits _ _ h.2
theorem signless_fair {x : Lib.NumEnd Nat} (h : Fair x) : Fair (Lib.signless x) := by
  rcases h with ⟨v, rfl⟩ | rfl
  · unfold Lib.signless; dsimp only; split
    · exact .inr rfl
    · exact .inl ⟨_, rfl⟩
  · exact .inr rfl
theorem signed_fair {x : Lib.NumEnd Nat} (h : Fair x) : Fair (Lib.signed x) := by
  rcases h with ⟨v, rfl⟩ | rfl
  · unfold Lib.signed; dsimp only; split
    · exact .inr rfl
    · exact .inl ⟨_, rfl⟩
  · exact .inr rfl
theorem strip_minus (r : List UInt8) : stripL (45 :: r) = r := by simp [stripL, Lib.trimPrefix, Lib.hasPrefix]
theorem strip_plain (c : UInt8) (r : List UInt8) (h : c ≠ 45) : stripL (c :: r) = c :: r := by
  unfold stripL Lib.trimPrefix Lib.hasPrefix
  rw [if_neg]
  simp only [List.isPrefixOf, Bool.and_eq_true, beq_iff_eq]
  rintro ⟨e, _⟩; exact h e.symm
theorem dec_atoi {l : List UInt8} (h : decB l = true) : Fair (Lib.atoiAll l) := by
  unfold decB at h
  rw [Bool.or_eq_true] at h
  rcases h with h | h
  · have : l = [48] := by simpa using h
    rw [this]; exact .inl ⟨0, by decide⟩
  · cases l with
    | nil => cases h
    | cons c r =>
      by_cases hc : c = 45
      · subst hc
        rw [strip_minus] at h
        rw [Lib.atoiAll_minus]
        exact signed_fair (mag_digits h)
      · rw [strip_plain c r hc] at h
        have hd : digB c = true := by
          unfold digsB at h
          simp only [Bool.and_eq_true, List.all_cons] at h
          exact h.2.1
        have h2 : 48 ≤ c.toNat ∧ c.toNat ≤ 57 := by simpa [digB] using hd
        rw [Lib.atoiAll_plain c r (by omega) (by omega)]
        exact signless_fair (mag_digits h)
/-- what ReadInt returns -/
def readI (l : List UInt8) : Int × Int := if decB l then (match Lib.atoiAll l with
  | .ok v => (v, 0)
  | _ => (0, 27)) else (0, 4)

set_option maxRecDepth 100000 in
set_option maxHeartbeats 2000000 in
theorem readInt_s (s : ByteArray) (w : World) (hs : s.size ≤ 1000000000) (ho : IntOk w) :
    Calls Tryz.prog 101 #[.string s] w fun e w' => e = .returned (.tuple #[.int .i64 (readI s.data.toList).1, .int .i64 (readI s.data.toList).2]) ∧ Below w.heap.size w w' := by
  have HO := Lib.hid ho; clear ho
  cases hd : decB s.data.toList
  · have HE := Lib.hid (show readI s.data.toList = (0, 4) by unfold readI; rw [hd]; rfl)
    go_enter Tryz.func101, Tryz.ntmps101
    go_wp2_with (go_at_call 122; refine (decimal_s _ _ hs).mono ?_; rintro e w1 ⟨rfl, hb1⟩; rw [hd])
    go_ret2
    exact ⟨by rw [HE.out]; rfl, hb1⟩
  · rcases dec_atoi hd with ⟨v, ha⟩ | ha
    · have HE := Lib.hid (show readI s.data.toList = (v, 0) by unfold readI; rw [hd, ha]; rfl)
      have HA := Lib.hid ha; clear ha
      go_enter Tryz.func101, Tryz.ntmps101
      go_wp2_with (first
        | (go_at_call 122; refine (decimal_s _ _ hs).mono ?_; rintro e w1 ⟨rfl, hb1⟩; rw [hd])
        | (go_at_call 123; refine (atoi_ok s v _ hs HA.out).mono ?_; rintro e w2 ⟨rfl, hb2⟩))
      go_ret2
      exact ⟨by rw [HE.out]; rfl, hb1.trans (hb2.mono hb1.size)⟩
    · have HE := Lib.hid (show readI s.data.toList = (0, 27) by unfold readI; rw [hd, ha]; rfl)
      have HA := Lib.hid ha; clear ha
      go_enter Tryz.func101, Tryz.ntmps101
      go_wp2_with (first
        | (go_at_call 122; refine (decimal_s _ _ hs).mono ?_; rintro e w1 ⟨rfl, hb1⟩; rw [hd])
        | (go_at_call 123; refine (atoi_range s _ hs HA.out (HO.out.below hb1)).mono ?_; rintro e w2 ⟨⟨n, t, N, rfl⟩, hb2⟩))
      go_ret2
      exact ⟨by rw [HE.out]; rfl, hb1.trans (hb2.mono hb1.size)⟩

set_option maxRecDepth 100000 in
theorem int_s (n : Int) (w : World) (h0 : -9223372036854775808 ≤ n) (h1 : n ≤ 9223372036854775807) (ho : IntOk w) :
    Calls Tryz.prog 74 #[.int .i64 n] w fun e w' => e = .returned (.string (ofL (Lib.itoa n))) ∧ Below w.heap.size w w' := by
  have HO := Lib.hid ho; clear ho
  go_enter Tryz.func74, Tryz.ntmps74
  go_wp2_with (go_at_call 95; refine (itoa_s n _ h0 h1 HO.out).mono ?_; rintro e w1 ⟨rfl, hb1⟩)
  go_ret
  exact ⟨rfl, hb1⟩

end Go.Proofs.YtgepcbggkfjlgaaGreatDoor
end

section
/-
  Decimal numerals and their values: what ReadInt returns, by the value of the digits. No condition.
-/
set_option maxRecDepth 100000
set_option linter.unusedVariables false
set_option linter.unusedSimpArgs false
set_option linter.unnecessarySimpa false
namespace Go.Proofs.YtgepcbggkfjlgaaGreatDoor

/-- the value of digits behind acc -/
def valA (acc : Nat) (l : List UInt8) : Nat := l.foldl (fun a c => 10 * a + (c.toNat - 48)) acc
def valD (l : List UInt8) : Nat := valA 0 l
theorem valA_cons (a : Nat) (c : UInt8) (l : List UInt8) : valA a (c :: l) = valA (10 * a + (c.toNat - 48)) l := by
  unfold valA
  rw [List.foldl_cons]
theorem valD_snoc (l : List UInt8) (c : UInt8) : valD (l ++ [c]) = 10 * valD l + (c.toNat - 48) := by
  unfold valD valA
  rw [List.foldl_append, List.foldl_cons, List.foldl_nil]
theorem valA_ge : ∀ (l : List UInt8) (a : Nat), a ≤ valA a l
  | [], a => Nat.le_refl _
  | c :: l, a => by rw [valA_cons]; exact Nat.le_trans (by omega) (valA_ge l _)
theorem valA_mono : ∀ (l : List UInt8) (a b : Nat), a ≤ b → valA a l ≤ valA b l
  | [], a, b, h => h
  | c :: l, a, b, h => by rw [valA_cons, valA_cons]; exact valA_mono l _ _ (by omega)
theorem valD_take_le (l : List UInt8) (k : Nat) : valD (l.take k) ≤ valD l := by
  have h : valD l = valA (valD (l.take k)) (l.drop k) := by
    unfold valD valA
    rw [← List.foldl_append, List.take_append_drop]
  rw [h]; exact valA_ge _ _
theorem digB_bounds {c : UInt8} (h : digB c = true) : 48 ≤ c.toNat ∧ c.toNat ≤ 57 := by simpa [digB] using h
theorem parse_val : ∀ (l : List UInt8) (acc : Nat), acc < 18446744073709551616 → l.all digB = true →
    Lib.parseUint10 acc l = if valA acc l < 18446744073709551616 then .ok (valA acc l) else .range
  | [], acc, ha, h => by rw [if_pos (show valA acc [] < _ from ha)]; rfl
  | c :: r, acc, ha, h => by
    rw [List.all_cons, Bool.and_eq_true] at h
    have hc := digB_bounds h.1
    have hg := valA_ge r (10 * acc + (c.toNat - 48))
    unfold Lib.parseUint10
    rw [if_pos hc, valA_cons]
    split
    · rw [if_neg (by omega)]
    · split
      · rw [if_neg (by omega)]
      · rw [Nat.mul_comm acc 10]
        exact parse_val r _ (by omega) h.2
theorem val_dec (u : Nat) : valD (Lib.decDigits u) = u := by
  induction u using Nat.strongRecOn with
  | _ u ih =>
    by_cases h : u < 10
    · rw [Lib.decDigits, dif_pos h]
      show 10 * 0 + ((UInt8.ofNat (48 + u)).toNat - 48) = u
      rw [UInt8.toNat_ofNat']; omega
    · rw [Lib.decDigits, dif_neg h, valD_snoc, ih (u / 10) (by omega), UInt8.toNat_ofNat']; omega
theorem digs_snoc {l : List UInt8} {c : UInt8} (h : digsB l = true) (hc : digB c = true) : digsB (l ++ [c]) = true := by
  cases l with
  | nil => cases h
  | cons d r =>
    unfold digsB at h ⊢
    rw [List.cons_append]
    simp only [Bool.and_eq_true, List.all_cons, List.all_append, List.all_nil] at h ⊢
    exact ⟨h.1, h.2.1, h.2.2, hc, trivial⟩
theorem dig_of (d : Nat) (h : d < 10) : digB (UInt8.ofNat (48 + d)) = true := by
  unfold digB; rw [UInt8.toNat_ofNat']; simp; omega
theorem dec_digs (u : Nat) (h1 : 1 ≤ u) : digsB (Lib.decDigits u) = true := by
  induction u using Nat.strongRecOn with
  | _ u ih =>
    by_cases h : u < 10
    · rw [Lib.decDigits, dif_pos h]
      unfold digsB
      have h2 := dig_of u h
      simp only [Bool.and_eq_true, List.all_cons, List.all_nil]
      refine ⟨?_, h2, trivial⟩
      have : (UInt8.ofNat (48 + u) == 48) = false := by
        refine beq_false_of_ne fun e => ?_
        have e2 := congrArg UInt8.toNat e
        rw [UInt8.toNat_ofNat'] at e2
        have h4 : (48 : UInt8).toNat = 48 := rfl
        omega
      rw [this]; rfl
    · rw [Lib.decDigits, dif_neg h]
      exact digs_snoc (ih (u / 10) (by omega) (by omega)) (dig_of _ (by omega))
theorem digs_back : ∀ (n : Nat) (l : List UInt8), l.length = n → digsB l = true → Lib.decDigits (valD l) = l ∧ 1 ≤ valD l := by
  intro n
  induction n with
  | zero => intro l hl h; rw [List.length_eq_zero_iff.1 hl] at h; cases h
  | succ n ih =>
    intro l hl h
    rcases List.eq_nil_or_concat l with e | ⟨L, c, e⟩
    · rw [e] at hl; cases hl
    · rw [List.concat_eq_append] at e
      subst e
      have hLn : L.length = n := by simpa using hl
      cases L with
      | nil =>
        unfold digsB at h
        simp only [List.nil_append, Bool.and_eq_true, List.all_cons, List.all_nil] at h
        have hc := digB_bounds h.2.1
        have hne : c ≠ 48 := by simpa using h.1
        have hn : c.toNat ≠ 48 := fun e => hne (UInt8.toNat_inj.1 e)
        have hv : valD ([] ++ [c]) = c.toNat - 48 := by rw [valD_snoc]; show 10 * 0 + _ = _; omega
        rw [hv, Lib.decDigits, dif_pos (by omega)]
        refine ⟨?_, by omega⟩
        rw [show 48 + (c.toNat - 48) = c.toNat by omega, UInt8.ofNat_toNat]; rfl
      | cons d r =>
        unfold digsB at h
        rw [List.cons_append] at h
        simp only [Bool.and_eq_true, List.all_cons, List.all_append, List.all_nil] at h
        obtain ⟨i1, i2⟩ := ih (d :: r) hLn (by unfold digsB; simp only [Bool.and_eq_true, List.all_cons]; exact ⟨h.1, h.2.1, h.2.2.1⟩)
        have hc := digB_bounds h.2.2.2.1
        rw [valD_snoc, Lib.decDigits, dif_neg (by omega), show (10 * valD (d :: r) + (c.toNat - 48)) / 10 = valD (d :: r) by omega, show (10 * valD (d :: r) + (c.toNat - 48)) % 10 = c.toNat - 48 by omega, i1,
          show 48 + (c.toNat - 48) = c.toNat by omega, UInt8.ofNat_toNat]
        exact ⟨rfl, by omega⟩
theorem digs_parts {l : List UInt8} (h : digsB l = true) : l ≠ [] ∧ l.all digB = true := by
  cases l with
  | nil => cases h
  | cons c r =>
    unfold digsB at h
    rw [Bool.and_eq_true] at h
    exact ⟨by simp, h.2⟩
theorem mag_val {l : List UInt8} (h : digsB l = true) : Lib.parseMag l = if valD l < 18446744073709551616 then .ok (valD l) else .range := by
  unfold Lib.parseMag
  rw [if_neg (digs_parts h).1]
  exact parse_val l 0 (by omega) (digs_parts h).2
theorem digs_head {c : UInt8} {r : List UInt8} (h : digsB (c :: r) = true) : 49 ≤ c.toNat ∧ c.toNat ≤ 57 := by
  unfold digsB at h
  simp only [Bool.and_eq_true, List.all_cons] at h
  have := digB_bounds h.2.1
  have hne : c ≠ 48 := by simpa using h.1
  have hn : c.toNat ≠ 48 := fun e => hne (UInt8.toNat_inj.1 e)
  omega
theorem dec_plain {l : List UInt8} (h : digsB l = true) : decB l = true := by
  cases l with
  | nil => cases h
  | cons c r =>
    have := digs_head h
    unfold decB
    rw [strip_plain c r (fun e => by have h4 : (45 : UInt8).toNat = 45 := rfl; rw [e] at this; omega), h, Bool.or_true]
theorem dec_minus {r : List UInt8} : decB (45 :: r) = digsB r := by
  unfold decB
  rw [strip_minus]
  have : decide ((45 : UInt8) :: r = [48]) = false := decide_eq_false (by intro e; injection e with e1 _; exact absurd e1 (by decide))
  rw [this, Bool.false_or]
theorem signless_small {u : Nat} (h : u < 9223372036854775808) : Lib.signless (.ok u) = .ok (u : Int) := by unfold Lib.signless; dsimp only; rw [if_neg (by omega)]
theorem signless_big {u : Nat} (h : ¬ u < 9223372036854775808) : Lib.signless (.ok u) = .range := by unfold Lib.signless; dsimp only; rw [if_pos (by omega)]
theorem signed_small {u : Nat} (h : u ≤ 9223372036854775808) : Lib.signed (.ok u) = .ok (-(u : Int)) := by unfold Lib.signed; dsimp only; rw [if_neg (by omega)]
theorem signed_big {u : Nat} (h : ¬ u ≤ 9223372036854775808) : Lib.signed (.ok u) = .range := by unfold Lib.signed; dsimp only; rw [if_pos (by omega)]
theorem readI_plain {l : List UInt8} (h : digsB l = true) : readI l = if valD l < 9223372036854775808 then ((valD l : Int), 0) else (0, 27) := by
  unfold readI
  rw [dec_plain h, if_pos rfl]
  cases l with
  | nil => cases h
  | cons c r =>
    have hd := digs_head h
    rw [Lib.atoiAll_plain c r (by omega) (by omega), mag_val h]
    by_cases h1 : valD (c :: r) < 9223372036854775808
    · rw [if_pos h1, if_pos (by omega), signless_small h1]
    · rw [if_neg h1]
      by_cases h2 : valD (c :: r) < 18446744073709551616
      · rw [if_pos h2, signless_big h1]
      · rw [if_neg h2]; rfl
theorem readI_minus {r : List UInt8} (h : digsB r = true) : readI (45 :: r) = if valD r ≤ 9223372036854775808 then (-(valD r : Int), 0) else (0, 27) := by
  unfold readI
  rw [dec_minus, h, if_pos rfl, Lib.atoiAll_minus, mag_val h]
  by_cases h1 : valD r ≤ 9223372036854775808
  · rw [if_pos h1, if_pos (by omega), signed_small h1]
  · rw [if_neg h1]
    by_cases h2 : valD r < 18446744073709551616
    · rw [if_pos h2, signed_big h1]
    · rw [if_neg h2]; rfl
theorem readI_bad {l : List UInt8} (h : decB l = false) : readI l = (0, 4) := by unfold readI; rw [h]; rfl
theorem readI_zero : readI [48] = (0, 0) := by decide
theorem readI_itoa (n : Int) (h0 : -9223372036854775808 ≤ n) (h1 : n ≤ 9223372036854775807) : readI (Lib.itoa n) = (n, 0) := by
  by_cases hn : n < 0
  · obtain ⟨u, rfl⟩ : ∃ u : Nat, n = -(u : Int) := ⟨n.natAbs, by omega⟩
    rw [Lib.itoa_neg u (by omega), readI_minus (dec_digs u (by omega)), val_dec, if_pos (by omega)]
  · obtain ⟨u, rfl⟩ : ∃ u : Nat, n = u := ⟨n.toNat, by omega⟩
    rw [Lib.itoa_nonneg]
    by_cases hz : u = 0
    · subst hz; rw [Lib.decDigits, dif_pos (by omega)]; exact readI_zero
    · rw [readI_plain (dec_digs u (by omega)), val_dec, if_pos (by omega)]
theorem readI_back {l : List UInt8} {v : Int} (h : readI l = (v, 0)) : Lib.itoa v = l ∧ -9223372036854775808 ≤ v ∧ v ≤ 9223372036854775807 := by
  cases hd : decB l
  · rw [readI_bad hd] at h; injection h with _ h2; cases h2
  · have hd0 := hd
    unfold decB at hd
    rw [Bool.or_eq_true] at hd
    rcases hd with hz | hs
    · have e : l = [48] := by simpa using hz
      subst e
      rw [readI_zero] at h
      injection h with h1 _
      subst h1
      refine ⟨?_, by omega, by omega⟩
      rw [show (0 : Int) = ((0 : Nat) : Int) from rfl, Lib.itoa_nonneg, Lib.decDigits, dif_pos (by omega)]; rfl
    · cases l with
      | nil => cases hs
      | cons c r =>
        by_cases hc : c = 45
        · subst hc
          rw [strip_minus] at hs
          rw [readI_minus hs] at h
          obtain ⟨b1, b2⟩ := digs_back _ r rfl hs
          split at h
          · injection h with h1 _
            subst h1
            exact ⟨by rw [Lib.itoa_neg _ b2, b1], by omega, by omega⟩
          · injection h with _ h2; cases h2
        · rw [strip_plain c r hc] at hs
          rw [readI_plain hs] at h
          obtain ⟨b1, b2⟩ := digs_back _ _ rfl hs
          split at h
          · injection h with h1 _
            subst h1
            exact ⟨by rw [Lib.itoa_nonneg, b1], by omega, by omega⟩
          · injection h with _ h2; cases h2
/-- a number, or out of range, or no form -/
theorem readI_cases (l : List UInt8) : (∃ v, readI l = (v, 0) ∧ Lib.itoa v = l ∧ -9223372036854775808 ≤ v ∧ v ≤ 9223372036854775807) ∨ readI l = (0, 27) ∨ readI l = (0, 4) := by
  cases hd : decB l
  · exact .inr (.inr (readI_bad hd))
  · rcases dec_atoi hd with ⟨v, ha⟩ | ha
    · have h : readI l = (v, 0) := by unfold readI; rw [hd, ha]; rfl
      exact .inl ⟨v, h, readI_back h⟩
    · exact .inr (.inl (by unfold readI; rw [hd, ha]; rfl))

end Go.Proofs.YtgepcbggkfjlgaaGreatDoor
end

section
/-
  Contracts of the specification's decimal, ReadInt and Int. Condition: at most 1000000000 bytes; an int.
-/
set_option maxRecDepth 100000
set_option linter.unusedVariables false
set_option linter.unusedSimpArgs false
set_option linter.unnecessarySimpa false
namespace Go.Proofs.YtgepcbggkfjlgaaGreatDoor
open Go.RowKit Go.PlainAid

theorem all_get {t : ByteArray} (h : t.data.toList.all digB = true) (j : Nat) (hj : j < t.size) : 48 ≤ bt t j ∧ bt t j ≤ 57 := by
  have hm : chr t j ∈ t.data.toList := by
    unfold chr
    rw [List.getD_eq_getElem?_getD, List.getElem?_eq_getElem (by simpa using hj)]
    exact List.getElem_mem _
  have := digB_bounds (List.all_eq_true.1 h _ hm)
  rw [bt_chr]; omega
theorem get_all {t : ByteArray} (h : ∀ j, j < t.size → digB (chr t j) = true) : t.data.toList.all digB = true := by
  rw [List.all_eq_true]
  intro c hc
  obtain ⟨j, hj, rfl⟩ := List.getElem_of_mem hc
  have := h j (by simpa using hj)
  unfold chr at this
  rw [List.getD_eq_getElem?_getD, List.getElem?_eq_getElem hj] at this
  exact this
theorem all_bad {t : ByteArray} (j : Nat) (h : j < t.size) (hd : digB (chr t j) = false) : t.data.toList.all digB = false := by
  rw [List.all_eq_false]
  refine ⟨chr t j, ?_, by rw [hd]; simp⟩
  unfold chr
  rw [List.getD_eq_getElem?_getD, List.getElem?_eq_getElem (by simpa using h)]
  exact List.getElem_mem _
theorem digs_other {t : ByteArray} (h0 : t.size ≠ 0) (h1 : chr t 0 ≠ 48) : digsB t.data.toList = t.data.toList.all digB := by
  unfold chr at h1
  cases e : t.data.toList with
  | nil => exact absurd (show t.size = 0 by rw [Lib.size_eq, e]; rfl) h0
  | cons c r =>
    rw [e] at h1
    unfold digsB
    have : (c == 48) = false := by simpa using h1
    dsimp only
    rw [this]; rfl

set_option maxRecDepth 100000 in
set_option maxHeartbeats 4000000 in
theorem rdecimal_s (t : ByteArray) (z r : Bool) (w : World) (hs : t.size ≤ 1000000000) (hr : (digsB t.data.toList || (z && decide (t.data.toList = [48]))) = r) :
    Calls Tryz.prog 103 #[.string t, .bool z] w fun e w' => e = .returned (.bool r) ∧ w = w' := by
  have HR := Lib.hid hr; clear hr
  have hb := get_bt t
  by_cases h0 : t.size = 0
  · have HF := Lib.hid (show r = false by
      rw [← HR.out, List.length_eq_zero_iff.1 (show t.data.toList.length = 0 by rw [← Lib.size_eq]; exact h0)]; cases z <;> rfl)
    have e0 : ((t.size : Int) == 0) = true := beq_iff_eq.2 (by omega)
    go_enter Tryz.func103, Tryz.ntmps103
    go_wp2
    go_ret
    exact ⟨by rw [HF.out]; rfl, rfl⟩
  · have hpos : 0 < t.size := by omega
    have e0 : ((t.size : Int) == 0) = false := beq_false_of_ne (by omega)
    have h00 := bt_nonneg t 0
    have hone : t.data.toList = [48] ↔ chr t 0 = 48 ∧ t.size = 1 := by
      rw [Lib.size_eq]; unfold chr
      cases e : t.data.toList with
      | nil => simp
      | cons c l => cases l <;> simp
    by_cases hg : chr t 0 = 48 ∧ (1 < t.size ∨ z = false)
    · have h3 : (bt t 0 == 48) = true := by rw [bt_chr, hg.1]; rfl
      have HF := Lib.hid (show r = false by
        rw [← HR.out, digs_zero hg.1, Bool.false_or]
        rcases hg.2 with k | k
        · rw [decide_eq_false (fun e => by have := (hone.1 e).2; omega), Bool.and_false]
        · rw [k]; rfl)
      rcases hg.2 with k | rfl
      · have g1 : (1 : Int) < (t.size : Int) := by omega
        clear hg hone
        go_enter Tryz.func103, Tryz.ntmps103
        go_wp2
        go_ret
        exact ⟨by rw [HF.out]; rfl, rfl⟩
      · clear hg hone
        by_cases k : 1 < t.size
        · have g1 : (1 : Int) < (t.size : Int) := by omega
          go_enter Tryz.func103, Tryz.ntmps103
          go_wp2
          go_ret
          exact ⟨by rw [HF.out]; rfl, rfl⟩
        · have g1 : ¬ (1 : Int) < (t.size : Int) := by omega
          go_enter Tryz.func103, Tryz.ntmps103
          go_wp2
          go_ret
          exact ⟨by rw [HF.out]; rfl, rfl⟩
    · have HE : Hid (r = t.data.toList.all digB) := Lib.hid (by
        rw [← HR.out]
        by_cases k : chr t 0 = 48
        · have k1 : t.size = 1 := by
            rcases Nat.lt_or_ge 1 t.size with x | x
            · exact absurd ⟨k, .inl x⟩ hg
            · omega
          have k2 : z = true := by
            cases z
            · exact absurd ⟨k, .inr rfl⟩ hg
            · rfl
          rw [k2, hone.2 ⟨k, k1⟩]; decide
        · rw [digs_other (by omega) k, decide_eq_false (fun e => k (hone.1 e).1), Bool.and_false, Bool.or_false])
      rcases (show (bt t 0 == 48) = false ∨ ((bt t 0 == 48) = true ∧ ¬ (1 : Int) < (t.size : Int) ∧ z = true) by
        by_cases k : chr t 0 = 48
        · refine .inr ⟨by rw [bt_chr, k]; rfl, ?_, ?_⟩
          · intro x; exact hg ⟨k, .inl (by omega)⟩
          · cases z
            · exact absurd ⟨k, .inr rfl⟩ hg
            · rfl
        · refine .inl (beq_false_of_ne fun e => k ?_)
          rw [bt_chr] at e
          have h4 : (48 : UInt8).toNat = 48 := rfl
          exact UInt8.toNat_inj.1 (by omega)) with h3 | ⟨h3, g1, rfl⟩
      all_goals
        clear hg hone
        go_enter Tryz.func103, Tryz.ntmps103
        go_wp2
        go_loop [5] (fun i => ∃ k : Nat, k ≤ t.size ∧ i = .int .i64 k ∧ Hid (∀ j, j < k → digB (chr t j) = true)) (fun i => t.size - (intOf i).toNat)
        case atStart => exact ⟨0, Nat.zero_le _, rfl, Lib.hid fun j hj => absurd hj (Nat.not_lt_zero _)⟩
        case round =>
          obtain ⟨k, hk, rfl, HA⟩ := hrel
          by_cases hlt : k < t.size
          · have hk0 := bt_nonneg t k
            by_cases d1 : 48 ≤ bt t k
            · by_cases d2 : bt t k ≤ 57
              · have HD := Lib.hid (show digB (chr t k) = true by
                  have := bt_chr t k
                  unfold digB; simp; omega)
                go_wp2
                go_round
                case rel => exact ⟨k + 1, by omega, by go_num, Lib.hid fun j hj => if e : j = k then by rw [e]; exact HD.out else HA.out j (by omega)⟩
                case measure => simp [intOf]; omega
              · have HF := Lib.hid (show r = false by
                  rw [HE.out]; refine all_bad k hlt ?_
                  have := bt_chr t k
                  unfold digB; simp; omega)
                have d3 : 57 < bt t k := by omega
                go_wp2
                go_ret
                exact ⟨by rw [HF.out]; rfl, rfl⟩
            · have HF := Lib.hid (show r = false by
                rw [HE.out]; refine all_bad k hlt ?_
                have := bt_chr t k
                unfold digB; simp; omega)
              have d3 : bt t k < 48 := by omega
              go_wp2
              go_ret
              exact ⟨by rw [HF.out]; rfl, rfl⟩
          · have HF := Lib.hid (show r = true by
              rw [HE.out]; exact get_all fun j hj => HA.out j (by omega))
            go_wp2
            go_ret
            exact ⟨by rw [HF.out]; rfl, rfl⟩

/-- the digits read so far -/
theorem val_step (t : ByteArray) (k : Nat) (h : k < t.size) : valD (t.data.toList.take (k + 1)) = 10 * valD (t.data.toList.take k) + ((chr t k).toNat - 48) := by
  have e : t.data.toList.take (k + 1) = t.data.toList.take k ++ [chr t k] := by
    unfold chr
    rw [List.take_add_one, List.getD_eq_getElem?_getD, List.getElem?_eq_getElem (by simpa using h)]; rfl
  rw [e, valD_snoc]
theorem quo_fact (d : Int) (h0 : 0 ≤ d) (h1 : d ≤ 9) : (-9223372036854775808 + d).tdiv 10 = -((9223372036854775808 - d) / 10) := by
  rw [show (-9223372036854775808 + d) = -(9223372036854775808 - d) by omega, Int.neg_tdiv, Int.tdiv_eq_ediv_of_nonneg (by omega)]

set_option maxRecDepth 100000 in
set_option maxHeartbeats 8000000 in
theorem rreadInt_s (s : ByteArray) (w : World) (hs : s.size ≤ 1000000000) :
    Calls Tryz.prog 85 #[.string s] w fun e w' => e = .returned (.tuple #[.int .i64 (readI s.data.toList).1, .int .i64 (readI s.data.toList).2]) ∧ w = w' := by
  have hbs := get_bt s
  by_cases h0 : s.size = 0
  · have HE := Lib.hid (show readI s.data.toList = (0, 4) by
      rw [List.length_eq_zero_iff.1 (show s.data.toList.length = 0 by rw [← Lib.size_eq]; exact h0)]; decide)
    have hn : s.data.toList = [] := List.length_eq_zero_iff.1 (show s.data.toList.length = 0 by rw [← Lib.size_eq]; exact h0)
    have e0 : ¬ (0 : Int) < (s.size : Int) := by omega
    have HN := Lib.hid hn; clear hn
    go_enter Tryz.func85, Tryz.ntmps85
    go_wp2_with fail
    refine (rdecimal_s s true false _ hs (by rw [HN.out]; rfl)).mono ?_
    rintro e w' ⟨rfl, rfl⟩
    go_wp2
    go_ret2
    exact ⟨by rw [HE.out]; rfl, rfl⟩
  · have hpos : 0 < s.size := by omega
    have e0 : (0 : Int) < (s.size : Int) := by omega
    have h00 := bt_nonneg s 0
    by_cases h2 : chr s 0 = 45
    · have h3 : (bt s 0 == 45) = true := by rw [bt_chr, h2]; rfl
      obtain ⟨t, ht⟩ : ∃ t, t = s.extract 1 s.size := ⟨_, rfl⟩
      have hdt : s.data.toList = 45 :: t.data.toList := by
        have := drop_chr s 0 hpos
        rw [List.drop_zero, h2] at this
        rw [this, ht, Lib.extract_from]
      have hts : t.size + 1 = s.size := by rw [Lib.size_eq s, hdt, List.length_cons, ← Lib.size_eq]
      have HD := Lib.hid hdt; clear hdt h2
      cases hd : digsB t.data.toList
      · have HE := Lib.hid (show readI s.data.toList = (0, 4) by rw [HD.out]; exact readI_bad (by rw [dec_minus, hd]))
        go_enter Tryz.func85, Tryz.ntmps85
        go_wp2_with fail
        rw [← ht]
        refine (rdecimal_s t false false _ (by omega) (by rw [hd]; rfl)).mono ?_
        rintro e w' ⟨rfl, rfl⟩
        go_wp2
        go_ret2
        exact ⟨by rw [HE.out]; rfl, rfl⟩
      · have HE := Lib.hid (show readI s.data.toList = if valD t.data.toList ≤ 9223372036854775808 then (-(valD t.data.toList : Int), 0) else (0, 27) by rw [HD.out]; exact readI_minus hd)
        have HA := Lib.hid (digs_parts hd).2
        have HDT := Lib.hid hd
        have hb := get_bt t
        go_enter Tryz.func85, Tryz.ntmps85
        go_wp2_with fail
        rw [← ht]
        refine (rdecimal_s t false true _ (by omega) (by rw [HDT.out]; rfl)).mono ?_
        rintro e w' ⟨rfl, rfl⟩
        clear ht hd
        go_wp2_with fail
        go_loop [7, 8] (fun n i => ∃ k m : Nat, k ≤ t.size ∧ i = .int .i64 k ∧ n = .int .i64 (-(m : Int)) ∧ m ≤ 9223372036854775808 ∧ Hid (valD (t.data.toList.take k) = m)) (fun _ i => t.size - (intOf i).toNat)
        case atStart => exact ⟨0, 0, Nat.zero_le _, rfl, rfl, by omega, Lib.hid rfl⟩
        case round =>
          obtain ⟨k, m, hk, rfl, rfl, hm, HV⟩ := hrel
          by_cases hlt : k < t.size
          · obtain ⟨d1, d2⟩ := all_get HA.out k hlt
            have HC := Lib.hid (bt_chr t k)
            have HS := Lib.hid (val_step t k hlt)
            have hq := quo_fact (bt t k - 48) (by omega) (by omega)
            by_cases hr : 10 * (m : Int) + (bt t k - 48) ≤ 9223372036854775808
            · have hn : ¬ (-(m : Int)) < -((9223372036854775808 - (bt t k - 48)) / 10) := by omega
              go_wp2
              go_round
              case rel => exact ⟨k + 1, 10 * m + ((chr t k).toNat - 48), by omega, by go_num, by congr 1; have := HC.out; omega, by have := HC.out; omega, Lib.hid (by rw [HS.out, HV.out])⟩
              case measure => simp [intOf]; omega
            · have hn : (-(m : Int)) < -((9223372036854775808 - (bt t k - 48)) / 10) := by omega
              have HF := Lib.hid (show readI s.data.toList = (0, 27) by
                have h1 := valD_take_le t.data.toList (k + 1)
                rw [HS.out, HV.out] at h1
                rw [HE.out, if_neg]
                have := HC.out; omega)
              go_wp2
              go_ret2
              exact ⟨by rw [HF.out]; rfl, rfl⟩
          · have HF := Lib.hid (show readI s.data.toList = (-(m : Int), 0) by
              have hT : t.data.toList.take k = t.data.toList := List.take_of_length_le (by rw [← Lib.size_eq]; omega)
              have h1 := HV.out
              rw [hT] at h1
              rw [HE.out, h1, if_pos hm])
            go_wp2
            go_ret2
            exact ⟨by rw [HF.out]; rfl, rfl⟩
    · have h3 : (bt s 0 == 45) = false := by
        refine beq_false_of_ne fun e => h2 ?_
        rw [bt_chr] at e
        have h4 : (45 : UInt8).toNat = 45 := rfl
        exact UInt8.toNat_inj.1 (by omega)
      have hdec : decB s.data.toList = (digsB s.data.toList || (true && decide (s.data.toList = [48]))) := by
        have hst : stripL s.data.toList = s.data.toList := by
          have := drop_chr s 0 hpos
          rw [List.drop_zero] at this
          rw [this]
          exact strip_plain _ _ h2
        unfold decB
        rw [hst, Bool.true_and, Bool.or_comm]
      clear h2
      have HDE := Lib.hid hdec
      cases hd : decB s.data.toList
      · have HE := Lib.hid (show readI s.data.toList = (0, 4) from readI_bad hd)
        have HK := Lib.hid (hdec.symm.trans hd)
        clear hd hdec
        go_enter Tryz.func85, Tryz.ntmps85
        go_wp2_with fail
        refine (rdecimal_s s true false _ hs HK.out).mono ?_
        rintro e w' ⟨rfl, rfl⟩
        go_wp2
        go_ret2
        exact ⟨by rw [HE.out]; rfl, rfl⟩
      · have hd2 : digsB s.data.toList = true ∨ s.data.toList = [48] := by
          rw [hd] at hdec
          have := hdec.symm
          rw [Bool.or_eq_true, Bool.true_and, decide_eq_true_iff] at this
          exact this
        have HE := Lib.hid (show readI s.data.toList = if valD s.data.toList < 9223372036854775808 then ((valD s.data.toList : Int), 0) else (0, 27) by
          rcases hd2 with k | k
          · exact readI_plain k
          · rw [k]; decide)
        have HA := Lib.hid (show s.data.toList.all digB = true by
          rcases hd2 with k | k
          · exact (digs_parts k).2
          · rw [k]; decide)
        have HK := Lib.hid (hdec.symm.trans hd)
        clear hd hdec hd2
        go_enter Tryz.func85, Tryz.ntmps85
        go_wp2_with fail
        refine (rdecimal_s s true true _ hs HK.out).mono ?_
        rintro e w' ⟨rfl, rfl⟩
        go_wp2_with fail
        go_loop [7, 8] (fun n i => ∃ k m : Nat, k ≤ s.size ∧ i = .int .i64 k ∧ n = .int .i64 (-(m : Int)) ∧ m ≤ 9223372036854775808 ∧ Hid (valD (s.data.toList.take k) = m)) (fun _ i => s.size - (intOf i).toNat)
        case atStart => exact ⟨0, 0, Nat.zero_le _, rfl, rfl, by omega, Lib.hid rfl⟩
        case round =>
          obtain ⟨k, m, hk, rfl, rfl, hm, HV⟩ := hrel
          by_cases hlt : k < s.size
          · obtain ⟨d1, d2⟩ := all_get HA.out k hlt
            have HC := Lib.hid (bt_chr s k)
            have HS := Lib.hid (val_step s k hlt)
            have hq := quo_fact (bt s k - 48) (by omega) (by omega)
            by_cases hr : 10 * (m : Int) + (bt s k - 48) ≤ 9223372036854775808
            · have hn : ¬ (-(m : Int)) < -((9223372036854775808 - (bt s k - 48)) / 10) := by omega
              go_wp2
              go_round
              case rel => exact ⟨k + 1, 10 * m + ((chr s k).toNat - 48), by omega, by go_num, by congr 1; have := HC.out; omega, by have := HC.out; omega, Lib.hid (by rw [HS.out, HV.out])⟩
              case measure => simp [intOf]; omega
            · have hn : (-(m : Int)) < -((9223372036854775808 - (bt s k - 48)) / 10) := by omega
              have HF := Lib.hid (show readI s.data.toList = (0, 27) by
                have h1 := valD_take_le s.data.toList (k + 1)
                rw [HS.out, HV.out] at h1
                rw [HE.out, if_neg]
                have := HC.out; omega)
              go_wp2
              go_ret2
              exact ⟨by rw [HF.out]; rfl, rfl⟩
          · have hT : s.data.toList.take k = s.data.toList := List.take_of_length_le (by rw [← Lib.size_eq]; omega)
            have h1 := HV.out
            rw [hT] at h1
            have H1 := Lib.hid h1
            clear h1 hT
            by_cases hm2 : m = 9223372036854775808
            · have HF := Lib.hid (show readI s.data.toList = (0, 27) by rw [HE.out, H1.out, if_neg (by omega)])
              have hl : ((-(m : Int)) == -9223372036854775808) = true := beq_iff_eq.2 (by omega)
              go_wp2
              go_ret2
              exact ⟨by rw [HF.out]; rfl, rfl⟩
            · have HF := Lib.hid (show readI s.data.toList = ((m : Int), 0) by rw [HE.out, H1.out, if_pos (by omega)])
              have hl : ((-(m : Int)) == -9223372036854775808) = false := beq_false_of_ne (by omega)
              go_wp2
              go_ret2
              exact ⟨by rw [HF.out]; rfl, rfl⟩

end Go.Proofs.YtgepcbggkfjlgaaGreatDoor
end

section
/-
  Contract of the specification's Int. Condition: an int.
-/
set_option maxRecDepth 100000
set_option linter.unusedVariables false
set_option linter.unusedSimpArgs false
set_option linter.unnecessarySimpa false
namespace Go.Proofs.YtgepcbggkfjlgaaGreatDoor
open Go.RowKit Go.PlainAid

/-- u digits left in front of what is written -/
def IntAt (u0 u : Nat) (o : List UInt8) : Prop := (u = 0 ∧ o = Lib.decDigits u0) ∨ (1 ≤ u ∧ Lib.decDigits u ++ o = Lib.decDigits u0)
theorem intAt_start (u0 : Nat) (h : 1 ≤ u0) : IntAt u0 u0 [] := .inr ⟨h, by simp⟩
theorem intAt_step {u0 u : Nat} {o : List UInt8} (h : IntAt u0 u o) (h1 : 1 ≤ u) : IntAt u0 (u / 10) (UInt8.ofNat (48 + u % 10) :: o) := by
  rcases h with ⟨h2, _⟩ | ⟨_, h2⟩
  · omega
  · by_cases h3 : u < 10
    · rw [Lib.decDigits, dif_pos h3] at h2
      refine .inl ⟨by omega, ?_⟩
      rw [show u % 10 = u by omega]; exact h2
    · rw [Lib.decDigits, dif_neg h3] at h2
      refine .inr ⟨by omega, ?_⟩
      rw [← h2, List.append_assoc]; rfl
theorem intAt_end {u0 : Nat} {o : List UInt8} (h : IntAt u0 0 o) : o = Lib.decDigits u0 := by
  rcases h with ⟨_, h⟩ | ⟨h, _⟩
  · exact h
  · omega
theorem intAt_len {u0 u : Nat} {o : List UInt8} (h : IntAt u0 u o) (hu : u0 < 18446744073709551616) : o.length ≤ 20 := by
  have h2 := Lib.nDigits_le20 u0 hu
  rw [← Lib.decDigits_length] at h2
  rcases h with ⟨_, h⟩ | ⟨_, h⟩
  · rw [h]; exact h2
  · have := congrArg List.length h
    rw [List.length_append] at this
    omega
theorem one_back (wr : World) (b : UInt8) (c : Int) (hc : c = (b.toNat : Int)) :
    (convert 65 9 (.slice (some ⟨wr.heap.size, 0, none⟩) 1 1)).run Tryz.prog (wr.alloc (.cells #[.int .u8 c] 5)) = .ok (.string ⟨#[b]⟩) (wr.alloc (.cells #[.int .u8 c] 5)) := by
  subst hc
  exact run_convert_bytes_back (wr.alloc (.cells #[.int .u8 (b.toNat : Int)] 5)) _ _ _ ⟨wr.heap.size, 0, none⟩ 1 [b] Tryz.underlying65 Tryz.underlying5 Tryz.underlying9
    (fun j hj => by
      have hj0 : j = 0 := by simp at hj; omega
      subst hj0
      exact cell_one_new wr _ _ 0 _ rfl)
theorem neg_rem (u : Nat) : (-(u : Int)).tmod 10 = -((u % 10 : Nat) : Int) := by rw [Int.neg_tmod, Int.tmod_eq_emod_of_nonneg (by omega)]; omega
theorem neg_quo (u : Nat) : (-(u : Int)).tdiv 10 = -((u / 10 : Nat) : Int) := by rw [Int.neg_tdiv, Int.tdiv_eq_ediv_of_nonneg (by omega)]; omega

set_option maxRecDepth 100000 in
set_option maxHeartbeats 4000000 in
theorem rint_s (n : Int) (w : World) (h0 : -9223372036854775808 ≤ n) (h1 : n ≤ 9223372036854775807) :
    Calls Tryz.prog 77 #[.int .i64 n] w fun e w' => e = .returned (.string (ofL (Lib.itoa n))) ∧ Below w.heap.size w w' := by
  by_cases hz : n = 0
  · subst hz
    have HE := Lib.hid (show Lib.itoa 0 = [48] by rw [show (0 : Int) = ((0 : Nat) : Int) from rfl, Lib.itoa_nonneg, Lib.decDigits, dif_pos (by omega)]; rfl)
    go_enter Tryz.func77, Tryz.ntmps77
    go_wp2
    go_ret
    exact ⟨by rw [HE.out]; rfl, Below.refl _ _⟩
  · by_cases hn : n < 0
    · obtain ⟨u0, rfl⟩ : ∃ u : Nat, n = -(u : Int) := ⟨n.natAbs, by omega⟩
      have HE := Lib.hid (Lib.itoa_neg u0 (by omega))
      have hne : ((-(u0 : Int)) == 0) = false := beq_false_of_ne hz
      have hu0 : u0 < 18446744073709551616 := by omega
      have hu1 : u0 ≤ 9223372036854775808 := by omega
      go_enter Tryz.func77, Tryz.ntmps77
      go_wp2_with fail
      go_loopw [3, 4] (fun o m wr => ∃ (u : Nat) (l : List UInt8), u ≤ u0 ∧ m = .int .i64 (-(u : Int)) ∧ o = .string (ofL l) ∧ Hid (IntAt u0 u l) ∧ (ofL l).size ≤ 20 ∧ Below w.heap.size w wr) (fun _ m _ => (intOf m).natAbs)
      case atStart => exact ⟨u0, [], Nat.le_refl _, rfl, rfl, Lib.hid (intAt_start u0 (by omega)), Nat.zero_le _, Below.refl _ _⟩
      case round =>
        obtain ⟨u, l, hu, rfl, rfl, HI, hl, hbel⟩ := hrel
        by_cases hu2 : u = 0
        · subst hu2
          have HF := Lib.hid (intAt_end HI.out)
          have hm : ((-((0 : Nat) : Int)) != 0) = false := rfl
          go_wp2
          go_ret
          exact ⟨by rw [HE.out, HF.out]; rfl, hbel⟩
        · have hm : ((-(u : Int)) != 0) = true := by simp; omega
          have HS := Lib.hid (intAt_step HI.out (by omega))
          have HL := Lib.hid (intAt_len HS.out hu0)
          obtain ⟨d, hd⟩ : ∃ d, d = u % 10 := ⟨_, rfl⟩
          obtain ⟨q, hq⟩ : ∃ q, q = u / 10 := ⟨_, rfl⟩
          have r1 := neg_rem u
          have r2 := neg_quo u
          rw [← hd] at r1
          rw [← hq] at r2
          have hd9 : d ≤ 9 := by omega
          have hqu : q < u := by omega
          have HD := Lib.hid (show (⟨#[UInt8.ofNat (48 + d)]⟩ : ByteArray) ++ ofL l = ofL (UInt8.ofNat (48 + u % 10) :: l) by
            rw [← hd]; apply ByteArray.ext; rw [ByteArray.data_append]; simp [ofL])
          have HQ := Lib.hid hq
          clear hq
          by_cases hd0 : d = 0
          · have hneg : ¬ (-(d : Int)) < 0 := by omega
            have hdz : (d : Int) = 0 := by omega
            rw [hdz] at r1
            have hbk := one_back wr 48 48 rfl
            have HD0 := Lib.hid (show (⟨#[48]⟩ : ByteArray) ++ ofL l = ofL (UInt8.ofNat (48 + u % 10) :: l) by rw [← HD.out, hd0]; rfl)
            clear hd hd0 hdz hneg
            go_wp2
            go_roundw
            case rel => exact ⟨q, UInt8.ofNat (48 + u % 10) :: l, by omega, rfl, by rw [HD0.out], Lib.hid (by rw [HQ.out]; exact HS.out), HL.out, hbel.alloc hbel.size _⟩
            case measure => simp [intOf]; omega
          · have hneg : (-(d : Int)) < 0 := by omega
            have hw : IntKind.u8.wrap (48 + (d : Int)) = 48 + (d : Int) := IntWalk.u8_in _ (by omega)
            obtain ⟨c, hc⟩ : ∃ c, c = UInt8.ofNat (48 + d) := ⟨_, rfl⟩
            rw [← hc] at HD
            have hbk := one_back wr c (48 + (d : Int)) (by rw [hc, UInt8.toNat_ofNat']; omega)
            clear hd hd0 hc
            go_wp2
            go_roundw
            case rel => exact ⟨q, UInt8.ofNat (48 + u % 10) :: l, by omega, rfl, by rw [HD.out], Lib.hid (by rw [HQ.out]; exact HS.out), HL.out, hbel.alloc hbel.size _⟩
            case measure => simp [intOf]; omega
    · obtain ⟨u0, rfl⟩ : ∃ u : Nat, n = (u : Int) := ⟨n.toNat, by omega⟩
      have HE := Lib.hid (Lib.itoa_nonneg u0)
      have hne : ((u0 : Int) == 0) = false := beq_false_of_ne hz
      have hu0 : u0 < 18446744073709551616 := by omega
      have hu1 : u0 ≤ 9223372036854775807 := by omega
      go_enter Tryz.func77, Tryz.ntmps77
      go_wp2_with fail
      go_loopw [3, 4] (fun o m wr => ∃ (u : Nat) (l : List UInt8), u ≤ u0 ∧ m = .int .i64 (u : Int) ∧ o = .string (ofL l) ∧ Hid (IntAt u0 u l) ∧ (ofL l).size ≤ 20 ∧ Below w.heap.size w wr) (fun _ m _ => (intOf m).natAbs)
      case atStart => exact ⟨u0, [], Nat.le_refl _, rfl, rfl, Lib.hid (intAt_start u0 (by omega)), Nat.zero_le _, Below.refl _ _⟩
      case round =>
        obtain ⟨u, l, hu, rfl, rfl, HI, hl, hbel⟩ := hrel
        by_cases hu2 : u = 0
        · subst hu2
          have HF := Lib.hid (intAt_end HI.out)
          have hm : ((((0 : Nat) : Int)) != 0) = false := rfl
          go_wp2
          go_ret
          exact ⟨by rw [HE.out, HF.out]; rfl, hbel⟩
        · have hm : ((u : Int) != 0) = true := by simp; omega
          have HS := Lib.hid (intAt_step HI.out (by omega))
          have HL := Lib.hid (intAt_len HS.out hu0)
          obtain ⟨d, hd⟩ : ∃ d, d = u % 10 := ⟨_, rfl⟩
          obtain ⟨q, hq⟩ : ∃ q, q = u / 10 := ⟨_, rfl⟩
          have r1 : (u : Int).tmod 10 = (d : Int) := by rw [Int.tmod_eq_emod_of_nonneg (by omega)]; omega
          have r2 : (u : Int).tdiv 10 = (q : Int) := by rw [Int.tdiv_eq_ediv_of_nonneg (by omega)]; omega
          have hd9 : d ≤ 9 := by omega
          have hqu : q < u := by omega
          have HD := Lib.hid (show (⟨#[UInt8.ofNat (48 + d)]⟩ : ByteArray) ++ ofL l = ofL (UInt8.ofNat (48 + u % 10) :: l) by
            rw [← hd]; apply ByteArray.ext; rw [ByteArray.data_append]; simp [ofL])
          have HQ := Lib.hid hq
          clear hq
          have hneg : ¬ (d : Int) < 0 := by omega
          have hw : IntKind.u8.wrap (48 + (d : Int)) = 48 + (d : Int) := IntWalk.u8_in _ (by omega)
          obtain ⟨c, hc⟩ : ∃ c, c = UInt8.ofNat (48 + d) := ⟨_, rfl⟩
          rw [← hc] at HD
          have hbk := one_back wr c (48 + (d : Int)) (by rw [hc, UInt8.toNat_ofNat']; omega)
          clear hd hc
          go_wp2
          go_roundw
          case rel => exact ⟨q, UInt8.ofNat (48 + u % 10) :: l, by omega, rfl, by rw [HD.out], Lib.hid (by rw [HQ.out]; exact HS.out), HL.out, hbel.alloc hbel.size _⟩
          case measure => simp [intOf]; omega

end Go.Proofs.YtgepcbggkfjlgaaGreatDoor
end

section
/-
  Plain facts: reading gives back what was escaped, and what is read has just this escaped form. No condition.
-/
set_option maxRecDepth 100000
set_option linter.unusedVariables false
set_option linter.unusedSimpArgs false
set_option linter.unnecessarySimpa false
namespace Go.Proofs.YtgepcbggkfjlgaaGreatDoor
open Go.PlainAid

theorem dec_table : ∀ n : Nat, n < 256 → decC (hexC (n / 16)) (hexC (n % 16)) = if plainC (UInt8.ofNat n) then none else some (UInt8.ofNat n) := by decide +kernel
theorem dec_esc (c : UInt8) (h : plainC c = false) : decC (hexC (c.toNat / 16)) (hexC (c.toNat % 16)) = some c := by
  have := dec_table c.toNat c.toNat_lt
  rw [UInt8.ofNat_toNat, h] at this
  simpa using this
theorem plain_pct : plainC 37 = false := by decide
theorem unesc_esc : ∀ l : List UInt8, unesc (escL l) = some l
  | [] => rfl
  | c :: r => by
    have ih := unesc_esc r
    have e : escL (c :: r) = escC c ++ escL r := by simp [escL]
    rw [e]
    cases h : plainC c
    · rw [escC_other c h]
      show unesc (37 :: hexC (c.toNat / 16) :: hexC (c.toNat % 16) :: escL r) = some (c :: r)
      conv => lhs; unfold unesc
      rw [if_pos rfl]
      simp only []
      rw [dec_esc c h, ih]; rfl
    · have hc : c ≠ 37 := fun e => by rw [e, plain_pct] at h; cases h
      rw [escC_plain c h]
      show unesc (c :: escL r) = some (c :: r)
      conv => lhs; unfold unesc
      rw [if_neg hc, if_pos h, ih]; rfl
theorem dec_inv_table : ∀ a : Nat, a < 256 → ∀ b : Nat, b < 256 → (match decC (UInt8.ofNat a) (UInt8.ofNat b) with
    | some c => decide (plainC c = false) && decide (hexC (c.toNat / 16) = UInt8.ofNat a) && decide (hexC (c.toNat % 16) = UInt8.ofNat b)
    | none => true) = true := by decide +kernel
theorem dec_inv (a b c : UInt8) (h : decC a b = some c) : plainC c = false ∧ hexC (c.toNat / 16) = a ∧ hexC (c.toNat % 16) = b := by
  have := dec_inv_table a.toNat a.toNat_lt b.toNat b.toNat_lt
  rw [UInt8.ofNat_toNat, UInt8.ofNat_toNat, h] at this
  simpa [and_assoc] using this
theorem esc_unesc (l m : List UInt8) (h : unesc l = some m) : escL m = l := by
  induction hn : l.length using Nat.strongRecOn generalizing l m with
  | ind n ih =>
    cases l with
    | nil => unfold unesc at h; cases h; rfl
    | cons c r =>
      unfold unesc at h
      by_cases hc : c = 37
      · rw [if_pos hc] at h
        match r, h, hn with
        | a :: b :: r', h, hn =>
          simp only [] at h
          split at h
          · rename_i d hd
            obtain ⟨x, hx, rfl⟩ := Option.map_eq_some_iff.1 h
            have := ih r'.length (by simp at hn; omega) r' x hx rfl
            obtain ⟨h1, h2, h3⟩ := dec_inv a b d hd
            have e : escL (d :: x) = escC d ++ escL x := by simp [escL]
            rw [e, escC_other d h1, h2, h3, this, hc]; rfl
          · cases h
        | [a], h, _ => cases h
        | [], h, _ => cases h
      · rw [if_neg hc] at h
        split at h
        · rename_i hp
          obtain ⟨x, hx, rfl⟩ := Option.map_eq_some_iff.1 h
          have := ih r.length (by simp at hn; omega) r x hx rfl
          have e : escL (c :: x) = escC c ++ escL x := by simp [escL]
          rw [e, escC_plain c hp, this]; rfl
        · cases h
theorem escL_append (l m : List UInt8) : escL (l ++ m) = escL l ++ escL m := by simp [escL]

end Go.Proofs.YtgepcbggkfjlgaaGreatDoor
end

section
/-
  Contracts of codec.escaped and codec.Unescape. Condition: at most 1000000000 bytes.
-/
set_option maxRecDepth 100000
set_option linter.unusedVariables false
set_option linter.unusedSimpArgs false
set_option linter.unnecessarySimpa false
namespace Go.Proofs.YtgepcbggkfjlgaaGreatDoor
open Go.RowKit Go.PlainAid

theorem hex_index (x : Int) (c : UInt8) (w : World) (hx : x = (c.toNat : Int)) :
    Calls Tryz.prog 121 #[.string ⟨#[48, 49, 50, 51, 52, 53, 54, 55, 56, 57, 65, 66, 67, 68, 69, 70]⟩, .int .u8 x] w fun e w' => e = .returned (.int .i64 (hexV c)) ∧ w = w' := by
  refine (Tryz.strings_IndexByte ⟨#[48, 49, 50, 51, 52, 53, 54, 55, 56, 57, 65, 66, 67, 68, 69, 70]⟩ x w).mono fun e w' h => ⟨?_, h.2.symm⟩
  rw [h.1]
  have e1 : x.toNat.toUInt8 = c := by subst hx; simp
  rw [e1]; rfl

theorem or_table : ∀ a : Nat, a < 16 → ∀ b : Nat, b < 16 → bits BinOp.or IntKind.i64 ((a : Int) * 16) (b : Int) % 256 = 16 * (a : Int) + (b : Int) := by decide +kernel
theorem or_hex (a b : Int) (a0 : 0 ≤ a) (a1 : a ≤ 15) (b0 : 0 ≤ b) (b1 : b ≤ 15) : bits BinOp.or IntKind.i64 (a * 16) b % 256 = 16 * a + b := by
  have := or_table a.toNat (by omega) b.toNat (by omega)
  rw [Int.toNat_of_nonneg a0, Int.toNat_of_nonneg b0] at this
  exact this

def escVal (o : Option UInt8) : Int := match o with
  | some d => (d.toNat : Int)
  | none => 0

set_option maxRecDepth 100000 in
set_option maxHeartbeats 2000000 in
theorem escaped_s (t : ByteArray) (w : World) (ht : t.size ≤ 1000000000) :
    Calls Tryz.prog 100 #[.string t] w fun e w' => e = .returned (.tuple #[.int .u8 (escVal (escO t)), .bool (escO t).isSome]) ∧ w = w' := by
  have hb := get_bt t
  by_cases h2 : t.size < 2
  · have HE := Lib.hid (show escO t = none by unfold escO; rw [if_pos h2])
    go_enter Tryz.func100, Tryz.ntmps100
    go_wp2
    go_ret2
    exact ⟨by rw [HE.out]; rfl, rfl⟩
  · have HE := Lib.hid (show escO t = decC (chr t 0) (chr t 1) by unfold escO; rw [if_neg h2])
    have r0 := hexV_le (chr t 0)
    have r1 := hexV_le (chr t 1)
    have H0 := Lib.hid (bt_chr t 0)
    have H1 := Lib.hid (bt_chr t 1)
    go_enter Tryz.func100, Tryz.ntmps100
    go_wp2_with fail
    refine (hex_index _ (chr t 0) _ H0.out).mono ?_
    rintro e w' ⟨rfl, rfl⟩
    go_wp2_with fail
    refine (hex_index _ (chr t 1) _ H1.out).mono ?_
    rintro e w' ⟨rfl, rfl⟩
    obtain ⟨v0, hv0⟩ : ∃ v, v = hexV (chr t 0) := ⟨_, rfl⟩
    obtain ⟨v1, hv1⟩ : ∃ v, v = hexV (chr t 1) := ⟨_, rfl⟩
    rw [← hv0] at r0 ⊢
    rw [← hv1] at r1 ⊢
    have HV0 := Lib.hid hv0; have HV1 := Lib.hid hv1; clear hv0 hv1
    by_cases n0 : v0 < 0
    · have HF := Lib.hid (show escO t = none by rw [HE.out]; unfold decC; rw [if_pos (.inl (by rw [← HV0.out]; exact n0))])
      go_wp2
      go_ret2
      exact ⟨by rw [HF.out]; rfl, rfl⟩
    · by_cases n1 : v1 < 0
      · have HF := Lib.hid (show escO t = none by rw [HE.out]; unfold decC; rw [if_pos (.inr (by rw [← HV1.out]; exact n1))])
        go_wp2
        go_ret2
        exact ⟨by rw [HF.out]; rfl, rfl⟩
      · go_wp2_with fail
        have hor := or_hex v0 v1 (by omega) r0.2 (by omega) r1.2
        rw [hor]
        obtain ⟨x, hxe⟩ : ∃ x, x = 16 * v0 + v1 := ⟨_, rfl⟩
        have hx0 : 0 ≤ x ∧ x ≤ 255 := by omega
        rw [← hxe]
        have HX := Lib.hid hxe; clear hxe hor
        have HD := Lib.hid (show escO t = if plainI x then none else some (UInt8.ofNat x.toNat) by
          rw [HE.out]; unfold decC; rw [if_neg (by rw [← HV0.out, ← HV1.out]; omega), ← HV0.out, ← HV1.out, ← HX.out])
        cases c : plainI x
        · have HF := Lib.hid (show escO t = some (UInt8.ofNat x.toNat) by rw [HD.out, c]; rfl)
          have HN := Lib.hid (show x = ((UInt8.ofNat x.toNat).toNat : Int) by rw [UInt8.toNat_ofNat']; omega)
          go_wp2_with (go_at_call 93; refine (plain_any _ _ hx0.1 hx0.2).mono ?_; rintro e w' ⟨rfl, rfl⟩)
          go_ret2
          refine ⟨?_, rfl⟩
          rw [HF.out]
          show Ending.returned (.tuple #[.int .u8 x, .bool true]) = Ending.returned (.tuple #[.int .u8 ((UInt8.ofNat x.toNat).toNat : Int), .bool true])
          rw [← HN.out]
        · have HF := Lib.hid (show escO t = none by rw [HD.out, c]; rfl)
          go_wp2_with (go_at_call 93; refine (plain_any _ _ hx0.1 hx0.2).mono ?_; rintro e w' ⟨rfl, rfl⟩)
          go_ret2
          exact ⟨by rw [HF.out]; rfl, rfl⟩

/-- the value that Unescape returns, and its error -/
def unS (s : ByteArray) : ByteArray := match unesc s.data.toList with
  | some l => ⟨l.toArray⟩
  | none => ⟨#[]⟩
def unE (s : ByteArray) : Int := match unesc s.data.toList with
  | some _ => 0
  | none => 4

set_option maxRecDepth 100000 in
set_option maxHeartbeats 4000000 in
theorem unescape_s (s : ByteArray) (w : World) (hs : s.size ≤ 1000000000) :
    Calls Tryz.prog 81 #[.string s] w fun e w' => e = .returned (.tuple #[.string (unS s), .int .i64 (unE s)]) ∧ Below w.heap.size w w' := by
  have hb := get_bt s
  have HN := Lib.hid (bld_new w)
  go_enter Tryz.func81, Tryz.ntmps81
  go_wp2
  go_loopw [5] (fun iv wr => ∃ (i : Nat) (out : List UInt8), i ≤ s.size ∧ iv = .int .i64 i ∧ out.length ≤ i ∧ Hid (unesc s.data.toList = (unesc (s.data.toList.drop i)).map (out ++ ·)) ∧ Bld w.heap.size w.heap.size out wr ∧ Below w.heap.size w wr)
    (fun iv _ => s.size - (intOf iv).toNat)
  case atStart => exact ⟨0, [], Nat.zero_le _, rfl, by simp, Lib.hid (by simp), HN.out, (Below.refl _ _).alloc (Nat.le_refl _) _⟩
  case round =>
    obtain ⟨i, out, hi, rfl, hol, HU, HB, hbel⟩ := hrel
    have h0 := bt_nonneg s i
    have h255 := bt_le s i
    by_cases hlt : i < s.size
    · have HD := Lib.hid (drop_chr s i hlt)
      have HC := Lib.hid (bt_chr s i)
      cases c0 : (bt s i == 37)
      · have H37 := Lib.hid (show chr s i ≠ 37 from fun e => by rw [HC.out, e] at c0; simp at c0)
        cases c1 : plainI (bt s i)
        · have HF := Lib.hid (show unesc s.data.toList = none by
            rw [HU.out, HD.out]; unfold unesc; rw [if_neg H37.out, plain_chr, c1]; rfl)
          go_wp2_with (go_at_call 93; refine (plain_any _ _ h0 h255).mono ?_; rintro e w' ⟨rfl, rfl⟩)
          go_ret2
          exact ⟨by unfold unS unE; rw [HF.out]; rfl, hbel⟩
        · have HF := Lib.hid (show unesc s.data.toList = (unesc (s.data.toList.drop (i + 1))).map ((out ++ [chr s i]) ++ ·) by
            rw [HU.out, HD.out]; conv => lhs; arg 2; unfold unesc
            rw [if_neg H37.out, plain_chr, c1, if_pos rfl, Option.map_map]; congr 1; funext l; simp)
          go_wp2_with (go_at_call 93; refine (plain_any _ _ h0 h255).mono ?_; rintro e w' ⟨rfl, rfl⟩)
          refine (writeByte_s w.heap.size w.heap.size _ (chr s i) _ _ HB HC.out (by omega) hbel.size).mono ?_
          rintro e w1 ⟨rfl, HB1, hb1⟩
          go_wp2
          go_roundw
          case rel => exact ⟨i + 1, _, by omega, by go_num, by simp; omega, HF, HB1, hbel.trans hb1⟩
          case measure => simp [intOf]; omega
      · have H37 := Lib.hid (show chr s i = 37 from by
          have : bt s i = 37 := by simpa using c0
          rw [HC.out] at this; exact UInt8.toNat_inj.1 (by have h3 : (37 : UInt8).toNat = 37 := rfl; omega))
        have hse : (s.extract (i + 1) s.size) = dr s (i + 1) := Lib.extract_from s (i + 1)
        have hds := dr_size s (i + 1)
        have HE := Lib.hid (unesc_pct s i hlt H37.out)
        cases c1 : escO (dr s (i + 1)) with
        | none =>
          have HF := Lib.hid (show unesc s.data.toList = none by rw [HU.out, HE.out, c1]; rfl)
          go_wp2_with (go_at_call 100; refine (escaped_s _ _ ?_).mono ?_; (omega); rintro e w' ⟨rfl, rfl⟩)
          go_ret2
          exact ⟨by unfold unS unE; rw [HF.out]; rfl, hbel⟩
        | some d =>
          have HF := Lib.hid (show unesc s.data.toList = (unesc (s.data.toList.drop (i + 3))).map ((out ++ [d]) ++ ·) by
            rw [HU.out, HE.out, c1]; show Option.map _ (Option.map _ _) = _; rw [Option.map_map]; congr 1; funext l; simp)
          have h3 : i + 3 ≤ s.size := by
            have : ¬ (dr s (i + 1)).size < 2 := fun h => by unfold escO at c1; rw [if_pos h] at c1; cases c1
            rw [dr_size] at this; omega
          go_wp2_with (go_at_call 100; refine (escaped_s _ _ ?_).mono ?_; (omega); rintro e w' ⟨rfl, rfl⟩)
          refine (writeByte_s w.heap.size w.heap.size _ d _ _ HB rfl (by omega) hbel.size).mono ?_
          rintro e w1 ⟨rfl, HB1, hb1⟩
          go_wp2
          go_roundw
          case rel => exact ⟨i + 3, _, by omega, by go_num, by simp; omega, HF, HB1, hbel.trans hb1⟩
          case measure => simp [intOf]; omega
    · have HF := Lib.hid (show unesc s.data.toList = some out by
        rw [HU.out, List.drop_eq_nil_of_le (by rw [← Lib.size_eq]; omega)]; simp [unesc])
      go_wp2_with (go_at_call 51; refine (string_s w.heap.size w.heap.size _ _ HB hbel.size).mono ?_; rintro e w1 ⟨rfl, hb1⟩)
      go_ret2
      exact ⟨by unfold unS unE; rw [HF.out]; rfl, hbel.trans hb1⟩

end Go.Proofs.YtgepcbggkfjlgaaGreatDoor
end
