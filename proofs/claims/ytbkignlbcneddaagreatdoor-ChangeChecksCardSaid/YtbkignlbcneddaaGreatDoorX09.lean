/-
  Texts of the schema layer and of those beneath it, joined: CodecRUn, DigA, ShelfC, CsnL, CsnT, CsnV, CsnM. Conditions stand at each contract.
-/
import Derived.Lib.TrimByte
import Derived.Laws.Bits64
import Derived.Lib.IndexMore
import Derived.Deep.RegionHeld3
import Derived.Laws.AppendOwnNone
import Derived.Deep.QuietTactic
import Derived.BigQuiet
import Derived.Test.YtbkignlbcneddaaGreatDoorX01
import Derived.Test.YtbkignlbcneddaaGreatDoorX04
import Derived.Test.YtbkignlbcneddaaGreatDoorX05
import Derived.Test.YtbkignlbcneddaaGreatDoorX08
set_option linter.unusedVariables false
set_option linter.unusedSimpArgs false
set_option linter.unnecessarySimpa false

section
/-
  Plain functions for the specification's way of reading escaped forms, and the contracts of its digit and Unescape. Condition: at most 1000000000 bytes.
-/
set_option maxRecDepth 100000
namespace Go.Proofs.YtbkignlbcneddaaGreatDoor
open Go.RowKit Go.PlainAid
theorem hex_place : ∀ i : Nat, i < 16 → hexV (chr hexS i) = (i : Int) := by decide +kernel
theorem hex_none : ∀ n : Nat, n < 256 → hexV (UInt8.ofNat n) = -1 ∨ ∃ j : Nat, j < 16 ∧ chr hexS j = UInt8.ofNat n := by decide +kernel
set_option maxRecDepth 100000 in
set_option maxHeartbeats 1000000 in
theorem rdigit_any (x : Int) (c : UInt8) (w : World) (hx : x = (c.toNat : Int)) :
    Calls Tryz.prog 98 #[.int .u8 x] w fun e w' => e = .returned (.int .i64 (hexV c)) ∧ w = w' := by
  have hxs := get_bt (⟨#[48, 49, 50, 51, 52, 53, 54, 55, 56, 57, 65, 66, 67, 68, 69, 70]⟩ : ByteArray)
  have HX := Lib.hid hx; clear hx
  go_enter Tryz.func98, Tryz.ntmps98
  go_wp2
  go_loop [3] (fun i => ∃ k : Nat, k ≤ 16 ∧ i = .int .i64 k ∧ Hid (∀ j, j < k → chr hexS j ≠ c)) (fun i => 16 - (intOf i).toNat)
  case atStart => exact ⟨0, Nat.zero_le _, rfl, Lib.hid fun j hj => absurd hj (Nat.not_lt_zero _)⟩
  case round =>
    obtain ⟨k, hk, rfl, HA⟩ := hrel
    by_cases hlt : k < 16
    · have HC := Lib.hid (bt_chr hexS k)
      have k1 : (0 : Int) ≤ (k : Int) := by omega
      have k2 : (k : Int) < 16 := by omega
      cases c1 : (bt (⟨#[48, 49, 50, 51, 52, 53, 54, 55, 56, 57, 65, 66, 67, 68, 69, 70]⟩ : ByteArray) k == x)
      · have HN := Lib.hid (show chr hexS k ≠ c by
          intro e
          have h1 : bt hexS k = x := by rw [HC.out, e, HX.out]
          have h2 := beq_eq_false_iff_ne.1 c1
          exact h2 h1)
        go_wp2
        go_round
        case rel =>
          exact ⟨k + 1, by omega, by go_num, Lib.hid fun j hj => if e : j = k then by rw [e]; exact HN.out else HA.out j (by omega)⟩
        case measure => simp [intOf]; omega
      · have HE := Lib.hid (show hexV c = (k : Int) by
          have h2 : bt hexS k = x := beq_iff_eq.1 c1
          have h3 : chr hexS k = c := UInt8.toNat_inj.1 (by have := HC.out; have := HX.out; omega)
          rw [← h3]; exact hex_place k hlt)
        go_wp2
        go_ret
        exact ⟨by rw [HE.out]; rfl, rfl⟩
    · have HE := Lib.hid (show hexV c = -1 by
        rcases hex_none c.toNat c.toNat_lt with h | ⟨j, hj, h⟩
        · rwa [UInt8.ofNat_toNat] at h
        · rw [UInt8.ofNat_toNat] at h
          exact absurd h (HA.out j (by omega)))
      go_wp2
      go_ret
      exact ⟨by rw [HE.out]; rfl, rfl⟩
/-- the specification's scan: digits are read, whatever byte they make -/
def lax : List UInt8 → Option (List UInt8)
  | [] => some []
  | c :: r => if c = 37 then (match r with
      | a :: b :: r' => if hexV a < 0 ∨ hexV b < 0 then none else (lax r').map (UInt8.ofNat (16 * hexV a + hexV b).toNat :: ·)
      | _ => none) else (lax r).map (c :: ·)
theorem lax_of (l m : List UInt8) (h : unesc l = some m) : lax l = some m := by
  induction hn : l.length using Nat.strongRecOn generalizing l m with
  | ind n ih =>
    cases l with
    | nil => unfold unesc at h; cases h; rfl
    | cons c r =>
      unfold unesc at h
      unfold lax
      by_cases hc : c = 37
      · rw [if_pos hc] at h ⊢
        match r, h, hn with
        | a :: b :: r', h, hn =>
          simp only [] at h ⊢
          split at h
          · rename_i d hd
            obtain ⟨x, hx, rfl⟩ := Option.map_eq_some_iff.1 h
            have := ih r'.length (by simp at hn; omega) r' x hx rfl
            unfold decC at hd
            split at hd
            · cases hd
            · rename_i hneg
              split at hd
              · cases hd
              · cases hd
                rw [if_neg hneg, this]; rfl
          · cases h
        | [a], h, _ => cases h
        | [], h, _ => cases h
      · rw [if_neg hc] at h ⊢
        split at h
        · obtain ⟨x, hx, rfl⟩ := Option.map_eq_some_iff.1 h
          rw [ih r.length (by simp at hn; omega) r x hx rfl]; rfl
        · cases h
theorem unesc_lax_none {l : List UInt8} (h : lax l = none) : unesc l = none := by
  cases hu : unesc l with
  | none => rfl
  | some m => rw [lax_of l m hu] at h; cases h
theorem unesc_lax_ok {l m : List UInt8} (he : escL m = l) : unesc l = some m := by rw [← he]; exact unesc_esc m
theorem unesc_lax_bad {l m : List UInt8} (h : lax l = some m) (he : escL m ≠ l) : unesc l = none := by
  cases hu : unesc l with
  | none => rfl
  | some x =>
    have h2 := lax_of l x hu
    rw [h] at h2
    cases h2
    exact absurd (esc_unesc l m hu) he
theorem lax_step (s : ByteArray) (i : Nat) (h : i < s.size) (hc : chr s i ≠ 37) : lax (s.data.toList.drop i) = (lax (s.data.toList.drop (i + 1))).map (chr s i :: ·) := by
  rw [drop_chr s i h]; conv => lhs; unfold lax
  rw [if_neg hc]
theorem lax_short (s : ByteArray) (i : Nat) (h : i < s.size) (hc : chr s i = 37) (h2 : s.size ≤ i + 2) : lax (s.data.toList.drop i) = none := by
  rw [drop_chr s i h]; unfold lax
  rw [if_pos hc]
  have hl : (s.data.toList.drop (i + 1)).length < 2 := by rw [List.length_drop, ← Lib.size_eq]; omega
  match e : s.data.toList.drop (i + 1), hl with
  | [], _ => rfl
  | [x], _ => rfl
theorem lax_pct (s : ByteArray) (i : Nat) (hc : chr s i = 37) (h2 : i + 2 < s.size) : lax (s.data.toList.drop i) = if hexV (chr s (i + 1)) < 0 ∨ hexV (chr s (i + 2)) < 0 then none
    else (lax (s.data.toList.drop (i + 3))).map (UInt8.ofNat (16 * hexV (chr s (i + 1)) + hexV (chr s (i + 2))).toNat :: ·) := by
  rw [drop_chr s i (by omega), drop_chr s (i + 1) (by omega), drop_chr s (i + 1 + 1) (by omega)]
  conv => lhs; unfold lax
  rw [if_pos hc]
set_option maxRecDepth 100000 in
set_option maxHeartbeats 4000000 in
theorem runescape_s (s : ByteArray) (w : World) (hs : s.size ≤ 1000000000) :
    Calls Tryz.prog 50 #[.string s] w fun e w' => e = .returned (.tuple #[.string (unS s), .int .i64 (unE s)]) ∧ Below w.heap.size w w' := by
  have hb := get_bt s
  go_enter Tryz.func50, Tryz.ntmps50
  go_wp2
  go_loopw [4, 5] (fun bv iv wr => ∃ (i : Nat) (out : List UInt8), i ≤ s.size ∧ iv = .int .i64 i ∧ out.length ≤ i ∧ Hid (lax s.data.toList = (lax (s.data.toList.drop i)).map (out ++ ·)) ∧
      wr.ownsRow w.heap.size 5 1 bv out.length (bcells out) ∧ Below w.heap.size w wr)
    (fun _ iv _ => s.size - (intOf iv).toNat)
  case atStart => exact ⟨0, [], Nat.zero_le _, rfl, by simp, Lib.hid (by simp), World.ownsRow_nil _ _ _ _, Below.refl _ _⟩
  case round =>
    obtain ⟨i, out, hi, rfl, hol, HU, hown, hbel⟩ := hrel
    have h0 := bt_nonneg s i
    have h255 := bt_le s i
    by_cases hlt : i < s.size
    · have HC := Lib.hid (bt_chr s i)
      cases c0 : (bt s i == 37)
      · have H37 := Lib.hid (show chr s i ≠ 37 from fun e => by have := HC.out; rw [e] at this; rw [this] at c0; simp at c0)
        have c0' : (bt s i != 37) = true := by simpa using c0
        have HST := Lib.hid (lax_step s i hlt H37.out)
        go_wp2_with (at_builtin; go_must (refine push_byte _ hown (.tmp 16) (.tmp 20) _ ?_ ?_ ?_ ?_ ?_ ?_ ?_; exact rfl; exact rfl; exact rfl; exact rfl; omega; exact hbel.size; intro v' w1 hown1 hb1))
        go_roundw
        case rel => exact ⟨i + 1, out ++ [chr s i], by omega, by go_num, by simp; omega, Lib.hid (by rw [HU.out, HST.out, Option.map_map]; congr 1; funext l; simp), by rw [List.length_append, bcells_append]; rw [HC.out] at hown1; exact hown1, hbel.trans hb1⟩
        case measure => simp [intOf]; omega
      · have H37 := Lib.hid (show chr s i = 37 from by
          have : bt s i = 37 := by simpa using c0
          rw [HC.out] at this; exact UInt8.toNat_inj.1 (by have h3 : (37 : UInt8).toNat = 37 := rfl; omega))
        have c0' : (bt s i != 37) = false := by simpa using c0
        by_cases h2 : s.size ≤ i + 2
        · have HF := Lib.hid (show unesc s.data.toList = none from unesc_lax_none (by rw [HU.out, lax_short s i hlt H37.out h2]; rfl))
          have HN := Lib.hid (unS_none HF.out)
          go_wp2
          go_ret2
          exact ⟨by rw [HN.out.1, HN.out.2]; rfl, hbel⟩
        · have HST := Lib.hid (lax_pct s i H37.out (by omega))
          have r0 := hexV_le (chr s (i + 1))
          have r1 := hexV_le (chr s (i + 2))
          have H1 := Lib.hid (bt_chr s (i + 1))
          have H2 := Lib.hid (bt_chr s (i + 2))
          obtain ⟨v0, hv0⟩ : ∃ v, v = hexV (chr s (i + 1)) := ⟨_, rfl⟩
          obtain ⟨v1, hv1⟩ : ∃ v, v = hexV (chr s (i + 2)) := ⟨_, rfl⟩
          rw [← hv0, ← hv1] at HST
          rw [← hv0] at r0
          rw [← hv1] at r1
          have HV0 := Lib.hid hv0; have HV1 := Lib.hid hv1; clear hv0 hv1
          by_cases n0 : v0 < 0
          · have HF := Lib.hid (show unesc s.data.toList = none from unesc_lax_none (by rw [HU.out, HST.out, if_pos (.inl n0)]; rfl))
            have HN := Lib.hid (unS_none HF.out)
            go_wp2_with (go_at_call 98; (with_reducible refine (rdigit_any _ (chr s (i + 1)) _ H1.out).mono ?_); rintro e w' ⟨rfl, rfl⟩; rw [← HV0.out])
            go_ret2
            exact ⟨by rw [HN.out.1, HN.out.2]; rfl, hbel⟩
          · by_cases n1 : v1 < 0
            · have HF := Lib.hid (show unesc s.data.toList = none from unesc_lax_none (by rw [HU.out, HST.out, if_pos (.inr n1)]; rfl))
              have HN := Lib.hid (unS_none HF.out)
              go_wp2_with (first
                | (go_at_call 98; (with_reducible refine (rdigit_any _ (chr s (i + 1)) _ H1.out).mono ?_); rintro e w' ⟨rfl, rfl⟩; rw [← HV0.out])
                | (go_at_call 98; (with_reducible refine (rdigit_any _ (chr s (i + 2)) _ H2.out).mono ?_); rintro e w' ⟨rfl, rfl⟩; rw [← HV1.out]))
              go_ret2
              exact ⟨by rw [HN.out.1, HN.out.2]; rfl, hbel⟩
            · rw [if_neg (by omega)] at HST
              go_wp2_with (first
                | (go_at_call 98; (with_reducible refine (rdigit_any _ (chr s (i + 1)) _ H1.out).mono ?_); rintro e w' ⟨rfl, rfl⟩; rw [← HV0.out])
                | (go_at_call 98; (with_reducible refine (rdigit_any _ (chr s (i + 2)) _ H2.out).mono ?_); rintro e w' ⟨rfl, rfl⟩; rw [← HV1.out]))
              obtain ⟨i0, hi0, hz0, hz1, hz2⟩ := info_parts info5
              obtain ⟨x, hxe⟩ : ∃ x, x = 16 * v0 + v1 := ⟨_, rfl⟩
              have hxr : 0 ≤ x ∧ x ≤ 255 := by omega
              have m1 : IntKind.i64.wrap (16 * v0) = 16 * v0 := IntWalk.i64_in _ (by omega)
              have m2 : IntKind.i64.wrap (16 * v0 + v1) = x := by rw [hxe]; exact IntWalk.i64_in _ (by omega)
              have m3 : IntKind.u8.wrap x = x := IntWalk.u8_in _ (by omega)
              have m4 : 16 * v0 + v1 = x := hxe.symm
              have m7 : IntKind.i64.wrap x = x := IntWalk.i64_in _ (by omega)
              have HX := Lib.hid hxe; clear hxe
              have m5 : IntKind.i64.wrap ((i : Int) + 1) = (i : Int) + 1 := IntWalk.i64_in _ (by omega)
              have m6 : IntKind.i64.wrap ((i : Int) + 2) = (i : Int) + 2 := IntWalk.i64_in _ (by omega)
              have k1 : (0 : Int) ≤ (i : Int) + 1 := by omega
              have k2 : (i : Int) + 1 < (s.size : Int) := by omega
              have k3 : (0 : Int) ≤ (i : Int) + 2 := by omega
              have k4 : (i : Int) + 2 < (s.size : Int) := by omega
              have k5 : ((i : Int) + 2).toNat = i + 2 := by omega
              have k6 : ((i : Int) + 1).toNat = i + 1 := by omega
              go_region_held3 (fun _ => True) (trivial)
                (first
                  | (go_at_call 98; (with_reducible refine (rdigit_any _ (chr s (i + 1)) _ H1.out).mono ?_); rintro e w' ⟨rfl, rfl⟩; rw [← HV0.out])
                  | (go_at_call 98; (with_reducible refine (rdigit_any _ (chr s (i + 2)) _ H2.out).mono ?_); rintro e w' ⟨rfl, rfl⟩; rw [← HV1.out])
                  | (refine step_append_lies _ (by rfl) _ _ _ (by rfl) w.heap.size 5 i0 _ 1 1 Tryz.underlying79 hi0 hz0 hz1 hz2 rfl (by omega) _ _ _ (by rfl) ((hown.alloc _).drew)
                      ⟨wr.heap.size, 0, none⟩ 1 1 _ (by rfl) (by rfl) (World.news_of_block (heap_alloc_new wr _)) (by simp [Value.oneCell'])
                      (by omega) (by unfold maxLen; omega) (by omega) (by have := hbel.size; simp; omega) (wr.heap.size + 1) (by simp) ?_; intro gg cap w1 hown1 hgrow hat hlt1))
              all_goals
                have hbel1 : Below w.heap.size w w1 := (((hbel.alloc hbel.size _).drew).grown hgrow (by have := hbel.size; simp; omega) (fun j hj => (hown.lt j hj).1))
                have HXN := Lib.hid (show x = ((UInt8.ofNat x.toNat).toNat : Int) by rw [UInt8.toNat_ofNat']; omega)
                have HOW := Lib.hid (show w1.ownsRow w.heap.size 5 1 (.slice (some ⟨gg, 0, none⟩) (out.length + 1) cap) (out.length + 1) (bcells (out ++ [UInt8.ofNat x.toNat])) by
                  rw [bcells_append]
                  have e : bcells [UInt8.ofNat x.toNat] = [.int .u8 x] := by show [Value.int .u8 ((UInt8.ofNat x.toNat).toNat : Int)] = _; rw [← HXN.out]
                  rw [e]; exact hown1)
                clear hown1 m5 m6 m1 m2 m3 m4 m7
                go_wp2
                go_roundw
                case rel =>
                  refine ⟨i + 3, out ++ [UInt8.ofNat x.toNat], by omega, by go_num, by simp; omega, Lib.hid (by rw [HU.out, HST.out, HX.out, Option.map_map]; congr 1; funext l; simp), ?_, hbel1⟩
                  rw [List.length_append]
                  exact HOW.out
                case measure => simp [intOf]; omega
    · have HL := Lib.hid (show lax s.data.toList = some out by rw [HU.out, List.drop_eq_nil_of_le (by rw [← Lib.size_eq]; omega)]; simp [lax])
      have hbk := back hown
      by_cases he : escL out = s.data.toList
      · have HE := Lib.hid (unS_some (unesc_lax_ok he))
        have HS := Lib.hid (show (⟨(escL (ofL out).data.toList).toArray⟩ : ByteArray) = s by
          have e : (ofL out).data.toList = out := rfl
          rw [e, he])
        have hol2 : (ofL out).size ≤ 1000000000 := by show out.length ≤ _; omega
        go_wp2_with (go_at_call 45; refine (rescape_any (ofL out) _ hol2).mono ?_; rintro e w1 ⟨rfl, hb1⟩; rw [HS.out]; have hbk1 := back (own_below hown hb1))
        go_ret2
        exact ⟨by rw [HE.out.1, HE.out.2]; rfl, hbel.trans (hb1.mono hbel.size)⟩
      · have HE := Lib.hid (unS_none (unesc_lax_bad HL.out he))
        have hol2 : (ofL out).size ≤ 1000000000 := by show out.length ≤ _; omega
        have hq : (escL (ofL out).data.toList == s.toList) = false := by
          rw [Lib.toList_data]
          exact beq_false_of_ne he
        clear he
        go_wp2_with (go_at_call 45; refine (rescape_any (ofL out) _ hol2).mono ?_; rintro e w1 ⟨rfl, hb1⟩)
        go_ret2
        exact ⟨by rw [HE.out.1, HE.out.2]; rfl, hbel.trans (hb1.mono hbel.size)⟩
end Go.Proofs.YtbkignlbcneddaaGreatDoor
end

section
/-
  Plain functions for digests: the 64-bit digest of a list of bytes, the 16 hexadecimal digits of a number and reading them back, and that strings which differ in one byte have different digests. Nothing of the program stands here. No condition.
-/
set_option maxRecDepth 100000
namespace Go.Proofs.YtbkignlbcneddaaGreatDoor
open Go.PlainAid
/-- a hexadecimal digit, and the lowest k digits of a number -/
def hexD (d : Nat) : UInt8 := if d < 10 then UInt8.ofNat (48 + d) else UInt8.ofNat (87 + d)
def hexK : Nat → Nat → List UInt8
  | 0, _ => []
  | k + 1, n => hexK k (n / 16) ++ [hexD (n % 16)]
theorem hexK_length : ∀ k n, (hexK k n).length = k
  | 0, _ => rfl
  | k + 1, n => by unfold hexK; rw [List.length_append, hexK_length k]; rfl
theorem hexK_front : ∀ k n, hexK (k + 1) n = hexD (n / 16 ^ k % 16) :: hexK k n
  | 0, n => by unfold hexK hexK; simp
  | k + 1, n => by
    have h1 : hexK (k + 1 + 1) n = hexK (k + 1) (n / 16) ++ [hexD (n % 16)] := by rw [hexK]
    have h2 : hexK (k + 1) n = hexK k (n / 16) ++ [hexD (n % 16)] := by rw [hexK]
    rw [h1, hexK_front k (n / 16), h2, List.cons_append, Nat.div_div_eq_div_mul, Nat.pow_succ, Nat.mul_comm (16 ^ k) 16]
/-- the value of a hexadecimal digit -/
def hexO (c : UInt8) : Option Nat := if 48 ≤ c.toNat ∧ c.toNat ≤ 57 then some (c.toNat - 48) else if 97 ≤ c.toNat ∧ c.toNat ≤ 102 then some (c.toNat - 87) else none
def rdA : Nat → List UInt8 → Option Nat
  | acc, [] => some acc
  | acc, c :: r => match hexO c with
    | some d => rdA (acc * 16 + d) r
    | none => none
theorem hexO_lt {c : UInt8} {d : Nat} (h : hexO c = some d) : d < 16 := by
  unfold hexO at h
  split at h
  · cases h; omega
  · split at h
    · cases h; omega
    · cases h
theorem hexO_hexD (d : Nat) (h : d < 16) : hexO (hexD d) = some d := by
  have : ∀ d : Nat, d < 16 → hexO (hexD d) = some d := by decide +kernel
  exact this d h
theorem hexD_hexO {c : UInt8} {d : Nat} (h : hexO c = some d) : hexD d = c := by
  have : ∀ n : Nat, n < 256 → ∀ d : Nat, d < 16 → hexO (UInt8.ofNat n) = some d → hexD d = UInt8.ofNat n := by decide +kernel
  have := this c.toNat c.toNat_lt d (hexO_lt h)
  rw [UInt8.ofNat_toNat] at this
  exact this h
theorem rdA_snoc : ∀ (l : List UInt8) (acc : Nat) (c : UInt8), rdA acc (l ++ [c]) = (rdA acc l).bind fun v => (hexO c).map (v * 16 + ·)
  | [], acc, c => by
    show rdA acc [c] = _
    unfold rdA
    cases hexO c <;> rfl
  | b :: l, acc, c => by
    rw [List.cons_append]
    unfold rdA
    cases hexO b with
    | none => rfl
    | some d => exact rdA_snoc l _ c
theorem rdA_hexK : ∀ (k n : Nat), n < 16 ^ k → rdA 0 (hexK k n) = some n
  | 0, n, h => by
    have : n = 0 := by simpa using h
    subst this; rfl
  | k + 1, n, h => by
    rw [hexK, rdA_snoc, rdA_hexK k (n / 16) (by rw [Nat.pow_succ] at h; omega), hexO_hexD _ (by omega)]
    show some (n / 16 * 16 + n % 16) = some n
    congr 1; omega
theorem hexK_rdA : ∀ (k : Nat) (l : List UInt8) (n : Nat), l.length = k → rdA 0 l = some n → hexK k n = l ∧ n < 16 ^ k
  | 0, l, n, hl, h => by
    have : l = [] := List.length_eq_zero_iff.1 hl
    subst this; cases h; exact ⟨rfl, by decide⟩
  | k + 1, l, n, hl, h => by
    have hne : l ≠ [] := by intro e; subst e; cases hl
    obtain ⟨m, c, rfl⟩ : ∃ m c, l = m ++ [c] := ⟨l.dropLast, l.getLast hne, (List.dropLast_concat_getLast hne).symm⟩
    rw [rdA_snoc] at h
    rw [List.length_append] at hl
    cases hv : rdA 0 m with
    | none => rw [hv] at h; cases h
    | some v =>
      rw [hv] at h
      cases hc : hexO c with
      | none => rw [hc] at h; cases h
      | some d =>
        rw [hc] at h
        have hd := hexO_lt hc
        obtain ⟨h1, h2⟩ := hexK_rdA k m v (by simpa using hl) hv
        have e : v * 16 + d = n := by simpa using h
        rw [hexK, show n / 16 = v by omega, show n % 16 = d by omega, h1, hexD_hexO hc]
        exact ⟨rfl, by rw [Nat.pow_succ]; omega⟩
theorem rdA_lt {l : List UInt8} {n : Nat} (h : rdA 0 l = some n) : n < 16 ^ l.length := (hexK_rdA _ l n rfl h).2
theorem rdA_none_append : ∀ (l m : List UInt8) (acc : Nat), rdA acc l = none → rdA acc (l ++ m) = none
  | [], m, acc, h => by cases h
  | c :: l, m, acc, h => by
    rw [List.cons_append]
    unfold rdA at h ⊢
    cases hc : hexO c with
    | none => rfl
    | some d => rw [hc] at h; exact rdA_none_append l m _ h
end Go.Proofs.YtbkignlbcneddaaGreatDoor
end

section
/-
  The shelf of this seat lies in one text. No condition.
-/
namespace Go.Proofs.YtbkignlbcneddaaGreatDoor
end Go.Proofs.YtbkignlbcneddaaGreatDoor
end

section
/-
  Plain functions for change sequence numbers and update vectors: validity, the order, the latest number of a replica, the least vector that contains a list, and what Note, Join, Covers and Within mean there. Nothing of the program stands here. No condition.
-/
set_option maxRecDepth 100000
namespace Go.Proofs.YtbkignlbcneddaaGreatDoor
namespace Csn
open Go.PlainAid
/-- a change sequence number: its time, its place, its replica -/
abbrev Cn := Int × Int × Int
def Vld (c : Cn) : Prop := 0 ≤ c.1 ∧ c.1 ≤ 1099511627776 ∧ 0 ≤ c.2.1 ∧ c.2.1 ≤ 4294967295 ∧ 0 ≤ c.2.2 ∧ c.2.2 < 8
instance (c : Cn) : Decidable (Vld c) := by unfold Vld; exact inferInstance
def vldC (c : Cn) : Bool := decide (Vld c)
theorem vldC_iff (c : Cn) : vldC c = true ↔ Vld c := decide_eq_true_iff
def cmpN (a b : Int) : Int := if a < b then -1 else if b < a then 1 else 0
def cmpC (a b : Cn) : Int := if a.1 ≠ b.1 then cmpN a.1 b.1 else if a.2.1 ≠ b.2.1 then cmpN a.2.1 b.2.1 else cmpN a.2.2 b.2.2
def ltC (a b : Cn) : Prop := a.1 < b.1 ∨ (a.1 = b.1 ∧ (a.2.1 < b.2.1 ∨ (a.2.1 = b.2.1 ∧ a.2.2 < b.2.2)))
instance (a b : Cn) : Decidable (ltC a b) := by unfold ltC; exact inferInstance
theorem cn_ext {a b : Cn} (h1 : a.1 = b.1) (h2 : a.2.1 = b.2.1) (h3 : a.2.2 = b.2.2) : a = b := Prod.ext h1 (Prod.ext h2 h3)
theorem cmpC_cases (a b : Cn) : (ltC a b ∧ cmpC a b = -1) ∨ (ltC b a ∧ cmpC a b = 1) ∨ (a = b ∧ cmpC a b = 0) := by
  obtain ⟨a1, a2, a3⟩ := a
  obtain ⟨b1, b2, b3⟩ := b
  unfold ltC cmpC cmpN
  dsimp only
  by_cases h1 : a1 = b1
  · rw [if_neg (by omega)]
    by_cases h2 : a2 = b2
    · rw [if_neg (by omega)]
      by_cases h3 : a3 < b3
      · rw [if_pos h3]; exact .inl ⟨by omega, rfl⟩
      · rw [if_neg h3]
        by_cases h4 : b3 < a3
        · rw [if_pos h4]; exact .inr (.inl ⟨by omega, rfl⟩)
        · rw [if_neg h4]; exact .inr (.inr ⟨cn_ext h1 h2 (by dsimp only; omega), rfl⟩)
    · rw [if_pos h2]
      by_cases h3 : a2 < b2
      · rw [if_pos h3]; exact .inl ⟨by omega, rfl⟩
      · rw [if_neg h3, if_pos (by omega)]; exact .inr (.inl ⟨by omega, rfl⟩)
  · rw [if_pos h1]
    by_cases h3 : a1 < b1
    · rw [if_pos h3]; exact .inl ⟨by omega, rfl⟩
    · rw [if_neg h3, if_pos (by omega)]; exact .inr (.inl ⟨by omega, rfl⟩)
theorem ltC_irr (a : Cn) : ¬ ltC a a := by unfold ltC; omega
theorem ltC_trans {a b c : Cn} (h : ltC a b) (k : ltC b c) : ltC a c := by unfold ltC at *; omega
theorem ltC_asymm {a b : Cn} (h : ltC a b) : ¬ ltC b a := by unfold ltC at *; omega
theorem ltC_tri {a b : Cn} (h : ¬ ltC a b) (k : ¬ ltC b a) : a = b := by
  unfold ltC at h k
  exact cn_ext (by omega) (by omega) (by omega)
theorem nlt_trans {a b c : Cn} (h : ¬ ltC a b) (k : ¬ ltC b c) : ¬ ltC a c := by unfold ltC at *; omega
theorem cmpC_lt {a b : Cn} : cmpC a b = -1 ↔ ltC a b := by
  rcases cmpC_cases a b with ⟨h, e⟩ | ⟨h, e⟩ | ⟨h, e⟩
  · exact ⟨fun _ => h, fun _ => e⟩
  · exact ⟨fun k => (by rw [e] at k; cases k), fun k => absurd h (ltC_asymm k)⟩
  · exact ⟨fun k => (by rw [e] at k; cases k), fun k => absurd (h ▸ k) (ltC_irr _)⟩
theorem cmpC_gt {a b : Cn} : 0 < cmpC a b ↔ ltC b a := by
  rcases cmpC_cases a b with ⟨h, e⟩ | ⟨h, e⟩ | ⟨h, e⟩
  · rw [e]; exact ⟨fun k => absurd k (by decide), fun k => absurd h (ltC_asymm k)⟩
  · rw [e]; exact ⟨fun _ => h, fun _ => by decide⟩
  · rw [e]; exact ⟨fun k => absurd k (by decide), fun k => absurd (h ▸ k) (ltC_irr _)⟩
theorem cmpC_ge {a b : Cn} : 0 ≤ cmpC a b ↔ ¬ ltC a b := by
  rcases cmpC_cases a b with ⟨h, e⟩ | ⟨h, e⟩ | ⟨h, e⟩
  · rw [e]; exact ⟨fun k => absurd k (by decide), fun k => absurd h k⟩
  · rw [e]; exact ⟨fun _ => ltC_asymm h, fun _ => by decide⟩
  · rw [e]; exact ⟨fun _ k => absurd (h ▸ k) (ltC_irr _), fun _ => by decide⟩
theorem cmpC_eq {a b : Cn} : cmpC a b = 0 ↔ a = b := by
  rcases cmpC_cases a b with ⟨h, e⟩ | ⟨h, e⟩ | ⟨h, e⟩
  · rw [e]; exact ⟨fun k => absurd k (by decide), fun k => absurd h (k ▸ ltC_irr _)⟩
  · rw [e]; exact ⟨fun k => absurd k (by decide), fun k => absurd h (k ▸ ltC_irr _)⟩
  · rw [e]; exact ⟨fun _ => h, fun _ => rfl⟩
/-! ### the latest number of a replica; the least vector -/
def laterC (r : Int) (o : Option Cn) (c : Cn) : Option Cn := if c.2.2 = r then (match o with | none => some c | some d => if ltC d c then some c else some d) else o
def bstC (r : Int) (l : List Cn) : Option Cn := l.foldl (laterC r) none
def lstC (l : List Cn) : List Cn := (List.range 8).filterMap fun (k : Nat) => bstC (k : Int) l
theorem bst_snoc (r : Int) (l : List Cn) (c : Cn) : bstC r (l ++ [c]) = laterC r (bstC r l) c := by unfold bstC; rw [List.foldl_append, List.foldl_cons, List.foldl_nil]
/-- what the latest number is -/
def IsBst (r : Int) (l : List Cn) : Option Cn → Prop
  | none => ∀ d ∈ l, d.2.2 ≠ r
  | some c => c ∈ l ∧ c.2.2 = r ∧ ∀ d ∈ l, d.2.2 = r → ¬ ltC c d
theorem later_spec {r : Int} {l : List Cn} {o : Option Cn} (h : IsBst r l o) (c : Cn) : IsBst r (l ++ [c]) (laterC r o c) := by
  unfold laterC
  by_cases e : c.2.2 = r
  · rw [if_pos e]
    cases o with
    | none =>
      refine ⟨by simp, e, fun d hd hr => ?_⟩
      rcases List.mem_append.1 hd with hd | hd
      · exact absurd hr (h d hd)
      · have : d = c := by simpa using hd
        rw [this]; exact ltC_irr _
    | some b =>
      obtain ⟨h1, h2, h3⟩ := h
      by_cases hb : ltC b c
      · simp only [if_pos hb]
        refine ⟨by simp, e, fun d hd hr => ?_⟩
        rcases List.mem_append.1 hd with hd | hd
        · exact nlt_trans (ltC_asymm hb) (h3 d hd hr)
        · have : d = c := by simpa using hd
          rw [this]; exact ltC_irr _
      · simp only [if_neg hb]
        refine ⟨by simp [h1], h2, fun d hd hr => ?_⟩
        rcases List.mem_append.1 hd with hd | hd
        · exact h3 d hd hr
        · have : d = c := by simpa using hd
          rw [this]; exact hb
  · rw [if_neg e]
    cases o with
    | none =>
      intro d hd
      rcases List.mem_append.1 hd with hd | hd
      · exact h d hd
      · have : d = c := by simpa using hd
        rw [this]; exact e
    | some b =>
      obtain ⟨h1, h2, h3⟩ := h
      refine ⟨by simp [h1], h2, fun d hd hr => ?_⟩
      rcases List.mem_append.1 hd with hd | hd
      · exact h3 d hd hr
      · have : d = c := by simpa using hd
        rw [this] at hr; exact absurd hr e
theorem bst_spec (r : Int) (l : List Cn) : IsBst r l (bstC r l) := by
  have key : ∀ (m l : List Cn) (o : Option Cn), IsBst r l o → IsBst r (l ++ m) (m.foldl (laterC r) o) := by
    intro m
    induction m with
    | nil => intro l o h; rw [List.append_nil]; exact h
    | cons c m ih =>
      intro l o h
      have := ih (l ++ [c]) (laterC r o c) (later_spec h c)
      rw [List.append_assoc] at this
      exact this
  have h0 : IsBst r [] none := fun d hd => by cases hd
  exact key l [] none h0
theorem isBst_uniq {r : Int} {l m : List Cn} {o p : Option Cn} (hs : ∀ c, c ∈ l ↔ c ∈ m) (h : IsBst r l o) (k : IsBst r m p) : o = p := by
  cases o with
  | none =>
    cases p with
    | none => rfl
    | some b => exact absurd k.2.1 (h b ((hs b).2 k.1))
  | some a =>
    cases p with
    | none => exact absurd h.2.1 (k a ((hs a).1 h.1))
    | some b => rw [ltC_tri (h.2.2 b ((hs b).2 k.1) k.2.1) (k.2.2 a ((hs a).1 h.1) h.2.1)]
theorem bst_is {r : Int} {l : List Cn} {c : Cn} (h1 : c ∈ l) (h2 : c.2.2 = r) (h3 : ∀ d ∈ l, d.2.2 = r → ¬ ltC c d) : bstC r l = some c := isBst_uniq (fun _ => Iff.rfl) (bst_spec r l) (show IsBst r l (some c) from ⟨h1, h2, h3⟩)
theorem bst_mem {r : Int} {l : List Cn} {c : Cn} (h : bstC r l = some c) : c ∈ l ∧ c.2.2 = r ∧ ∀ d ∈ l, d.2.2 = r → ¬ ltC c d := by
  have := bst_spec r l
  rw [h] at this
  exact this
theorem mem_lst {l : List Cn} {c : Cn} : c ∈ lstC l ↔ (0 ≤ c.2.2 ∧ c.2.2 < 8) ∧ bstC c.2.2 l = some c := by
  unfold lstC
  rw [List.mem_filterMap]
  constructor
  · rintro ⟨k, hk, h⟩
    have hk := List.mem_range.1 hk
    have hr := (bst_mem h).2.1
    rw [← hr] at h
    exact ⟨by omega, h⟩
  · rintro ⟨hr, h⟩
    refine ⟨c.2.2.toNat, List.mem_range.2 (by omega), ?_⟩
    rw [Int.toNat_of_nonneg hr.1]; exact h
/-- an update vector -/
def VecC (l : List Cn) : Prop := (∀ c ∈ l, Vld c) ∧ l.Pairwise fun a b => a.2.2 < b.2.2
theorem vec_nil : VecC [] := ⟨fun c h => (by cases h), List.Pairwise.nil⟩
theorem vec_one {c : Cn} (h : Vld c) : VecC [c] := ⟨fun d hd => List.mem_singleton.1 hd ▸ h, List.pairwise_singleton _ _⟩
theorem lst_vec {l : List Cn} (h : ∀ c ∈ l, Vld c) : VecC (lstC l) := by
  refine ⟨fun c hc => h c (bst_mem (mem_lst.1 hc).2).1, ?_⟩
  unfold lstC
  rw [List.pairwise_filterMap]
  refine List.Pairwise.imp (R := fun a b => a < b) ?_ List.pairwise_lt_range
  intro a b hab c hc d hd
  have h1 := (bst_mem hc).2.1
  have h2 := (bst_mem hd).2.1
  omega
theorem vec_rep {l : List Cn} (h : VecC l) {a b : Cn} (ha : a ∈ l) (hb : b ∈ l) (e : a.2.2 = b.2.2) : a = b := by
  obtain ⟨i, hi, rfl⟩ := List.mem_iff_getElem.1 ha
  obtain ⟨j, hj, rfl⟩ := List.mem_iff_getElem.1 hb
  have hp := List.pairwise_iff_getElem.1 h.2
  rcases Nat.lt_trichotomy i j with k | k | k
  · have := hp i j hi hj k; omega
  · subst k; rfl
  · have := hp j i hj hi k; omega
theorem vec_uniq : ∀ {l m : List Cn}, VecC l → VecC m → (∀ c, c ∈ l ↔ c ∈ m) → l = m
  | [], [], _, _, _ => rfl
  | [], b :: m, _, _, h => absurd ((h b).2 (by simp)) (by simp)
  | a :: l, [], _, _, h => absurd ((h a).1 (by simp)) (by simp)
  | a :: l, b :: m, hl, hm, h => by
    have la := List.pairwise_cons.1 hl.2
    have lb := List.pairwise_cons.1 hm.2
    have e1 : a.2.2 ≤ b.2.2 := by
      rcases List.mem_cons.1 ((h b).2 (by simp)) with e | hb
      · rw [e]; exact Int.le_refl _
      · have := la.1 b hb; omega
    have e2 : b.2.2 ≤ a.2.2 := by
      rcases List.mem_cons.1 ((h a).1 (by simp)) with e | hb
      · rw [e]; exact Int.le_refl _
      · have := lb.1 a hb; omega
    have e : a = b := vec_rep hm ((h a).1 (by simp)) (by simp) (by omega)
    subst e
    have : l = m := vec_uniq ⟨fun c hc => hl.1 c (by simp [hc]), la.2⟩ ⟨fun c hc => hm.1 c (by simp [hc]), lb.2⟩ fun c => by
      constructor
      · intro hc
        rcases List.mem_cons.1 ((h c).1 (by simp [hc])) with e | k
        · have := la.1 c hc; rw [e] at this; omega
        · exact k
      · intro hc
        rcases List.mem_cons.1 ((h c).2 (by simp [hc])) with e | k
        · have := lb.1 c hc; rw [e] at this; omega
        · exact k
    rw [this]
theorem lst_self {l : List Cn} (h : VecC l) : lstC l = l := by
  refine vec_uniq (lst_vec h.1) h fun c => ?_
  rw [mem_lst]
  constructor
  · intro k; exact (bst_mem k.2).1
  · intro k
    have := h.1 c k
    unfold Vld at this
    exact ⟨by omega, bst_is k rfl fun d hd e => by rw [vec_rep h hd k e]; exact ltC_irr _⟩
/-- putting the least vector in a list's place changes no latest number -/
theorem bst_lst {l : List Cn} (h : ∀ c ∈ l, Vld c) (r : Int) (m : List Cn) : bstC r (lstC l ++ m) = bstC r (l ++ m) := by
  refine isBst_uniq (fun _ => Iff.rfl) (bst_spec r _) (?_ : IsBst r (lstC l ++ m) (bstC r (l ++ m)))
  have hs := bst_spec r (l ++ m)
  cases hb : bstC r (l ++ m) with
  | none =>
    rw [hb] at hs
    intro d hd
    refine hs d ?_
    rcases List.mem_append.1 hd with hd | hd
    · exact List.mem_append.2 (.inl (bst_mem (mem_lst.1 hd).2).1)
    · exact List.mem_append.2 (.inr hd)
  | some c =>
    rw [hb] at hs
    obtain ⟨h1, h2, h3⟩ := hs
    refine ⟨?_, h2, fun d hd hr => h3 d ?_ hr⟩
    · rcases List.mem_append.1 h1 with h1 | h1
      · have hv := h c h1
        unfold Vld at hv
        exact List.mem_append.2 (.inl (mem_lst.2 ⟨by omega, bst_is h1 rfl fun d hd hr => h3 d (by simp [hd]) (hr.trans h2)⟩))
      · exact List.mem_append.2 (.inr h1)
    · rcases List.mem_append.1 hd with hd | hd
      · exact List.mem_append.2 (.inl (bst_mem (mem_lst.1 hd).2).1)
      · exact List.mem_append.2 (.inr hd)
theorem lst_lst {l : List Cn} (h : ∀ c ∈ l, Vld c) (m : List Cn) : lstC (lstC l ++ m) = lstC (l ++ m) := by
  unfold lstC
  congr 1
  funext k
  exact bst_lst h k m
/-! ### places -/
def cnA (l : List Cn) (j : Nat) : Cn := l.getD j (0, 0, 0)
theorem cn_get {l : List Cn} {j : Nat} (h : j < l.length) : cnA l j = l[j] := by unfold cnA; rw [List.getD_eq_getElem?_getD, List.getElem?_eq_getElem h]; rfl
theorem cn_mem {l : List Cn} {j : Nat} (h : j < l.length) : cnA l j ∈ l := by rw [cn_get h]; exact List.getElem_mem h
theorem take_cn (l : List Cn) (k : Nat) (h : k < l.length) : l.take (k + 1) = l.take k ++ [cnA l k] := by
  rw [List.take_add_one, List.getElem?_eq_getElem h, cn_get h]; rfl
theorem cns_ext {ps qs : List Cn} (hl : ps.length = qs.length) (h : ∀ j, j < ps.length → cnA ps j = cnA qs j) : ps = qs := by
  apply List.ext_getElem hl
  intro j h1 h2
  have := h j h1
  rwa [cn_get h1, cn_get h2] at this
end Csn
end Go.Proofs.YtbkignlbcneddaaGreatDoor
end

section
/-
  Plain functions for the text form of change sequence numbers: writing, reading, that both are inverse to each other, and that the order of the forms is that of the numbers. Nothing of the program stands here. No condition.
-/
set_option maxRecDepth 100000
namespace Go.Proofs.YtbkignlbcneddaaGreatDoor
namespace Csn
open Go.PlainAid
def fmtL (c : Cn) : List UInt8 := hexK 11 c.1.toNat ++ 45 :: (hexK 8 c.2.1.toNat ++ 45 :: hexK 1 c.2.2.toNat)
def fmtS (c : Cn) : ByteArray := if Vld c then ⟨(fmtL c).toArray⟩ else ⟨#[]⟩
theorem fmtL_len (c : Cn) : (fmtL c).length = 22 := by
  unfold fmtL
  rw [List.length_append, List.length_cons, List.length_append, List.length_cons, hexK_length, hexK_length, hexK_length]
def parR (l : List UInt8) : Option Cn := if l.length = 22 ∧ l[11]? = some 45 ∧ l[20]? = some 45 then (rdA 0 (l.take 11)).bind fun a => (rdA 0 ((l.drop 12).take 8)).bind fun s => (rdA 0 (l.drop 21)).map fun r => ((a : Int), (s : Int), (r : Int)) else none
/-- the error, and the number, that Parse returns -/
def parEC (l : List UInt8) : Int := match parR l with
  | none => 4
  | some c => if Vld c then 0 else 27
def parVC (l : List UInt8) : Cn := match parR l with
  | none => (0, 0, 0)
  | some c => if Vld c then c else (0, 0, 0)
/-- three words of hexadecimal digits -/
def IsFm (l : List UInt8) (c : Cn) : Prop := ∃ (x y z : List UInt8) (a s r : Nat), l = x ++ 45 :: (y ++ 45 :: z) ∧ x.length = 11 ∧ y.length = 8 ∧ z.length = 1 ∧ rdA 0 x = some a ∧ rdA 0 y = some s ∧ rdA 0 z = some r ∧ c = ((a : Int), (s : Int), (r : Int))
theorem three_parts {α : Type} (x y z : List α) (b : α) (hx : x.length = 11) (hy : y.length = 8) (hz : z.length = 1) :
    (x ++ b :: (y ++ b :: z)).length = 22 ∧ (x ++ b :: (y ++ b :: z))[11]? = some b ∧ (x ++ b :: (y ++ b :: z))[20]? = some b ∧ (x ++ b :: (y ++ b :: z)).take 11 = x ∧ ((x ++ b :: (y ++ b :: z)).drop 12).take 8 = y ∧ (x ++ b :: (y ++ b :: z)).drop 21 = z := by
  have e12 : (x ++ b :: (y ++ b :: z)).drop 12 = y ++ b :: z := by
    rw [show 12 = x.length + 1 by omega, ← List.drop_drop, List.drop_left]; rfl
  refine ⟨by simp [hx, hy, hz], ?_, ?_, ?_, ?_, ?_⟩
  · rw [List.getElem?_append_right (by omega), hx]; rfl
  · rw [List.getElem?_append_right (by omega), hx, show 20 - 11 = 8 + 1 by rfl, List.getElem?_cons_succ, List.getElem?_append_right (by omega), hy]; rfl
  · rw [← hx, List.take_left]
  · rw [e12, ← hy, List.take_left]
  · rw [show 21 = 12 + (8 + 1) by rfl, ← List.drop_drop, e12, ← hy, ← List.drop_drop, List.drop_left]; rfl
theorem par_iff {l : List UInt8} {c : Cn} : parR l = some c ↔ IsFm l c := by
  unfold parR
  constructor
  · intro h
    split at h
    · rename_i hc
      obtain ⟨h0, h1, h2⟩ := hc
      cases ha : rdA 0 (l.take 11) with
      | none => rw [ha] at h; cases h
      | some a =>
        cases hs : rdA 0 ((l.drop 12).take 8) with
        | none => rw [ha, hs] at h; cases h
        | some s =>
          cases hr : rdA 0 (l.drop 21) with
          | none => rw [ha, hs, hr] at h; cases h
          | some r =>
            rw [ha, hs, hr] at h
            have h : ((a : Int), (s : Int), (r : Int)) = c := Option.some.inj h
            refine ⟨l.take 11, (l.drop 12).take 8, l.drop 21, a, s, r, ?_, by rw [List.length_take]; omega, by rw [List.length_take, List.length_drop]; omega, by rw [List.length_drop]; omega, ha, hs, hr, h.symm⟩
            have e1 : l.drop 11 = 45 :: l.drop 12 := by
              have := @List.getElem_cons_drop _ l 11 (by omega)
              rw [← this]
              congr 1
              rw [List.getElem?_eq_getElem (by omega)] at h1
              exact Option.some.inj h1
            have e2 : l.drop 20 = 45 :: l.drop 21 := by
              have := @List.getElem_cons_drop _ l 20 (by omega)
              rw [← this]
              congr 1
              rw [List.getElem?_eq_getElem (by omega)] at h2
              exact Option.some.inj h2
            have e3 : l.drop 12 = (l.drop 12).take 8 ++ l.drop 20 := by
              have := List.take_append_drop 8 (l.drop 12)
              rw [List.drop_drop] at this
              exact this.symm
            rw [← e2, ← e3, ← e1, List.take_append_drop]
    · cases h
  · rintro ⟨x, y, z, a, s, r, rfl, hx, hy, hz, ha, hs, hr, rfl⟩
    obtain ⟨k0, k1, k2, k3, k4, k5⟩ := three_parts x y z 45 hx hy hz
    rw [if_pos ⟨k0, k1, k2⟩, k3, k4, k5, ha, hs, hr]
    rfl
theorem par_fmt {c : Cn} (h : Vld c) : parR (fmtL c) = some c := by
  obtain ⟨t, s, r⟩ := c
  unfold Vld at h
  dsimp only at h
  rw [par_iff]
  refine ⟨hexK 11 t.toNat, hexK 8 s.toNat, hexK 1 r.toNat, t.toNat, s.toNat, r.toNat, rfl, hexK_length _ _, hexK_length _ _, hexK_length _ _, rdA_hexK _ _ ?_, rdA_hexK _ _ ?_, rdA_hexK _ _ ?_, cn_ext ?_ ?_ ?_⟩
  · have : (16 : Nat) ^ 11 = 17592186044416 := by decide
    omega
  · have : (16 : Nat) ^ 8 = 4294967296 := by decide
    omega
  · have : (16 : Nat) ^ 1 = 16 := by decide
    omega
  all_goals dsimp only; omega
theorem fmt_par {l : List UInt8} {c : Cn} (h : parR l = some c) : fmtL c = l := by
  obtain ⟨x, y, z, a, s, r, rfl, hx, hy, hz, ha, hs, hr, rfl⟩ := par_iff.1 h
  unfold fmtL
  dsimp only
  rw [Int.toNat_natCast, Int.toNat_natCast, Int.toNat_natCast, (hexK_rdA _ _ _ hx ha).1, (hexK_rdA _ _ _ hy hs).1, (hexK_rdA _ _ _ hz hr).1]
theorem parEC_fmt {c : Cn} (h : Vld c) : parEC (fmtL c) = 0 ∧ parVC (fmtL c) = c := by
  unfold parEC parVC
  rw [par_fmt h]
  simp only [if_pos h, and_self]
theorem parEC_ok {l : List UInt8} (h : parEC l = 0) : Vld (parVC l) ∧ fmtL (parVC l) = l := by
  unfold parEC at h
  unfold parVC
  cases e : parR l with
  | none => rw [e] at h; cases h
  | some c =>
    rw [e] at h
    simp only at h ⊢
    split at h
    · rename_i k
      rw [if_pos k]
      exact ⟨k, fmt_par e⟩
    · cases h
/-! ### cutting at a byte -/
theorem idx_mk : ∀ (x y : List UInt8) (b : UInt8), b ∉ x → Lib.index (x ++ b :: y) [b] = (x.length : Int)
  | [], y, b, _ => by
    show Lib.index (b :: y) [b] = 0
    unfold Lib.index
    rw [if_pos (by simp)]
  | a :: x, y, b, h => by
    have h1 : b ≠ a := fun e => h (by simp [e])
    have h2 : b ∉ x := fun e => h (by simp [e])
    show Lib.index (a :: (x ++ b :: y)) [b] = _
    unfold Lib.index
    rw [if_neg (by simp [h1]), idx_mk x y b h2]
    have : ((x.length : Int) == -1) = false := by rw [beq_eq_false_iff_ne]; omega
    simp [this]
theorem idx_no : ∀ (l : List UInt8) (b : UInt8), b ∉ l → Lib.index l [b] = -1
  | [], b, _ => rfl
  | a :: x, b, h => by
    have h1 : b ≠ a := fun e => h (by simp [e])
    have h2 : b ∉ x := fun e => h (by simp [e])
    unfold Lib.index
    rw [if_neg (by simp [h1]), idx_no x b h2]
    rfl
theorem split_at (l : List UInt8) (b : UInt8) : b ∈ l → ∃ x y, l = x ++ b :: y ∧ b ∉ x := by
  induction l with
  | nil => intro h; cases h
  | cons a l ih =>
    intro h
    by_cases e : b = a
    · exact ⟨[], l, by rw [e]; rfl, by simp⟩
    · obtain ⟨x, y, h1, h2⟩ := ih ((List.mem_cons.1 h).resolve_left e)
      exact ⟨a :: x, y, by rw [h1]; rfl, fun k => (List.mem_cons.1 k).elim e h2⟩
theorem cutl_mk (x y : List UInt8) (b : UInt8) (h : b ∉ x) : Lib.cut (x ++ b :: y) [b] = (x, y, true) := by
  unfold Lib.cut
  rw [idx_mk x y b h, if_pos (by omega), Int.toNat_natCast, List.take_left]
  have : (x ++ b :: y).drop (x.length + [b].length) = y := by
    rw [show x.length + [b].length = x.length + 1 by rfl, ← List.drop_drop, List.drop_left]; rfl
  rw [this]
theorem cutl_no (l : List UInt8) (b : UInt8) (h : b ∉ l) : Lib.cut l [b] = (l, [], false) := by
  unfold Lib.cut
  rw [idx_no l b h, if_neg (by decide)]
theorem rdA_no45 : ∀ (l : List UInt8) (acc n : Nat), rdA acc l = some n → (45 : UInt8) ∉ l
  | [], _, _, _ => by simp
  | c :: l, acc, n, h => by
    unfold rdA at h
    intro k
    rcases List.mem_cons.1 k with k | k
    · subst k
      have : hexO 45 = none := by decide
      rw [this] at h; cases h
    · cases hc : hexO c with
      | none => rw [hc] at h; cases h
      | some d => rw [hc] at h; exact rdA_no45 l _ _ h k
/-- a word of k hexadecimal digits -/
def wrdC (k : Nat) (l : List UInt8) : Option Nat := if l.length = k then rdA 0 l else none
def bfC (l : List UInt8) : List UInt8 := (Lib.cut l [45]).1
def afC (l : List UInt8) : List UInt8 := (Lib.cut l [45]).2.1
/-- the program's way of reading: two cuts -/
theorem par_cut (l : List UInt8) : parR l = (wrdC 11 (bfC l)).bind fun a => (wrdC 8 (bfC (afC l))).bind fun s => (wrdC 1 (afC (afC l))).map fun r => ((a : Int), (s : Int), (r : Int)) := by
  apply Option.ext
  intro c
  rw [par_iff]
  constructor
  · rintro ⟨x, y, z, a, s, r, rfl, hx, hy, hz, ha, hs, hr, rfl⟩
    have k1 := cutl_mk x (y ++ 45 :: z) 45 (rdA_no45 _ _ _ ha)
    have k2 := cutl_mk y z 45 (rdA_no45 _ _ _ hs)
    unfold bfC afC wrdC
    rw [k1]
    dsimp only
    rw [k2]
    dsimp only
    rw [if_pos hx, if_pos hy, if_pos hz, ha, hs, hr]
    rfl
  · intro h
    unfold wrdC at h
    by_cases m1 : (45 : UInt8) ∈ l
    · obtain ⟨x, l2, rfl, hx⟩ := split_at l 45 m1
      have k1 := cutl_mk x l2 45 hx
      have b1 : bfC (x ++ 45 :: l2) = x := congrArg Prod.fst k1
      have a1 : afC (x ++ 45 :: l2) = l2 := congrArg (fun p => p.2.1) k1
      rw [b1, a1] at h
      by_cases m2 : (45 : UInt8) ∈ l2
      · obtain ⟨y, z, rfl, hy⟩ := split_at l2 45 m2
        have k2 := cutl_mk y z 45 hy
        have b2 : bfC (y ++ 45 :: z) = y := congrArg Prod.fst k2
        have a2 : afC (y ++ 45 :: z) = z := congrArg (fun p => p.2.1) k2
        rw [b2, a2] at h
        by_cases e1 : x.length = 11
        · by_cases e2 : y.length = 8
          · by_cases e3 : z.length = 1
            · rw [if_pos e1, if_pos e2, if_pos e3] at h
              cases ha : rdA 0 x with
              | none => rw [ha] at h; cases h
              | some a =>
                cases hs : rdA 0 y with
                | none => rw [ha, hs] at h; cases h
                | some s =>
                  cases hr : rdA 0 z with
                  | none => rw [ha, hs, hr] at h; cases h
                  | some r =>
                    rw [ha, hs, hr] at h
                    exact ⟨x, y, z, a, s, r, rfl, e1, e2, e3, ha, hs, hr, (Option.some.inj h).symm⟩
            · rw [if_neg e3] at h
              cases ha : (if x.length = 11 then rdA 0 x else none) <;> rw [ha] at h
              · cases h
              · cases hs : (if y.length = 8 then rdA 0 y else none) <;> rw [hs] at h <;> cases h
          · rw [if_neg e2] at h
            cases ha : (if x.length = 11 then rdA 0 x else none) <;> rw [ha] at h <;> cases h
        · rw [if_neg e1] at h; cases h
      · have k2 := cutl_no l2 45 m2
        have a2 : afC l2 = [] := congrArg (fun p => p.2.1) k2
        rw [a2, if_neg (show ¬ ([] : List UInt8).length = 1 by decide)] at h
        cases ha : (if x.length = 11 then rdA 0 x else none) <;> rw [ha] at h
        · cases h
        · cases hs : (if (bfC l2).length = 8 then rdA 0 (bfC l2) else none) <;> rw [hs] at h <;> cases h
    · have k1 := cutl_no l 45 m1
      have a1 : afC l = [] := congrArg (fun p => p.2.1) k1
      rw [a1, if_neg (show ¬ (afC []).length = 1 by decide)] at h
      cases ha : (if (bfC l).length = 11 then rdA 0 (bfC l) else none) <;> rw [ha] at h
      · cases h
      · cases hs : (if (bfC []).length = 8 then rdA 0 (bfC []) else none) <;> rw [hs] at h <;> cases h
/-! ### the order of the forms -/
end Csn
end Go.Proofs.YtbkignlbcneddaaGreatDoor
end

section
/-
  Plain functions for update vectors: the first error, what Covers, Note, Join and Within return, and that Join gives the least vector that contains both. Nothing of the program stands here. No condition.
-/
set_option maxRecDepth 100000
namespace Go.Proofs.YtbkignlbcneddaaGreatDoor
namespace Csn
open Go.PlainAid
/-- the first of n errors that is one -/
def fstC (f : Nat → Int) : Nat → Int
  | 0 => 0
  | n + 1 => if fstC f n = 0 then f n else fstC f n
theorem fstC_zero {f : Nat → Int} : ∀ {n : Nat}, (∀ j, j < n → f j = 0) → fstC f n = 0
  | 0, _ => rfl
  | n + 1, h => by
    unfold fstC
    rw [if_pos (fstC_zero fun j hj => h j (by omega))]
    exact h n (by omega)
theorem fstC_hit {f : Nat → Int} {k : Nat} (h : ∀ j, j < k → f j = 0) (hk : f k ≠ 0) : ∀ {n : Nat}, k < n → fstC f n = f k
  | 0, hn => absurd hn (Nat.not_lt_zero _)
  | n + 1, hn => by
    unfold fstC
    by_cases e : k = n
    · subst e; rw [if_pos (fstC_zero h)]
    · have := fstC_hit h hk (n := n) (by omega)
      rw [if_neg (by rw [this]; exact hk)]; exact this
theorem fstC_each {f : Nat → Int} {m : Nat} (h : fstC f m = 0) (j : Nat) (hj : j < m) : f j = 0 := by
  induction j using Nat.strongRecOn with
  | _ j ih =>
    by_cases e : f j = 0
    · exact e
    · exact absurd ((fstC_hit (fun k hk => ih k hk (Nat.lt_trans hk hj)) e hj).symm.trans h) e
/-- an earlier number has this replica -/
def seenC (l : List Cn) (i : Nat) (r : Int) : Bool := (l.take i).any fun e => decide (e.2.2 = r)
def errC (l : List Cn) (i : Nat) : Int := if ¬ Vld (cnA l i) then 2 else if seenC l i (cnA l i).2.2 = true then 7 else if 0 < i ∧ (cnA l i).2.2 < (cnA l (i - 1)).2.2 then 4 else 0
def chkC (l : List Cn) : Int := fstC (errC l) l.length
theorem seenC_iff {l : List Cn} {i : Nat} {r : Int} : seenC l i r = true ↔ ∃ k, k < i ∧ k < l.length ∧ (cnA l k).2.2 = r := by
  unfold seenC
  rw [List.any_eq_true]
  constructor
  · rintro ⟨e, he, h⟩
    obtain ⟨k, hk, rfl⟩ := List.mem_iff_getElem.1 he
    rw [List.length_take] at hk
    refine ⟨k, by omega, by omega, ?_⟩
    rw [List.getElem_take] at h
    rw [cn_get (by omega)]
    exact of_decide_eq_true h
  · rintro ⟨k, h1, h2, h3⟩
    refine ⟨cnA l k, ?_, decide_eq_true h3⟩
    rw [cn_get h2]
    exact List.mem_take_iff_getElem.2 ⟨k, by omega, rfl⟩
theorem seenC_succ {l : List Cn} {i : Nat} (h : i < l.length) (r : Int) : seenC l (i + 1) r = (seenC l i r || decide ((cnA l i).2.2 = r)) := by
  unfold seenC
  rw [take_cn l i h, List.any_append]
  simp
theorem chk_vec {l : List Cn} : chkC l = 0 ↔ VecC l := by
  constructor
  · intro h
    have hz : ∀ i, i < l.length → Vld (cnA l i) ∧ ¬ seenC l i (cnA l i).2.2 = true ∧ ¬ (0 < i ∧ (cnA l i).2.2 < (cnA l (i - 1)).2.2) := fun i hi => by
      have e := fstC_each h i hi
      unfold errC at e
      split at e
      · cases e
      · rename_i k1
        split at e
        · cases e
        · rename_i k2
          split at e
          · cases e
          · rename_i k3
            exact ⟨Classical.not_not.1 k1, k2, k3⟩
    have step : ∀ i, i + 1 < l.length → (cnA l i).2.2 < (cnA l (i + 1)).2.2 := fun i hi => by
      obtain ⟨_, h2, h3⟩ := hz (i + 1) hi
      rw [Nat.add_sub_cancel] at h3
      have : (cnA l i).2.2 ≠ (cnA l (i + 1)).2.2 := fun e => h2 (seenC_iff.2 ⟨i, by omega, by omega, e⟩)
      omega
    have all : ∀ d i, i + d + 1 < l.length → (cnA l i).2.2 < (cnA l (i + d + 1)).2.2 := by
      intro d
      induction d with
      | zero => intro i hi; exact step i hi
      | succ d ih =>
        intro i hi
        have h1 := ih i (by omega)
        have h2 := step (i + d + 1) hi
        have e : i + (d + 1) + 1 = i + d + 1 + 1 := by omega
        rw [e]; omega
    refine ⟨fun c hc => ?_, List.pairwise_iff_getElem.2 fun i j hi hj hij => ?_⟩
    · obtain ⟨i, hi, rfl⟩ := List.mem_iff_getElem.1 hc
      have := (hz i hi).1
      rwa [cn_get hi] at this
    · have := all (j - i - 1) i (by omega)
      rw [show i + (j - i - 1) + 1 = j by omega, cn_get hi, cn_get hj] at this
      exact this
  · intro h
    refine fstC_zero fun i hi => ?_
    have hp := List.pairwise_iff_getElem.1 h.2
    unfold errC
    rw [if_neg (fun k => k (h.1 _ (cn_mem hi))), if_neg, if_neg]
    · rintro ⟨h0, h1⟩
      have := hp (i - 1) i (by omega) hi (by omega)
      rw [cn_get hi, cn_get (by omega)] at h1
      omega
    · intro k
      obtain ⟨j, h1, h2, h3⟩ := seenC_iff.1 k
      have := hp j i h2 hi h1
      rw [cn_get hi, cn_get h2] at h3
      omega
/-- the vector as which a list counts -/
def vecO (l : List Cn) : List Cn := if chkC l = 0 then l else []
theorem vecO_vec (l : List Cn) : VecC (vecO l) := by
  unfold vecO
  split
  · rename_i h; exact chk_vec.1 h
  · exact vec_nil
theorem vecO_self {l : List Cn} (h : VecC l) : vecO l = l := if_pos (chk_vec.2 h)
theorem vecO_len (l : List Cn) : (vecO l).length ≤ l.length := by
  unfold vecO
  split
  · exact Nat.le_refl _
  · simp
def covC (v : List Cn) (c : Cn) : Bool := decide (Vld c) && (vecO v).any fun e => decide (e.2.2 = c.2.2) && !decide (ltC e c)
def joinC (a b : List Cn) : List Cn := lstC (vecO a ++ vecO b)
def noteC (v : List Cn) (c : Cn) : List Cn := joinC v [c]
theorem vecO_one (c : Cn) : vecO [c] = if Vld c then [c] else [] := by
  by_cases h : Vld c
  · rw [if_pos h, vecO_self (vec_one h)]
  · rw [if_neg h]
    unfold vecO
    rw [if_neg fun e => h ((chk_vec.1 e).1 c (by simp))]
theorem note_is (v : List Cn) (c : Cn) : noteC v c = if Vld c then lstC (vecO v ++ [c]) else vecO v := by
  unfold noteC joinC
  rw [vecO_one]
  split
  · rfl
  · rw [List.append_nil, lst_self (vecO_vec v)]
/-! ### what the statements say -/
end Csn
end Go.Proofs.YtbkignlbcneddaaGreatDoor
end

section
/-
  Change sequence numbers as they lie in memory: a box, a slice that is read, a slice of the call's own that grows. Condition: at most 1000000000 numbers.
-/
set_option maxRecDepth 100000
namespace Go.Proofs.YtbkignlbcneddaaGreatDoor
namespace Csn
open Go.RowKit Go.PlainAid
def cnV (c : Cn) : Value := .agg #[.int .i64 c.1, .int .i64 c.2.1, .int .i64 c.2.2]
def cnB (c : Cn) : Obj := .cells #[.int .i64 c.1, .int .i64 c.2.1, .int .i64 c.2.2] 23
/-- a slice's numbers, as they lie in memory -/
def IsCns (w : World) (b off : Nat) (ps : List Cn) : Prop :=
  b < w.heap.size ∧ ∀ j, j < ps.length → w.cell? ⟨b, off + j * 3, none⟩ = some (.int .i64 (cnA ps j).1) ∧ w.cell? ⟨b, off + j * 3 + 1, none⟩ = some (.int .i64 (cnA ps j).2.1) ∧ w.cell? ⟨b, off + j * 3 + 2, none⟩ = some (.int .i64 (cnA ps j).2.2)
theorem IsCns.below {w w' : World} {b off : Nat} {ps : List Cn} (h : IsCns w b off ps) {B : Nat} (hb : Below B w w') (hB : b < B) : IsCns w' b off ps :=
  ⟨Nat.lt_of_lt_of_le h.1 hb.size, fun j hj => by
    rw [hb.cell (p := ⟨b, off + j * 3, none⟩) hB, hb.cell (p := ⟨b, off + j * 3 + 1, none⟩) hB, hb.cell (p := ⟨b, off + j * 3 + 2, none⟩) hB]; exact h.2 j hj⟩
def CnsAt (w : World) (ao : Option Addr) (n cap : Nat) (ps : List Cn) : Prop :=
  ps.length = n ∧ n ≤ cap ∧ cap ≤ maxLen ∧ (0 < n → ∃ b off, ao = some ⟨b, off, none⟩ ∧ IsCns w b off ps) ∧ (ao = none → cap = 0)
theorem CnsAt.below {w w' : World} {ao : Option Addr} {n cap : Nat} {ps : List Cn} (h : CnsAt w ao n cap ps) (hb : Below w.heap.size w w') : CnsAt w' ao n cap ps :=
  ⟨h.1, h.2.1, h.2.2.1, fun hn => by
    obtain ⟨b, off, e, hi⟩ := h.2.2.2.1 hn
    exact ⟨b, off, e, hi.below hb hi.1⟩, h.2.2.2.2⟩
theorem cns_nil (w : World) : CnsAt w none 0 0 [] := ⟨rfl, Nat.le_refl _, by unfold maxLen; omega, fun h => absurd h (Nat.lt_irrefl _), fun _ => rfl⟩
theorem box_cells (w : World) (c : Cn) : (w.alloc (cnB c)).cell? ⟨w.heap.size, 0, none⟩ = some (.int .i64 c.1) ∧ (w.alloc (cnB c)).cell? ⟨w.heap.size, 1, none⟩ = some (.int .i64 c.2.1) ∧ (w.alloc (cnB c)).cell? ⟨w.heap.size, 2, none⟩ = some (.int .i64 c.2.2) := by
  have h : (w.alloc (cnB c)).heap[w.heap.size]? = some (cnB c) := heap_alloc_new w _
  refine ⟨?_, ?_, ?_⟩ <;> (unfold World.cell?; rw [h]; rfl)
theorem box_below (w : World) (o : Obj) : Below w.heap.size w (w.alloc o) := (Below.refl w.heap.size w).alloc (Nat.le_refl _) o
theorem box_lt (w : World) (o : Obj) : w.heap.size < (w.alloc o).heap.size := by show _ < (w.heap.push _).size; simp
theorem cns_new (w : World) (c : Cn) : CnsAt (w.alloc (cnB c)) (some ⟨w.heap.size, 0, none⟩) 1 1 [c] := by
  refine ⟨rfl, Nat.le_refl _, by unfold maxLen; omega, fun _ => ⟨w.heap.size, 0, rfl, box_lt _ _, fun j hj => ?_⟩, fun h => (by cases h)⟩
  have hj0 : j = 0 := by simp at hj; omega
  subst hj0
  exact box_cells w c
/-- the cells of numbers -/
def ccells (l : List Cn) : List Value := l.flatMap fun p => [.int .i64 p.1, .int .i64 p.2.1, .int .i64 p.2.2]
theorem ccells_app (l m : List Cn) : ccells (l ++ m) = ccells l ++ ccells m := by simp [ccells]
theorem ccells_len : ∀ l : List Cn, (ccells l).length = l.length * 3
  | [] => rfl
  | p :: l => by
    have h := ccells_len l
    have e : ccells (p :: l) = .int .i64 p.1 :: .int .i64 p.2.1 :: .int .i64 p.2.2 :: ccells l := rfl
    rw [e, List.length_cons, List.length_cons, List.length_cons, h, List.length_cons]; omega
theorem ccells_at : ∀ (l : List Cn) (j : Nat), j < l.length → (ccells l)[j * 3]? = some (.int .i64 (cnA l j).1) ∧ (ccells l)[j * 3 + 1]? = some (.int .i64 (cnA l j).2.1) ∧ (ccells l)[j * 3 + 2]? = some (.int .i64 (cnA l j).2.2)
  | [], j, h => absurd h (Nat.not_lt_zero _)
  | p :: l, 0, h => ⟨rfl, rfl, rfl⟩
  | p :: l, j + 1, h => by
    have := ccells_at l j (by simpa using h)
    have e : ccells (p :: l) = .int .i64 p.1 :: .int .i64 p.2.1 :: .int .i64 p.2.2 :: ccells l := rfl
    rw [e, show (j + 1) * 3 = j * 3 + 1 + 1 + 1 by omega, show j * 3 + 1 + 1 + 1 + 1 = (j * 3 + 1) + 1 + 1 + 1 by omega, show j * 3 + 1 + 1 + 1 + 2 = (j * 3 + 2) + 1 + 1 + 1 by omega]
    simp only [List.getElem?_cons_succ]
    exact this
theorem ccells_one (l : List Cn) : ∀ u ∈ ccells l, u.oneCell' = true := by
  intro u hu
  obtain ⟨p, _, hp⟩ := List.mem_flatMap.1 hu
  simp at hp
  rcases hp with rfl | rfl | rfl <;> rfl
theorem info_cn : (Tryz.prog.info? 23).map (fun i => (i.zero, i.size, i.bytes)) = some (some (.agg #[.int .i64 0, .int .i64 0, .int .i64 0]), 3, 24) := by kernel_rfl
theorem info_cparts {t : TypeId} {z : Value} {n b : Nat} (h : (Tryz.prog.info? t).map (fun i => (i.zero, i.size, i.bytes)) = some (some z, n, b)) : ∃ i, Tryz.prog.info? t = some i ∧ i.zero = some z ∧ i.size = n ∧ i.bytes = b := by
  cases hi : Tryz.prog.info? t with
  | none => rw [hi] at h; cases h
  | some i =>
    rw [hi] at h
    simp only [Option.map_some, Option.some.injEq, Prod.mk.injEq] at h
    exact ⟨i, rfl, h.1, h.2.1, h.2.2⟩
theorem cns_cells {w : World} {b off : Nat} {ps : List Cn} (h : IsCns w b off ps) : ∀ j u, (ccells ps)[j]? = some u → w.cell? ((⟨b, off, none⟩ : Addr).add j) = some u := by
  intro j u hj
  rw [WideShapes.add_plain]
  have hl : j < (ccells ps).length := by
    rcases Nat.lt_or_ge j (ccells ps).length with k | k
    · exact k
    · rw [List.getElem?_eq_none k] at hj; cases hj
  rw [ccells_len] at hl
  have hk := ccells_at ps (j / 3) (by omega)
  have hc := h.2 (j / 3) (by omega)
  have e3 : j % 3 = 0 ∨ j % 3 = 1 ∨ j % 3 = 2 := by omega
  rcases e3 with e | e | e
  · have e2 : j / 3 * 3 = j := by omega
    rw [e2] at hk hc
    rw [hk.1] at hj
    rw [hc.1]; exact hj
  · have e2 : j / 3 * 3 + 1 = j := by omega
    rw [e2] at hk
    rw [show off + j / 3 * 3 + 1 = off + j by omega] at hc
    rw [hk.2.1] at hj
    rw [hc.2.1]; exact hj
  · have e2 : j / 3 * 3 + 2 = j := by omega
    rw [e2] at hk
    rw [show off + j / 3 * 3 + 2 = off + j by omega] at hc
    rw [hk.2.2] at hj
    rw [hc.2.2]; exact hj
/-- 'l = append(l, cs...)' where l is the call's own -/
theorem app_cns {ops : Array Oper} {rest : List Oper} {o : Oper} {a : Act} {Q : Exit → Act → World → Prop} (wr : World) {base : Nat} {v : Value} {n : Nat} {xs : List Value} (hown : wr.ownsRow base 23 3 v n xs) (s x : Operand)
    (ao : Option Addr) (m c : Nat) (news : List Cn) (hgd : o.guard = none)
    (ho : o.op = .call { callee := .builtin .append, args := #[s, x], argTypes := #[43, 43] })
    (hs : a.eval s = v) (hx : a.eval x = .slice ao m c) (hw : CnsAt wr ao m c news) (hn : n + m ≤ 1000000000) (hbase : base ≤ wr.heap.size)
    (h : ∀ v' w', w'.ownsRow base 23 3 v' (n + m) (xs ++ ccells news) → Below base wr w' → wpList Tryz.prog ops Q rest (a.put o.dst v') w') :
    wpList Tryz.prog ops Q (o :: rest) a wr := by
  obtain ⟨i0, hi, hz0, hz1, hz2⟩ := info_cparts info_cn
  obtain ⟨w1, w2, w3, w4, w5⟩ := hw
  cases ao with
  | none =>
    have hc := w5 rfl
    subst hc
    have hm : m = 0 := by omega
    subst hm
    have hnil : news = [] := List.length_eq_zero_iff.1 w1
    subst hnil
    refine wpList_append_own_none hgd s x 43 ho base 23 i0 3 Tryz.underlying43 hi v n xs hs hown hx ?_
    have := h v wr (by rw [show ccells [] = [] from rfl, List.append_nil]; exact hown) (Below.refl _ _)
    exact this
  | some ad =>
    have hnews : ∀ j u, (ccells news)[j]? = some u → wr.cell? (ad.add j) = some u := by
      rcases Nat.eq_zero_or_pos m with e | e
      · have hnil : news = [] := List.length_eq_zero_iff.1 (by omega)
        subst hnil
        intro j u hj; simp [ccells] at hj
      · obtain ⟨b, off, e2, hi2⟩ := w4 e
        cases e2
        exact cns_cells hi2
    refine wpList_append_own _ hgd s x 43 ho base 23 i0 (.agg #[.int .i64 0, .int .i64 0, .int .i64 0]) 3 24 Tryz.underlying43 hi hz0 hz1 hz2 rfl (by decide) v n xs hs hown ad m c (ccells news) hx (by rw [ccells_len, w1]) hnews
      (ccells_one _) (by unfold maxLen; omega) (by omega) hbase ?_
    intro v' w' h1 h2 _
    exact h v' w' h1 ((Below.refl base wr).grown h2 hbase (fun k hk => (hown.lt k hk).1))
theorem cns_of_owns {w : World} {base : Nat} {v : Value} {n : Nat} {ps : List Cn} (h : w.ownsRow base 23 3 v n (ccells ps)) : ∃ ao cap, v = .slice ao n cap ∧ CnsAt w ao n cap ps := by
  have h0 := h
  obtain ⟨hl, ⟨rfl, hz⟩ | ⟨g, cap, cur, rfl, h2, h3, h4, h5, h6⟩⟩ := h
  · rw [ccells_len] at hl
    have hn : ps.length = n := by omega
    subst hz
    exact ⟨none, 0, rfl, hn, Nat.le_refl _, by unfold maxLen; omega, fun h => absurd h (Nat.lt_irrefl _), fun _ => rfl⟩
  · rw [ccells_len] at hl
    have hlen : ps.length = n := by omega
    refine ⟨some ⟨g, 0, none⟩, cap, rfl, hlen, h4, h5, fun _ => ⟨g, 0, rfl, (Array.getElem?_eq_some_iff.1 h3).1, fun j hj => ?_⟩, fun e => (by cases e)⟩
    have hk := ccells_at ps j hj
    have k1 := h0.cells rfl _ _ hk.1
    have k2 := h0.cells rfl _ _ hk.2.1
    have k3 := h0.cells rfl _ _ hk.2.2
    rw [WideShapes.add_plain] at k1 k2 k3
    exact ⟨k1, by rw [show 0 + j * 3 + 1 = 0 + (j * 3 + 1) by omega]; exact k2, by rw [show 0 + j * 3 + 2 = 0 + (j * 3 + 2) by omega]; exact k3⟩
end Csn
end Go.Proofs.YtbkignlbcneddaaGreatDoor
end
