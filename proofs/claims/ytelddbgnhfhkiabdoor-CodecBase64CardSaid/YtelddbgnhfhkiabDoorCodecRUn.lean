/-
  Plain functions for the specification's way of reading escaped forms, and the contracts of its digit and Unescape. Condition: at most 1000000000 bytes.
-/
import Derived.Test.YtelddbgnhfhkiabDoorCodecREsc
import Derived.Test.YtelddbgnhfhkiabDoorCodecP
import Derived.Test.YtelddbgnhfhkiabDoorCodecSplit
set_option linter.unusedVariables false
set_option linter.unusedSimpArgs false
set_option linter.unnecessarySimpa false
namespace Go.Proofs.YtelddbgnhfhkiabDoor
open Go.RowKit Go.PlainAid

theorem hex_place : ∀ i : Nat, i < 16 → hexV (chr hexS i) = (i : Int) := by decide +kernel
theorem hex_none : ∀ n : Nat, n < 256 → hexV (UInt8.ofNat n) = -1 ∨ ∃ j : Nat, j < 16 ∧ chr hexS j = UInt8.ofNat n := by decide +kernel

set_option maxRecDepth 100000 in
set_option maxHeartbeats 1000000 in
theorem rdigit_any (x : Int) (c : UInt8) (w : World) (hx : x = (c.toNat : Int)) :
    Calls Tryd.prog 42 #[.int .u8 x] w fun e w' => e = .returned (.int .i64 (hexV c)) ∧ w = w' := by
  have hxs := get_bt (⟨#[48, 49, 50, 51, 52, 53, 54, 55, 56, 57, 65, 66, 67, 68, 69, 70]⟩ : ByteArray)
  have HX := Lib.hid hx; clear hx
  go_enter Tryd.func42, Tryd.ntmps42
  go_wp2
  go_loop [3] (fun i => ∃ k : Nat, k ≤ 16 ∧ i = .int .i64 k ∧ Hid (∀ j, j < k → chr hexS j ≠ c)) (fun i => 16 - (intOf i).toNat)
  case atStart => exact ⟨0, Nat.zero_le _, rfl, Lib.hid fun j hj => absurd hj (Nat.not_lt_zero _)⟩
  case round =>
    obtain ⟨k, hk, rfl, HA⟩ := hrel
    by_cases hlt : k < 16
    · have HC := Lib.hid (bt_chr hexS k)
      have k1 : (0 : Int) ≤ (k : Int) := by omega
      have k2 : (k : Int) < 16 := by omega
      cases c1 : (bt (⟨#[48, 49, 50, 51, 52, 53, 54, 55, 56, 57, 65, 66, 67, 68, 69, 70]⟩ : ByteArray) k == x)
      · have HN := Lib.hid (show chr hexS k ≠ c by
          intro e
          have h1 : bt hexS k = x := by rw [HC.out, e, HX.out]
          have h2 := beq_eq_false_iff_ne.1 c1
          exact h2 h1)
        go_wp2
        go_round
        case rel =>
          exact ⟨k + 1, by omega, by go_num, Lib.hid fun j hj => if e : j = k then by rw [e]; exact HN.out else HA.out j (by omega)⟩
        case measure => simp [intOf]; omega
      · have HE := Lib.hid (show hexV c = (k : Int) by
          have h2 : bt hexS k = x := beq_iff_eq.1 c1
          have h3 : chr hexS k = c := UInt8.toNat_inj.1 (by have := HC.out; have := HX.out; omega)
          rw [← h3]; exact hex_place k hlt)
        go_wp2
        go_ret
        exact ⟨by rw [HE.out]; rfl, rfl⟩
    · have HE := Lib.hid (show hexV c = -1 by
        rcases hex_none c.toNat c.toNat_lt with h | ⟨j, hj, h⟩
        · rwa [UInt8.ofNat_toNat] at h
        · rw [UInt8.ofNat_toNat] at h
          exact absurd h (HA.out j (by omega)))
      go_wp2
      go_ret
      exact ⟨by rw [HE.out]; rfl, rfl⟩

/-- the specification's scan: digits are read, whatever byte they make -/
def lax : List UInt8 → Option (List UInt8)
  | [] => some []
  | c :: r => if c = 37 then (match r with
      | a :: b :: r' => if hexV a < 0 ∨ hexV b < 0 then none else (lax r').map (UInt8.ofNat (16 * hexV a + hexV b).toNat :: ·)
      | _ => none) else (lax r).map (c :: ·)
theorem lax_of (l m : List UInt8) (h : unesc l = some m) : lax l = some m := by
  induction hn : l.length using Nat.strongRecOn generalizing l m with
  | ind n ih =>
    cases l with
    | nil => unfold unesc at h; cases h; rfl
    | cons c r =>
      unfold unesc at h
      unfold lax
      by_cases hc : c = 37
      · rw [if_pos hc] at h ⊢
        match r, h, hn with
        | a :: b :: r', h, hn =>
          simp only [] at h ⊢
          split at h
          · rename_i d hd
            obtain ⟨x, hx, rfl⟩ := Option.map_eq_some_iff.1 h
            have := ih r'.length (by simp at hn; omega) r' x hx rfl
            unfold decC at hd
            split at hd
            · cases hd
            · rename_i hneg
              split at hd
              · cases hd
              · cases hd
                rw [if_neg hneg, this]; rfl
          · cases h
        | [a], h, _ => cases h
        | [], h, _ => cases h
      · rw [if_neg hc] at h ⊢
        split at h
        · obtain ⟨x, hx, rfl⟩ := Option.map_eq_some_iff.1 h
          rw [ih r.length (by simp at hn; omega) r x hx rfl]; rfl
        · cases h
theorem unesc_lax_none {l : List UInt8} (h : lax l = none) : unesc l = none := by
  cases hu : unesc l with
  | none => rfl
  | some m => rw [lax_of l m hu] at h; cases h
theorem unesc_lax_ok {l m : List UInt8} (he : escL m = l) : unesc l = some m := by rw [← he]; exact unesc_esc m
theorem unesc_lax_bad {l m : List UInt8} (h : lax l = some m) (he : escL m ≠ l) : unesc l = none := by
  cases hu : unesc l with
  | none => rfl
  | some x =>
    have h2 := lax_of l x hu
    rw [h] at h2
    cases h2
    exact absurd (esc_unesc l m hu) he

theorem lax_step (s : ByteArray) (i : Nat) (h : i < s.size) (hc : chr s i ≠ 37) : lax (s.data.toList.drop i) = (lax (s.data.toList.drop (i + 1))).map (chr s i :: ·) := by
  rw [drop_chr s i h]; conv => lhs; unfold lax
  rw [if_neg hc]
theorem lax_short (s : ByteArray) (i : Nat) (h : i < s.size) (hc : chr s i = 37) (h2 : s.size ≤ i + 2) : lax (s.data.toList.drop i) = none := by
  rw [drop_chr s i h]; unfold lax
  rw [if_pos hc]
  have hl : (s.data.toList.drop (i + 1)).length < 2 := by rw [List.length_drop, ← Lib.size_eq]; omega
  match e : s.data.toList.drop (i + 1), hl with
  | [], _ => rfl
  | [x], _ => rfl
theorem lax_pct (s : ByteArray) (i : Nat) (hc : chr s i = 37) (h2 : i + 2 < s.size) : lax (s.data.toList.drop i) = if hexV (chr s (i + 1)) < 0 ∨ hexV (chr s (i + 2)) < 0 then none
    else (lax (s.data.toList.drop (i + 3))).map (UInt8.ofNat (16 * hexV (chr s (i + 1)) + hexV (chr s (i + 2))).toNat :: ·) := by
  rw [drop_chr s i (by omega), drop_chr s (i + 1) (by omega), drop_chr s (i + 1 + 1) (by omega)]
  conv => lhs; unfold lax
  rw [if_pos hc]

set_option maxRecDepth 100000 in
set_option maxHeartbeats 4000000 in
theorem runescape_s (s : ByteArray) (w : World) (hs : s.size ≤ 1000000000) :
    Calls Tryd.prog 30 #[.string s] w fun e w' => e = .returned (.tuple #[.string (unS s), .int .i64 (unE s)]) ∧ Below w.heap.size w w' := by
  have hb := get_bt s
  go_enter Tryd.func30, Tryd.ntmps30
  go_wp2
  go_loopw [4, 5] (fun bv iv wr => ∃ (i : Nat) (out : List UInt8), i ≤ s.size ∧ iv = .int .i64 i ∧ out.length ≤ i ∧ Hid (lax s.data.toList = (lax (s.data.toList.drop i)).map (out ++ ·)) ∧
      wr.ownsRow w.heap.size 5 1 bv out.length (bcells out) ∧ Below w.heap.size w wr)
    (fun _ iv _ => s.size - (intOf iv).toNat)
  case atStart => exact ⟨0, [], Nat.zero_le _, rfl, by simp, Lib.hid (by simp), World.ownsRow_nil _ _ _ _, Below.refl _ _⟩
  case round =>
    obtain ⟨i, out, hi, rfl, hol, HU, hown, hbel⟩ := hrel
    have h0 := bt_nonneg s i
    have h255 := bt_le s i
    by_cases hlt : i < s.size
    · have HC := Lib.hid (bt_chr s i)
      cases c0 : (bt s i == 37)
      · have H37 := Lib.hid (show chr s i ≠ 37 from fun e => by have := HC.out; rw [e] at this; rw [this] at c0; simp at c0)
        have c0' : (bt s i != 37) = true := by simpa using c0
        have HST := Lib.hid (lax_step s i hlt H37.out)
        go_wp2_with (at_builtin; go_must (refine push_byte _ hown (.tmp 16) (.tmp 20) _ ?_ ?_ ?_ ?_ ?_ ?_ ?_; exact rfl; exact rfl; exact rfl; exact rfl; omega; exact hbel.size; intro v' w1 hown1 hb1))
        go_roundw
        case rel => exact ⟨i + 1, out ++ [chr s i], by omega, by go_num, by simp; omega, Lib.hid (by rw [HU.out, HST.out, Option.map_map]; congr 1; funext l; simp), by rw [List.length_append, bcells_append]; rw [HC.out] at hown1; exact hown1, hbel.trans hb1⟩
        case measure => simp [intOf]; omega
      · have H37 := Lib.hid (show chr s i = 37 from by
          have : bt s i = 37 := by simpa using c0
          rw [HC.out] at this; exact UInt8.toNat_inj.1 (by have h3 : (37 : UInt8).toNat = 37 := rfl; omega))
        have c0' : (bt s i != 37) = false := by simpa using c0
        by_cases h2 : s.size ≤ i + 2
        · have HF := Lib.hid (show unesc s.data.toList = none from unesc_lax_none (by rw [HU.out, lax_short s i hlt H37.out h2]; rfl))
          have HN := Lib.hid (unS_none HF.out)
          go_wp2
          go_ret2
          exact ⟨by rw [HN.out.1, HN.out.2]; rfl, hbel⟩
        · have HST := Lib.hid (lax_pct s i H37.out (by omega))
          have r0 := hexV_le (chr s (i + 1))
          have r1 := hexV_le (chr s (i + 2))
          have H1 := Lib.hid (bt_chr s (i + 1))
          have H2 := Lib.hid (bt_chr s (i + 2))
          obtain ⟨v0, hv0⟩ : ∃ v, v = hexV (chr s (i + 1)) := ⟨_, rfl⟩
          obtain ⟨v1, hv1⟩ : ∃ v, v = hexV (chr s (i + 2)) := ⟨_, rfl⟩
          rw [← hv0, ← hv1] at HST
          rw [← hv0] at r0
          rw [← hv1] at r1
          have HV0 := Lib.hid hv0; have HV1 := Lib.hid hv1; clear hv0 hv1
          by_cases n0 : v0 < 0
          · have HF := Lib.hid (show unesc s.data.toList = none from unesc_lax_none (by rw [HU.out, HST.out, if_pos (.inl n0)]; rfl))
            have HN := Lib.hid (unS_none HF.out)
            go_wp2_with (go_at_call 42; (with_reducible refine (rdigit_any _ (chr s (i + 1)) _ H1.out).mono ?_); rintro e w' ⟨rfl, rfl⟩; rw [← HV0.out])
            go_ret2
            exact ⟨by rw [HN.out.1, HN.out.2]; rfl, hbel⟩
          · by_cases n1 : v1 < 0
            · have HF := Lib.hid (show unesc s.data.toList = none from unesc_lax_none (by rw [HU.out, HST.out, if_pos (.inr n1)]; rfl))
              have HN := Lib.hid (unS_none HF.out)
              go_wp2_with (first
                | (go_at_call 42; (with_reducible refine (rdigit_any _ (chr s (i + 1)) _ H1.out).mono ?_); rintro e w' ⟨rfl, rfl⟩; rw [← HV0.out])
                | (go_at_call 42; (with_reducible refine (rdigit_any _ (chr s (i + 2)) _ H2.out).mono ?_); rintro e w' ⟨rfl, rfl⟩; rw [← HV1.out]))
              go_ret2
              exact ⟨by rw [HN.out.1, HN.out.2]; rfl, hbel⟩
            · rw [if_neg (by omega)] at HST
              go_wp2_with (first
                | (go_at_call 42; (with_reducible refine (rdigit_any _ (chr s (i + 1)) _ H1.out).mono ?_); rintro e w' ⟨rfl, rfl⟩; rw [← HV0.out])
                | (go_at_call 42; (with_reducible refine (rdigit_any _ (chr s (i + 2)) _ H2.out).mono ?_); rintro e w' ⟨rfl, rfl⟩; rw [← HV1.out]))
              obtain ⟨i0, hi0, hz0, hz1, hz2⟩ := info_parts info5
              obtain ⟨x, hxe⟩ : ∃ x, x = 16 * v0 + v1 := ⟨_, rfl⟩
              have hxr : 0 ≤ x ∧ x ≤ 255 := by omega
              have m1 : IntKind.i64.wrap (16 * v0) = 16 * v0 := IntWalk.i64_in _ (by omega)
              have m2 : IntKind.i64.wrap (16 * v0 + v1) = x := by rw [hxe]; exact IntWalk.i64_in _ (by omega)
              have m3 : IntKind.u8.wrap x = x := IntWalk.u8_in _ (by omega)
              have m4 : 16 * v0 + v1 = x := hxe.symm
              have m7 : IntKind.i64.wrap x = x := IntWalk.i64_in _ (by omega)
              have HX := Lib.hid hxe; clear hxe
              have m5 : IntKind.i64.wrap ((i : Int) + 1) = (i : Int) + 1 := IntWalk.i64_in _ (by omega)
              have m6 : IntKind.i64.wrap ((i : Int) + 2) = (i : Int) + 2 := IntWalk.i64_in _ (by omega)
              have k1 : (0 : Int) ≤ (i : Int) + 1 := by omega
              have k2 : (i : Int) + 1 < (s.size : Int) := by omega
              have k3 : (0 : Int) ≤ (i : Int) + 2 := by omega
              have k4 : (i : Int) + 2 < (s.size : Int) := by omega
              have k5 : ((i : Int) + 2).toNat = i + 2 := by omega
              have k6 : ((i : Int) + 1).toNat = i + 1 := by omega
              go_region_held3 (fun _ => True) (trivial)
                (first
                  | (go_at_call 42; (with_reducible refine (rdigit_any _ (chr s (i + 1)) _ H1.out).mono ?_); rintro e w' ⟨rfl, rfl⟩; rw [← HV0.out])
                  | (go_at_call 42; (with_reducible refine (rdigit_any _ (chr s (i + 2)) _ H2.out).mono ?_); rintro e w' ⟨rfl, rfl⟩; rw [← HV1.out])
                  | (refine step_append_lies _ (by rfl) _ _ _ (by rfl) w.heap.size 5 i0 _ 1 1 Tryd.underlying55 hi0 hz0 hz1 hz2 rfl (by omega) _ _ _ (by rfl) ((hown.alloc _).drew)
                      ⟨wr.heap.size, 0, none⟩ 1 1 _ (by rfl) (by rfl) (World.news_of_block (heap_alloc_new wr _)) (by simp [Value.oneCell'])
                      (by omega) (by unfold maxLen; omega) (by omega) (by have := hbel.size; simp; omega) (wr.heap.size + 1) (by simp) ?_; intro gg cap w1 hown1 hgrow hat hlt1))
              all_goals
                have hbel1 : Below w.heap.size w w1 := (((hbel.alloc hbel.size _).drew).grown hgrow (by have := hbel.size; simp; omega) (fun j hj => (hown.lt j hj).1))
                have HXN := Lib.hid (show x = ((UInt8.ofNat x.toNat).toNat : Int) by rw [UInt8.toNat_ofNat']; omega)
                have HOW := Lib.hid (show w1.ownsRow w.heap.size 5 1 (.slice (some ⟨gg, 0, none⟩) (out.length + 1) cap) (out.length + 1) (bcells (out ++ [UInt8.ofNat x.toNat])) by
                  rw [bcells_append]
                  have e : bcells [UInt8.ofNat x.toNat] = [.int .u8 x] := by show [Value.int .u8 ((UInt8.ofNat x.toNat).toNat : Int)] = _; rw [← HXN.out]
                  rw [e]; exact hown1)
                clear hown1 m5 m6 m1 m2 m3 m4 m7
                go_wp2
                go_roundw
                case rel =>
                  refine ⟨i + 3, out ++ [UInt8.ofNat x.toNat], by omega, by go_num, by simp; omega, Lib.hid (by rw [HU.out, HST.out, HX.out, Option.map_map]; congr 1; funext l; simp), ?_, hbel1⟩
                  rw [List.length_append]
                  exact HOW.out
                case measure => simp [intOf]; omega
    · have HL := Lib.hid (show lax s.data.toList = some out by rw [HU.out, List.drop_eq_nil_of_le (by rw [← Lib.size_eq]; omega)]; simp [lax])
      have hbk := back hown
      by_cases he : escL out = s.data.toList
      · have HE := Lib.hid (unS_some (unesc_lax_ok he))
        have HS := Lib.hid (show (⟨(escL (ofL out).data.toList).toArray⟩ : ByteArray) = s by
          have e : (ofL out).data.toList = out := rfl
          rw [e, he])
        have hol2 : (ofL out).size ≤ 1000000000 := by show out.length ≤ _; omega
        go_wp2_with (go_at_call 43; refine (rescape_any (ofL out) _ hol2).mono ?_; rintro e w1 ⟨rfl, hb1⟩; rw [HS.out]; have hbk1 := back (own_below hown hb1))
        go_ret2
        exact ⟨by rw [HE.out.1, HE.out.2]; rfl, hbel.trans (hb1.mono hbel.size)⟩
      · have HE := Lib.hid (unS_none (unesc_lax_bad HL.out he))
        have hol2 : (ofL out).size ≤ 1000000000 := by show out.length ≤ _; omega
        have hq : (escL (ofL out).data.toList == s.toList) = false := by
          rw [Lib.toList_data]
          exact beq_false_of_ne he
        clear he
        go_wp2_with (go_at_call 43; refine (rescape_any (ofL out) _ hol2).mono ?_; rintro e w1 ⟨rfl, hb1⟩)
        go_ret2
        exact ⟨by rw [HE.out.1, HE.out.2]; rfl, hbel.trans (hb1.mono hbel.size)⟩

end Go.Proofs.YtelddbgnhfhkiabDoor
