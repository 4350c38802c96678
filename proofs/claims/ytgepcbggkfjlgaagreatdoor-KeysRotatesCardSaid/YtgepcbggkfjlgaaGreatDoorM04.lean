/-
  Texts of the schema layer and of those beneath it, joined: CodecSplit, CodecRUn, LawFrame, CodecRCut, WinA, ClkA, ClkB. Conditions stand at each contract.
-/
import Derived.WalkKit
import Derived.ProofKit
import Derived.OpenShut
import Derived.Deep.DeepHandedRow
import Derived.Lay
import Derived.Shelf.Vars
import Derived.SliceStrings
import Derived.PlainAid
import Derived.Deep.QuietTactic
import Derived.BigQuiet
import Derived.Lib.MinMax
import Derived.Deep.RegionHeld3
import Derived.Test.YtgepcbggkfjlgaaGreatDoorCards
import Derived.Test.YtgepcbggkfjlgaaGreatDoorTie
import Derived.Test.YtgepcbggkfjlgaaGreatDoorM01
import Derived.Test.YtgepcbggkfjlgaaGreatDoorM02
import Derived.Test.YtgepcbggkfjlgaaGreatDoorM03

section
/-
  The contract of codec.Split. Condition: at most 1000000 bytes.
-/
set_option maxRecDepth 100000
set_option linter.unusedVariables false
set_option linter.unusedSimpArgs false
set_option linter.unnecessarySimpa false
namespace Go.Proofs.YtgepcbggkfjlgaaGreatDoor
open Go.RowKit Go.PlainAid

theorem cut_b (t : ByteArray) (b : UInt8) (w : World) (ht : t.size ≤ 1000000000) (hm : MaxOk w) :
    Calls Tryz.prog 53 #[.string t, .string ⟨#[b]⟩] w fun e w' => e = .returned (.tuple #[.string (cutBef t ⟨#[b]⟩), .string (cutAft t ⟨#[b]⟩), .bool (cutOk t ⟨#[b]⟩)]) ∧ Below w.heap.size w w' := by
  obtain ⟨m, hm⟩ := hm
  refine (Tryz.strings_Cut t ⟨#[b]⟩ m w (by omega) hm).mono fun e w' h => ⟨h.1, ?_⟩
  obtain ⟨n, rfl⟩ := h.2
  exact ⟨rfl, rfl, rfl, Nat.le_refl _, fun _ _ => rfl⟩

/-- the cells of strings -/
def scells (l : List ByteArray) : List Value := l.map Value.string
theorem info_string : (Tryz.prog.info? 9).map (fun i => (i.zero, i.size, i.bytes)) = some (some (.string ⟨#[]⟩), 1, 16) := by kernel_rfl
/-- 'l = append(l, s)' where l is the call's own -/
theorem push_str {ops : Array Oper} {rest : List Oper} {o : Oper} {a : Act} {Q : Exit → Act → World → Prop} (wr : World) {base : Nat} {v : Value} {n : Nat} {xs : List Value} (hown : wr.ownsRow base 9 1 v n xs) (s x : Operand)
    (p : ByteArray) (hgd : o.guard = none)
    (ho : o.op = .call { callee := .builtin .append, args := #[s, x], argTypes := #[88, 88] })
    (hs : a.eval s = v) (hx : a.eval x = .slice (some ⟨wr.heap.size, 0, none⟩) 1 1) (hn : n + 1 ≤ 1000000000) (hbase : base ≤ wr.heap.size)
    (h : ∀ v' w', w'.ownsRow base 9 1 v' (n + 1) (xs ++ [.string p]) → Below base wr w' → wpList Tryz.prog ops Q rest (a.put o.dst v') w') :
    wpList Tryz.prog ops Q (o :: rest) a (wr.alloc (.cells #[.string p] 9)) := by
  obtain ⟨i0, hi, hz0, hz1, hz2⟩ := info_parts info_string
  refine wpList_append_own _ hgd s x 88 ho base 9 i0 (.string ⟨#[]⟩) 1 16 Tryz.underlying88 hi hz0 hz1 hz2 rfl (by decide) v n xs hs (hown.alloc _) ⟨wr.heap.size, 0, none⟩ 1 1 [.string p] hx rfl
    (cell_one_new _ _ _) (by intro u hu; simp at hu; subst hu; rfl) (by unfold maxLen; omega) (by omega) (by simp; omega) ?_
  intro v' w' h1 h2 _
  refine h v' w' h1 ?_
  exact ((Below.refl base wr).alloc hbase _).grown h2 (by simp; omega) (fun k hk => (hown.lt k hk).1)

def boolN : Value → Nat
  | .bool true => 1
  | _ => 0
/-- what Split returns: a value that owns the strings, and the error -/
def SplitPost (s : ByteArray) (w : World) (e : Ending) (w' : World) : Prop :=
  ∃ v, e = .returned (.tuple #[v, .int .i64 (splE s)]) ∧ w'.ownsRow w.heap.size 9 1 v (splS s).length (scells (splS s)) ∧ Below w.heap.size w w'

theorem unS_some {s : ByteArray} {x : List UInt8} (h : unesc s.data.toList = some x) : unS s = ofL x ∧ unE s = 0 := by unfold unS unE ofL; rw [h]; exact ⟨rfl, rfl⟩
theorem unS_none {s : ByteArray} (h : unesc s.data.toList = none) : unS s = ⟨#[]⟩ ∧ unE s = 4 := by unfold unS unE; rw [h]; exact ⟨rfl, rfl⟩
theorem unescape_no (s : ByteArray) (w : World) (hs : s.size ≤ 1000000000) (h : unesc s.data.toList = none) :
    Calls Tryz.prog 81 #[.string s] w fun e w' => e = .returned (.tuple #[.string ⟨#[]⟩, .int .i64 4]) ∧ Below w.heap.size w w' :=
  (unescape_s s w hs).mono fun e w' k => ⟨by rw [k.1, (unS_none h).1, (unS_none h).2], k.2⟩
theorem unescape_ok (s : ByteArray) (x : List UInt8) (w : World) (hs : s.size ≤ 1000000000) (h : unesc s.data.toList = some x) :
    Calls Tryz.prog 81 #[.string s] w fun e w' => e = .returned (.tuple #[.string (ofL x), .int .i64 0]) ∧ Below w.heap.size w w' :=
  (unescape_s s w hs).mono fun e w' k => ⟨by rw [k.1, (unS_some h).1, (unS_some h).2], k.2⟩
theorem own_below {w w' : World} {base : Nat} {e : TypeId} {size : Nat} {v : Value} {n : Nat} {xs : List Value} (h : w.ownsRow base e size v n xs) (hb : Below w.heap.size w w') : w'.ownsRow base e size v n xs :=
  h.kept (row := none) ⟨hb.os, hb.tape, hb.output, hb.size, fun k hk _ => hb.block k hk⟩ (by
    cases h : v.ownBlock
    · exact .inl rfl
    · exact .inr (by simp))

end Go.Proofs.YtgepcbggkfjlgaaGreatDoor
end

section
/-
  Plain functions for the specification's way of reading escaped forms, and the contracts of its digit and Unescape. Condition: at most 1000000000 bytes.
-/
set_option maxRecDepth 100000
set_option linter.unusedVariables false
set_option linter.unusedSimpArgs false
set_option linter.unnecessarySimpa false
namespace Go.Proofs.YtgepcbggkfjlgaaGreatDoor
open Go.RowKit Go.PlainAid

theorem hex_place : ∀ i : Nat, i < 16 → hexV (chr hexS i) = (i : Int) := by decide +kernel
theorem hex_none : ∀ n : Nat, n < 256 → hexV (UInt8.ofNat n) = -1 ∨ ∃ j : Nat, j < 16 ∧ chr hexS j = UInt8.ofNat n := by decide +kernel

set_option maxRecDepth 100000 in
set_option maxHeartbeats 1000000 in
theorem rdigit_any (x : Int) (c : UInt8) (w : World) (hx : x = (c.toNat : Int)) :
    Calls Tryz.prog 102 #[.int .u8 x] w fun e w' => e = .returned (.int .i64 (hexV c)) ∧ w = w' := by
  have hxs := get_bt (⟨#[48, 49, 50, 51, 52, 53, 54, 55, 56, 57, 65, 66, 67, 68, 69, 70]⟩ : ByteArray)
  have HX := Lib.hid hx; clear hx
  go_enter Tryz.func102, Tryz.ntmps102
  go_wp2
  go_loop [3] (fun i => ∃ k : Nat, k ≤ 16 ∧ i = .int .i64 k ∧ Hid (∀ j, j < k → chr hexS j ≠ c)) (fun i => 16 - (intOf i).toNat)
  case atStart => exact ⟨0, Nat.zero_le _, rfl, Lib.hid fun j hj => absurd hj (Nat.not_lt_zero _)⟩
  case round =>
    obtain ⟨k, hk, rfl, HA⟩ := hrel
    by_cases hlt : k < 16
    · have HC := Lib.hid (bt_chr hexS k)
      have k1 : (0 : Int) ≤ (k : Int) := by omega
      have k2 : (k : Int) < 16 := by omega
      cases c1 : (bt (⟨#[48, 49, 50, 51, 52, 53, 54, 55, 56, 57, 65, 66, 67, 68, 69, 70]⟩ : ByteArray) k == x)
      · have HN := Lib.hid (show chr hexS k ≠ c by
          intro e
          have h1 : bt hexS k = x := by rw [HC.out, e, HX.out]
          have h2 := beq_eq_false_iff_ne.1 c1
          exact h2 h1)
        go_wp2
        go_round
        case rel =>
          exact ⟨k + 1, by omega, by go_num, Lib.hid fun j hj => if e : j = k then by rw [e]; exact HN.out else HA.out j (by omega)⟩
        case measure => simp [intOf]; omega
      · have HE := Lib.hid (show hexV c = (k : Int) by
          have h2 : bt hexS k = x := beq_iff_eq.1 c1
          have h3 : chr hexS k = c := UInt8.toNat_inj.1 (by have := HC.out; have := HX.out; omega)
          rw [← h3]; exact hex_place k hlt)
        go_wp2
        go_ret
        exact ⟨by rw [HE.out]; rfl, rfl⟩
    · have HE := Lib.hid (show hexV c = -1 by
        rcases hex_none c.toNat c.toNat_lt with h | ⟨j, hj, h⟩
        · rwa [UInt8.ofNat_toNat] at h
        · rw [UInt8.ofNat_toNat] at h
          exact absurd h (HA.out j (by omega)))
      go_wp2
      go_ret
      exact ⟨by rw [HE.out]; rfl, rfl⟩

/-- the specification's scan: digits are read, whatever byte they make -/
def lax : List UInt8 → Option (List UInt8)
  | [] => some []
  | c :: r => if c = 37 then (match r with
      | a :: b :: r' => if hexV a < 0 ∨ hexV b < 0 then none else (lax r').map (UInt8.ofNat (16 * hexV a + hexV b).toNat :: ·)
      | _ => none) else (lax r).map (c :: ·)
theorem lax_of (l m : List UInt8) (h : unesc l = some m) : lax l = some m := by
  induction hn : l.length using Nat.strongRecOn generalizing l m with
  | ind n ih =>
    cases l with
    | nil => unfold unesc at h; cases h; rfl
    | cons c r =>
      unfold unesc at h
      unfold lax
      by_cases hc : c = 37
      · rw [if_pos hc] at h ⊢
        match r, h, hn with
        | a :: b :: r', h, hn =>
          simp only [] at h ⊢
          split at h
          · rename_i d hd
            obtain ⟨x, hx, rfl⟩ := Option.map_eq_some_iff.1 h
            have := ih r'.length (by simp at hn; omega) r' x hx rfl
            unfold decC at hd
            split at hd
            · cases hd
            · rename_i hneg
              split at hd
              · cases hd
              · cases hd
                rw [if_neg hneg, this]; rfl
          · cases h
        | [a], h, _ => cases h
        | [], h, _ => cases h
      · rw [if_neg hc] at h ⊢
        split at h
        · obtain ⟨x, hx, rfl⟩ := Option.map_eq_some_iff.1 h
          rw [ih r.length (by simp at hn; omega) r x hx rfl]; rfl
        · cases h
theorem unesc_lax_none {l : List UInt8} (h : lax l = none) : unesc l = none := by
  cases hu : unesc l with
  | none => rfl
  | some m => rw [lax_of l m hu] at h; cases h
theorem unesc_lax_ok {l m : List UInt8} (he : escL m = l) : unesc l = some m := by rw [← he]; exact unesc_esc m
theorem unesc_lax_bad {l m : List UInt8} (h : lax l = some m) (he : escL m ≠ l) : unesc l = none := by
  cases hu : unesc l with
  | none => rfl
  | some x =>
    have h2 := lax_of l x hu
    rw [h] at h2
    cases h2
    exact absurd (esc_unesc l m hu) he

theorem lax_step (s : ByteArray) (i : Nat) (h : i < s.size) (hc : chr s i ≠ 37) : lax (s.data.toList.drop i) = (lax (s.data.toList.drop (i + 1))).map (chr s i :: ·) := by
  rw [drop_chr s i h]; conv => lhs; unfold lax
  rw [if_neg hc]
theorem lax_short (s : ByteArray) (i : Nat) (h : i < s.size) (hc : chr s i = 37) (h2 : s.size ≤ i + 2) : lax (s.data.toList.drop i) = none := by
  rw [drop_chr s i h]; unfold lax
  rw [if_pos hc]
  have hl : (s.data.toList.drop (i + 1)).length < 2 := by rw [List.length_drop, ← Lib.size_eq]; omega
  match e : s.data.toList.drop (i + 1), hl with
  | [], _ => rfl
  | [x], _ => rfl
theorem lax_pct (s : ByteArray) (i : Nat) (hc : chr s i = 37) (h2 : i + 2 < s.size) : lax (s.data.toList.drop i) = if hexV (chr s (i + 1)) < 0 ∨ hexV (chr s (i + 2)) < 0 then none
    else (lax (s.data.toList.drop (i + 3))).map (UInt8.ofNat (16 * hexV (chr s (i + 1)) + hexV (chr s (i + 2))).toNat :: ·) := by
  rw [drop_chr s i (by omega), drop_chr s (i + 1) (by omega), drop_chr s (i + 1 + 1) (by omega)]
  conv => lhs; unfold lax
  rw [if_pos hc]

set_option maxRecDepth 100000 in
set_option maxHeartbeats 4000000 in
theorem runescape_s (s : ByteArray) (w : World) (hs : s.size ≤ 1000000000) :
    Calls Tryz.prog 84 #[.string s] w fun e w' => e = .returned (.tuple #[.string (unS s), .int .i64 (unE s)]) ∧ Below w.heap.size w w' := by
  have hb := get_bt s
  go_enter Tryz.func84, Tryz.ntmps84
  go_wp2
  go_loopw [4, 5] (fun bv iv wr => ∃ (i : Nat) (out : List UInt8), i ≤ s.size ∧ iv = .int .i64 i ∧ out.length ≤ i ∧ Hid (lax s.data.toList = (lax (s.data.toList.drop i)).map (out ++ ·)) ∧
      wr.ownsRow w.heap.size 5 1 bv out.length (bcells out) ∧ Below w.heap.size w wr)
    (fun _ iv _ => s.size - (intOf iv).toNat)
  case atStart => exact ⟨0, [], Nat.zero_le _, rfl, by simp, Lib.hid (by simp), World.ownsRow_nil _ _ _ _, Below.refl _ _⟩
  case round =>
    obtain ⟨i, out, hi, rfl, hol, HU, hown, hbel⟩ := hrel
    have h0 := bt_nonneg s i
    have h255 := bt_le s i
    by_cases hlt : i < s.size
    · have HC := Lib.hid (bt_chr s i)
      cases c0 : (bt s i == 37)
      · have H37 := Lib.hid (show chr s i ≠ 37 from fun e => by have := HC.out; rw [e] at this; rw [this] at c0; simp at c0)
        have c0' : (bt s i != 37) = true := by simpa using c0
        have HST := Lib.hid (lax_step s i hlt H37.out)
        go_wp2_with (at_builtin; go_must (refine push_byte _ hown (.tmp 16) (.tmp 20) _ ?_ ?_ ?_ ?_ ?_ ?_ ?_; exact rfl; exact rfl; exact rfl; exact rfl; omega; exact hbel.size; intro v' w1 hown1 hb1))
        go_roundw
        case rel => exact ⟨i + 1, out ++ [chr s i], by omega, by go_num, by simp; omega, Lib.hid (by rw [HU.out, HST.out, Option.map_map]; congr 1; funext l; simp), by rw [List.length_append, bcells_append]; rw [HC.out] at hown1; exact hown1, hbel.trans hb1⟩
        case measure => simp [intOf]; omega
      · have H37 := Lib.hid (show chr s i = 37 from by
          have : bt s i = 37 := by simpa using c0
          rw [HC.out] at this; exact UInt8.toNat_inj.1 (by have h3 : (37 : UInt8).toNat = 37 := rfl; omega))
        have c0' : (bt s i != 37) = false := by simpa using c0
        by_cases h2 : s.size ≤ i + 2
        · have HF := Lib.hid (show unesc s.data.toList = none from unesc_lax_none (by rw [HU.out, lax_short s i hlt H37.out h2]; rfl))
          have HN := Lib.hid (unS_none HF.out)
          go_wp2
          go_ret2
          exact ⟨by rw [HN.out.1, HN.out.2]; rfl, hbel⟩
        · have HST := Lib.hid (lax_pct s i H37.out (by omega))
          have r0 := hexV_le (chr s (i + 1))
          have r1 := hexV_le (chr s (i + 2))
          have H1 := Lib.hid (bt_chr s (i + 1))
          have H2 := Lib.hid (bt_chr s (i + 2))
          obtain ⟨v0, hv0⟩ : ∃ v, v = hexV (chr s (i + 1)) := ⟨_, rfl⟩
          obtain ⟨v1, hv1⟩ : ∃ v, v = hexV (chr s (i + 2)) := ⟨_, rfl⟩
          rw [← hv0, ← hv1] at HST
          rw [← hv0] at r0
          rw [← hv1] at r1
          have HV0 := Lib.hid hv0; have HV1 := Lib.hid hv1; clear hv0 hv1
          by_cases n0 : v0 < 0
          · have HF := Lib.hid (show unesc s.data.toList = none from unesc_lax_none (by rw [HU.out, HST.out, if_pos (.inl n0)]; rfl))
            have HN := Lib.hid (unS_none HF.out)
            go_wp2_with (go_at_call 102; (with_reducible refine (rdigit_any _ (chr s (i + 1)) _ H1.out).mono ?_); rintro e w' ⟨rfl, rfl⟩; rw [← HV0.out])
            go_ret2
            exact ⟨by rw [HN.out.1, HN.out.2]; rfl, hbel⟩
          · by_cases n1 : v1 < 0
            · have HF := Lib.hid (show unesc s.data.toList = none from unesc_lax_none (by rw [HU.out, HST.out, if_pos (.inr n1)]; rfl))
              have HN := Lib.hid (unS_none HF.out)
              go_wp2_with (first
                | (go_at_call 102; (with_reducible refine (rdigit_any _ (chr s (i + 1)) _ H1.out).mono ?_); rintro e w' ⟨rfl, rfl⟩; rw [← HV0.out])
                | (go_at_call 102; (with_reducible refine (rdigit_any _ (chr s (i + 2)) _ H2.out).mono ?_); rintro e w' ⟨rfl, rfl⟩; rw [← HV1.out]))
              go_ret2
              exact ⟨by rw [HN.out.1, HN.out.2]; rfl, hbel⟩
            · rw [if_neg (by omega)] at HST
              go_wp2_with (first
                | (go_at_call 102; (with_reducible refine (rdigit_any _ (chr s (i + 1)) _ H1.out).mono ?_); rintro e w' ⟨rfl, rfl⟩; rw [← HV0.out])
                | (go_at_call 102; (with_reducible refine (rdigit_any _ (chr s (i + 2)) _ H2.out).mono ?_); rintro e w' ⟨rfl, rfl⟩; rw [← HV1.out]))
              obtain ⟨i0, hi0, hz0, hz1, hz2⟩ := info_parts info5
              obtain ⟨x, hxe⟩ : ∃ x, x = 16 * v0 + v1 := ⟨_, rfl⟩
              have hxr : 0 ≤ x ∧ x ≤ 255 := by omega
              have m1 : IntKind.i64.wrap (16 * v0) = 16 * v0 := IntWalk.i64_in _ (by omega)
              have m2 : IntKind.i64.wrap (16 * v0 + v1) = x := by rw [hxe]; exact IntWalk.i64_in _ (by omega)
              have m3 : IntKind.u8.wrap x = x := IntWalk.u8_in _ (by omega)
              have m4 : 16 * v0 + v1 = x := hxe.symm
              have m7 : IntKind.i64.wrap x = x := IntWalk.i64_in _ (by omega)
              have HX := Lib.hid hxe; clear hxe
              have m5 : IntKind.i64.wrap ((i : Int) + 1) = (i : Int) + 1 := IntWalk.i64_in _ (by omega)
              have m6 : IntKind.i64.wrap ((i : Int) + 2) = (i : Int) + 2 := IntWalk.i64_in _ (by omega)
              have k1 : (0 : Int) ≤ (i : Int) + 1 := by omega
              have k2 : (i : Int) + 1 < (s.size : Int) := by omega
              have k3 : (0 : Int) ≤ (i : Int) + 2 := by omega
              have k4 : (i : Int) + 2 < (s.size : Int) := by omega
              have k5 : ((i : Int) + 2).toNat = i + 2 := by omega
              have k6 : ((i : Int) + 1).toNat = i + 1 := by omega
              go_region_held3 (fun _ => True) (trivial)
                (first
                  | (go_at_call 102; (with_reducible refine (rdigit_any _ (chr s (i + 1)) _ H1.out).mono ?_); rintro e w' ⟨rfl, rfl⟩; rw [← HV0.out])
                  | (go_at_call 102; (with_reducible refine (rdigit_any _ (chr s (i + 2)) _ H2.out).mono ?_); rintro e w' ⟨rfl, rfl⟩; rw [← HV1.out])
                  | (refine step_append_lies _ (by rfl) _ _ _ (by rfl) w.heap.size 5 i0 _ 1 1 Tryz.underlying65 hi0 hz0 hz1 hz2 rfl (by omega) _ _ _ (by rfl) ((hown.alloc _).drew)
                      ⟨wr.heap.size, 0, none⟩ 1 1 _ (by rfl) (by rfl) (World.news_of_block (heap_alloc_new wr _)) (by simp [Value.oneCell'])
                      (by omega) (by unfold maxLen; omega) (by omega) (by have := hbel.size; simp; omega) (wr.heap.size + 1) (by simp) ?_; intro gg cap w1 hown1 hgrow hat hlt1))
              all_goals
                have hbel1 : Below w.heap.size w w1 := (((hbel.alloc hbel.size _).drew).grown hgrow (by have := hbel.size; simp; omega) (fun j hj => (hown.lt j hj).1))
                have HXN := Lib.hid (show x = ((UInt8.ofNat x.toNat).toNat : Int) by rw [UInt8.toNat_ofNat']; omega)
                have HOW := Lib.hid (show w1.ownsRow w.heap.size 5 1 (.slice (some ⟨gg, 0, none⟩) (out.length + 1) cap) (out.length + 1) (bcells (out ++ [UInt8.ofNat x.toNat])) by
                  rw [bcells_append]
                  have e : bcells [UInt8.ofNat x.toNat] = [.int .u8 x] := by show [Value.int .u8 ((UInt8.ofNat x.toNat).toNat : Int)] = _; rw [← HXN.out]
                  rw [e]; exact hown1)
                clear hown1 m5 m6 m1 m2 m3 m4 m7
                go_wp2
                go_roundw
                case rel =>
                  refine ⟨i + 3, out ++ [UInt8.ofNat x.toNat], by omega, by go_num, by simp; omega, Lib.hid (by rw [HU.out, HST.out, HX.out, Option.map_map]; congr 1; funext l; simp), ?_, hbel1⟩
                  rw [List.length_append]
                  exact HOW.out
                case measure => simp [intOf]; omega
    · have HL := Lib.hid (show lax s.data.toList = some out by rw [HU.out, List.drop_eq_nil_of_le (by rw [← Lib.size_eq]; omega)]; simp [lax])
      have hbk := back hown
      by_cases he : escL out = s.data.toList
      · have HE := Lib.hid (unS_some (unesc_lax_ok he))
        have HS := Lib.hid (show (⟨(escL (ofL out).data.toList).toArray⟩ : ByteArray) = s by
          have e : (ofL out).data.toList = out := rfl
          rw [e, he])
        have hol2 : (ofL out).size ≤ 1000000000 := by show out.length ≤ _; omega
        go_wp2_with (go_at_call 76; refine (rescape_any (ofL out) _ hol2).mono ?_; rintro e w1 ⟨rfl, hb1⟩; rw [HS.out]; have hbk1 := back (own_below hown hb1))
        go_ret2
        exact ⟨by rw [HE.out.1, HE.out.2]; rfl, hbel.trans (hb1.mono hbel.size)⟩
      · have HE := Lib.hid (unS_none (unesc_lax_bad HL.out he))
        have hol2 : (ofL out).size ≤ 1000000000 := by show out.length ≤ _; omega
        have hq : (escL (ofL out).data.toList == s.toList) = false := by
          rw [Lib.toList_data]
          exact beq_false_of_ne he
        clear he
        go_wp2_with (go_at_call 76; refine (rescape_any (ofL out) _ hol2).mono ?_; rintro e w1 ⟨rfl, hb1⟩)
        go_ret2
        exact ⟨by rw [HE.out.1, HE.out.2]; rfl, hbel.trans (hb1.mono hbel.size)⟩

end Go.Proofs.YtgepcbggkfjlgaaGreatDoor
end

section
/-
  What the proofs of this seat's laws share: the witness at a world that lays the listed variables, and that MaxLen holds a number in every world of the program's shape.
-/
set_option maxRecDepth 100000
set_option linter.unusedVariables false
set_option linter.unusedSimpArgs false
set_option linter.unnecessarySimpa false
namespace Go.Proofs.YtgepcbggkfjlgaaGreatDoor
open Go.ChangeShapes Go.WideShapes Go.ChangeAt Go.RowKit

theorem own : ownKnob Tryz.prog.godebug = none := by kernel_rfl

theorem max_ok {W : World} (h : W.ShapedOpen Tryz.prog) : MaxOk W :=
  cell_of_shapedOpen_int (zero := #[.int .i64 0]) (t := 3) h (of_decide_eq_true (by kernel_rfl)) (by kernel_rfl) rfl (by kernel_rfl) (by kernel_rfl) Tryz.underlying3

theorem witness_row {H : Type} {enc : TypeId × Value → H} {C : Checked} {os : Os} {f : FuncId} {fn : Func} {s : OpenSpec} {conds : List PathCond} {apart : Bool} {laid : List (String × DataW Unit)} (modest : Bool) (w0 : World) (args : Array Value) (hos : w0.os = os)
    (hsh : (w0.forCall (fun _ _ => 0) ⟨#[], args, []⟩).Shaped C.prog)
    (hok : Input.okWideB C.prog (w0.forCall (fun _ _ => 0) ⟨#[], args, []⟩) f ⟨#[], args, []⟩ = true)
    (hrow : s.preRow enc C.prog fn conds apart laid (w0.forCall (fun _ _ => 0) ⟨#[], args, []⟩).memory args) :
    ∃ (w : World) (tape : Tape) (i : Input), w.os = os ∧ (w.forCall tape i).Shaped C.prog ∧ i.vars = [] ∧ Input.okWide C.prog (w.forCall tape i) .any w.heap.size f i ∧
      s.preRow enc C.prog fn conds apart laid (w.forCall tape i).memory i.args ∧ ({ modest := modest } : Assume).holds C.prog (lone (Frame.enter C.prog f i.args .normal) [] (w.forCall tape i)) :=
  ⟨w0, fun _ _ => 0, ⟨#[], args, []⟩, hos, hsh, (Input.okWide_of_okWideB (base := 0) hok).1, (Input.okWide_of_okWideB hok).2, hrow, by
    simp only [Assume.holds]
    exact ⟨by simp, by simp, fun _ => Modest.zero, by simp, by simp⟩⟩

theorem laidOut : laidOutB Tryz.prog = true := by kernel_rfl

/-- arguments that are only read read behind the call as before it -/
theorem trodAll_below {H : Type} {enc : TypeId × Value → H} {W W' : World} (hb : Below W.heap.size W W') : ∀ (ts : List TypeId) (vs : List Value) (ds : List (DataW H)) (ps : List MemPlace),
    (∀ t ∈ ts, Tryz.prog.readableRec t = true ∧ t < Tryz.prog.types.size) → DataW.TrodAll enc Tryz.prog W 0 (fun _ => true) true ts vs ds ps → (∀ x ∈ ps, x.block < W.heap.size) →
    DataW.TrodAll enc Tryz.prog W' 0 (fun b => decide (b < W.heap.size)) true ts vs ds ps
  | [], vs, ds, ps, _, h, _ => by
    obtain ⟨rfl, rfl, rfl⟩ := trodAll_nil h
    exact trodAll_mk0
  | t :: ts, vs, ds, ps, hr, h, hl => by
    obtain ⟨v, vs', d, ds', p, q, rfl, rfl, rfl, h0, r0⟩ := trodAll_cons h
    exact trodAll_cons_mk (Below.trod laidOut (hr t (by simp)).1 (hr t (by simp)).2 h0 hb (fun x hx => hl x (by simp [hx])))
      (trodAll_below hb ts vs' ds' q (fun t ht => hr t (by simp [ht])) r0 (fun x hx => hl x (by simp [hx])))

/-- a slice of strings that came in -/
def StrsAt (w : World) (ao : Option Addr) (n cap : Nat) (ps : List ByteArray) : Prop :=
  ps.length = n ∧ n ≤ cap ∧ cap ≤ maxLen ∧ (0 < n → ∃ b off, ao = some ⟨b, off, none⟩ ∧ IsStrs w b off ps)
theorem StrsAt.below {w w' : World} {ao : Option Addr} {n cap : Nat} {ps : List ByteArray} (h : StrsAt w ao n cap ps) (hb : Below w.heap.size w w') : StrsAt w' ao n cap ps :=
  ⟨h.1, h.2.1, h.2.2.1, fun hn => by
    obtain ⟨b, off, e, hi⟩ := h.2.2.2 hn
    exact ⟨b, off, e, hi.below hb hi.1⟩⟩
theorem cells_string : Tryz.prog.cellsOf 9 = 1 := by kernel_rfl
set_option maxRecDepth 100000 in
theorem open_strs {H : Type} {enc : TypeId × Value → H} {W : World} {base : Nat} {v : Value} {d : DataW H} {p : List MemPlace} (hval : Value.okWide Tryz.prog W .any base 88 v)
    (h0 : DataW.Trod enc Tryz.prog W 0 (fun _ => true) true 88 v d p) : ∃ ao n cap ps, v = .slice ao n cap ∧ StrsAt W ao n cap ps := by
  obtain ⟨a0, len, cap, rfl⟩ := okWide_slice Tryz.underlying88 hval
  obtain ⟨fuel, hf⟩ := h0
  rcases open_strings Tryz.underlying88 Tryz.underlying9 cells_string hf with ⟨hcs, hx⟩ | ⟨a, len', cap', ss, hcs, _, hl, hm, hz, hx, hcell, hws⟩
  · simp [Value.cells] at hcs
    obtain ⟨rfl, rfl, rfl⟩ := hcs
    exact ⟨none, 0, 0, [], rfl, rfl, Nat.le_refl _, by unfold maxLen; omega, fun h => absurd h (by omega)⟩
  · simp [Value.cells] at hcs
    obtain ⟨rfl, rfl, rfl⟩ := hcs
    simp only [if_true] at hz
    refine ⟨_, len, cap, ss.take len, rfl, by rw [List.length_take]; omega, hl, hm, fun hn => ?_⟩
    obtain ⟨b, off, spot⟩ := a
    have hspot : spot = none := by simpa [Addr.add] using World.cell?_spot (hcell 0 (by omega))
    subst hspot
    have h1 := hcell 0 (by omega)
    rw [add_plain] at h1
    refine ⟨b, off, rfl, World.block_lt_of_cell? W _ h1, fun j hj => ?_⟩
    rw [List.length_take] at hj
    rw [← add_plain, hcell j (by omega)]
    unfold partAt
    rw [List.getD_eq_getElem?_getD, List.getD_eq_getElem?_getD, List.getElem?_take, if_pos (by omega)]

end Go.Proofs.YtgepcbggkfjlgaaGreatDoor
end

section
/-
  The contract of the specification's Cut. Condition: at most 1000000 bytes.
-/
set_option maxRecDepth 100000
set_option linter.unusedVariables false
set_option linter.unusedSimpArgs false
set_option linter.unnecessarySimpa false
namespace Go.Proofs.YtgepcbggkfjlgaaGreatDoor
open Go.RowKit Go.PlainAid

theorem extract_ofL (s : ByteArray) (i j : Nat) (h : j ≤ s.size) : s.extract i j = ofL ((s.data.toList.drop i).take (j - i)) := by
  have h1 := Lib.extract_toList s i j
  rw [← Lib.mk_data (s.extract i j), ← Lib.toList_data, h1]
  rfl
theorem pieces_step (s : ByteArray) (b : UInt8) (f i : Nat) (hf : f ≤ i) (hi : i < s.size) (hb : chr s i = b) (hn : ∀ j, f ≤ j → j < i → chr s j ≠ b) :
    pieces b (s.data.toList.drop f) = ((s.data.toList.drop f).take (i - f)) :: pieces b (s.data.toList.drop (i + 1)) := by
  have hg : ∀ j, j < s.size → s.data.toList[j]? = some (chr s j) := fun j hj => by
    unfold chr
    rw [List.getD_eq_getElem?_getD, List.getElem?_eq_getElem (by simpa using hj)]; rfl
  rw [pieces_hit b _ (i - f) ?_ ?_]
  · rw [List.drop_drop]
    congr 3; omega
  · rw [List.getElem?_drop, show f + (i - f) = i by omega, hg i hi, hb]
  · intro j hj
    rw [List.getElem?_drop, hg (f + j) (by omega)]
    intro e
    exact hn (f + j) (by omega) (by omega) (by simpa using e)
theorem pieces_last (s : ByteArray) (b : UInt8) (f : Nat) (hn : ∀ j, f ≤ j → j < s.size → chr s j ≠ b) : pieces b (s.data.toList.drop f) = [s.data.toList.drop f] := by
  refine pieces_miss b _ fun j => ?_
  rw [List.getElem?_drop]
  intro e
  obtain ⟨h1, h2⟩ := List.getElem?_eq_some_iff.1 e
  have hlt : f + j < s.size := by simpa using h1
  refine hn (f + j) (by omega) hlt ?_
  unfold chr
  rw [List.getD_eq_getElem?_getD, e]; rfl

def RCutPost (s : ByteArray) (b : UInt8) (w : World) (e : Ending) (w' : World) : Prop :=
  ∃ v, e = .returned v ∧ w'.ownsRow w.heap.size 9 1 v (pieces b s.data.toList).length (scells ((pieces b s.data.toList).map ofL)) ∧ Below w.heap.size w w'

set_option maxRecDepth 100000 in
set_option maxHeartbeats 4000000 in
theorem rcut_s (s : ByteArray) (b : UInt8) (x : Int) (w : World) (hs : s.size ≤ 1000000) (hx : x = (b.toNat : Int)) :
    Calls Tryz.prog 83 #[.string s, .int .u8 x] w (RCutPost s b w) := by
  have hb := get_bt s
  have HX := Lib.hid hx; clear hx
  go_enter Tryz.func83, Tryz.ntmps83
  go_wp2
  go_loopw [5, 6, 7] (fun lv fv iv wr => ∃ (i f : Nat) (out : List (List UInt8)), i ≤ s.size ∧ f ≤ i ∧ fv = .int .i64 f ∧ iv = .int .i64 i ∧ out.length ≤ i ∧ Hid (∀ j, f ≤ j → j < i → chr s j ≠ b) ∧
      Hid (pieces b s.data.toList = out ++ pieces b (s.data.toList.drop f)) ∧ wr.ownsRow w.heap.size 9 1 lv out.length (scells (out.map ofL)) ∧ Below w.heap.size w wr)
    (fun _ _ iv _ => s.size - (intOf iv).toNat)
  case atStart => exact ⟨0, 0, [], Nat.zero_le _, Nat.zero_le _, rfl, rfl, by simp, Lib.hid (fun j _ hj => absurd hj (Nat.not_lt_zero _)), Lib.hid rfl, World.ownsRow_nil _ _ _ _, Below.refl _ _⟩
  case round =>
    obtain ⟨i, f, out, hi, hf, rfl, rfl, hol, HN, HU, hown, hbel⟩ := hrel
    by_cases hlt : i < s.size
    · have HC := Lib.hid (bt_chr s i)
      cases c0 : (bt s i == x)
      · have HNB := Lib.hid (show chr s i ≠ b from fun e => by
          have h1 : bt s i = x := by rw [HC.out, e, HX.out]
          rw [h1] at c0; simp at c0)
        go_wp2
        go_roundw
        case rel => exact ⟨i + 1, f, out, by omega, by omega, rfl, by go_num, by omega, Lib.hid (fun j h1 h2 => if e : j = i then by rw [e]; exact HNB.out else HN.out j h1 (by omega)), HU, hown, hbel⟩
        case measure => simp [intOf]; omega
      · have HB := Lib.hid (show chr s i = b by
          have h1 : bt s i = x := beq_iff_eq.1 c0
          exact UInt8.toNat_inj.1 (by have := HC.out; have := HX.out; omega))
        have HST := Lib.hid (pieces_step s b f i hf hlt HB.out HN.out)
        have hex := extract_ofL s f i (by omega)
        have hcells : scells ((out ++ [(s.data.toList.drop f).take (i - f)]).map ofL) = scells (out.map ofL) ++ [.string (ofL ((s.data.toList.drop f).take (i - f)))] := by simp [scells]
        have HCE := Lib.hid hcells; clear hcells
        go_wp2_with (at_builtin; go_must (refine push_str _ hown (.tmp 19) (.tmp 24) _ ?_ ?_ ?_ ?_ ?_ ?_ ?_; exact rfl; exact rfl; exact rfl; exact rfl; omega; exact hbel.size; intro v' w1 hown1 hb1))
        go_roundw
        case rel => exact ⟨i + 1, i + 1, out ++ [(s.data.toList.drop f).take (i - f)], by omega, Nat.le_refl _, by go_num, by go_num, by simp; omega, Lib.hid (fun j h1 h2 => absurd h1 (by omega)), Lib.hid (by rw [HU.out, HST.out]; simp), by rw [HCE.out, List.length_append]; exact hown1, hbel.trans hb1⟩
        case measure => simp [intOf]; omega
    · have hie : i = s.size := by omega
      have HST := Lib.hid (pieces_last s b f (fun j h1 h2 => HN.out j h1 (by omega)))
      have hex := Lib.extract_from s f
      have hcells : scells ((out ++ [s.data.toList.drop f]).map ofL) = scells (out.map ofL) ++ [.string (dr s f)] := by simp [scells, ofL, dr]
      have HCE := Lib.hid hcells; clear hcells
      have hfs : f ≤ s.size := by omega
      clear hie
      go_wp2_with (at_builtin; go_must (refine push_str _ hown (.tmp 28) (.tmp 32) _ ?_ ?_ ?_ ?_ ?_ ?_ ?_; exact rfl; exact rfl; exact rfl; exact rfl; omega; exact hbel.size; intro v' w1 hown1 hb1))
      go_ret
      have e1 : pieces b s.data.toList = out ++ [s.data.toList.drop f] := by rw [HU.out, HST.out]
      refine ⟨_, rfl, ?_, hbel.trans hb1⟩
      rw [e1, HCE.out, List.length_append]
      exact hown1

end Go.Proofs.YtgepcbggkfjlgaaGreatDoor
end

section
/-
  Plain functions for windows of time: what a list of windows covers, merging windows that are sorted by From, and that two least lists which cover the same instants are the same list. Nothing of the program stands here. No condition.
-/
set_option maxRecDepth 100000
set_option linter.unusedVariables false
set_option linter.unusedSimpArgs false
set_option linter.unnecessarySimpa false
namespace Go.Proofs.YtgepcbggkfjlgaaGreatDoor

abbrev Wn := Int × Int
def cov (l : List Wn) (x : Int) : Prop := ∃ w ∈ l, w.1 ≤ x ∧ x < w.2
def Full (l : List Wn) : Prop := ∀ w ∈ l, w.1 < w.2
def Asc (l : List Wn) : Prop := l.Pairwise fun a b => a.1 ≤ b.1
def Norm (l : List Wn) : Prop := Full l ∧ l.Pairwise fun a b => a.2 < b.1
/-- the next window, behind the windows so far -/
def putW (u : List Wn) (w : Wn) : List Wn := match u.getLast? with
  | none => [w]
  | some x => if x.2 < w.1 then u ++ [w] else u.dropLast ++ [(x.1, max x.2 w.2)]
def mergeW (l : List Wn) : List Wn := l.foldl putW []
/-- a window among windows sorted by From, behind those with the same From -/
def insW (l : List Wn) (w : Wn) : List Wn := l.takeWhile (fun v => decide (v.1 ≤ w.1)) ++ w :: l.dropWhile (fun v => decide (v.1 ≤ w.1))
def allW (l : List Wn) : List Wn := l.foldl (fun a w => if w.1 < w.2 then insW a w else a) []
def unionW (l : List Wn) : List Wn := mergeW (allW l)

theorem cov_nil (x : Int) : ¬ cov [] x := by rintro ⟨w, h, _⟩; cases h
theorem cov_append (l m : List Wn) (x : Int) : cov (l ++ m) x ↔ cov l x ∨ cov m x := by
  unfold cov
  constructor
  · rintro ⟨w, h, k⟩
    rcases List.mem_append.1 h with h | h
    · exact .inl ⟨w, h, k⟩
    · exact .inr ⟨w, h, k⟩
  · rintro (⟨w, h, k⟩ | ⟨w, h, k⟩)
    · exact ⟨w, List.mem_append.2 (.inl h), k⟩
    · exact ⟨w, List.mem_append.2 (.inr h), k⟩
theorem cov_one (w : Wn) (x : Int) : cov [w] x ↔ w.1 ≤ x ∧ x < w.2 := by
  unfold cov
  constructor
  · rintro ⟨v, h, k⟩
    have : v = w := by simpa using h
    subst this; exact k
  · intro k; exact ⟨w, by simp, k⟩
theorem cov_cons (w : Wn) (l : List Wn) (x : Int) : cov (w :: l) x ↔ (w.1 ≤ x ∧ x < w.2) ∨ cov l x := by
  rw [show w :: l = [w] ++ l from rfl, cov_append, cov_one]
theorem put_nil (w : Wn) : putW [] w = [w] := rfl
theorem put_snoc (d : List Wn) (x w : Wn) : putW (d ++ [x]) w = if x.2 < w.1 then d ++ [x] ++ [w] else d ++ [(x.1, max x.2 w.2)] := by
  unfold putW
  rw [List.getLast?_concat]
  dsimp only
  rw [List.dropLast_concat]
theorem put_ok (u : List Wn) (w : Wn) (hn : Norm u) (hw : w.1 < w.2) (hf : ∀ x ∈ u, x.1 ≤ w.1) :
    Norm (putW u w) ∧ (∀ x, cov (putW u w) x ↔ cov u x ∨ cov [w] x) ∧ (∀ x ∈ putW u w, x.1 ≤ w.1) := by
  have hu : u = [] ∨ ∃ d x, u = d ++ [x] := by
    rcases List.eq_nil_or_concat u with h | ⟨d, x, h⟩
    · exact .inl h
    · exact .inr ⟨d, x, by rw [h, List.concat_eq_append]⟩
  rcases hu with rfl | ⟨d, x, rfl⟩
  · refine ⟨⟨fun v hv => ?_, List.pairwise_singleton _ _⟩, fun x => ?_, fun v hv => ?_⟩
    · have : v = w := by simpa [put_nil] using hv
      rw [this]; exact hw
    · rw [put_nil]; exact ⟨.inr, fun h => h.elim (fun h => absurd h (cov_nil x)) id⟩
    · have : v = w := by simpa [put_nil] using hv
      rw [this]; exact Int.le_refl _
  · rw [put_snoc]
    obtain ⟨hF, hP⟩ := hn
    rw [List.pairwise_append] at hP
    obtain ⟨hP1, _, hP3⟩ := hP
    have hx1 : x.1 < x.2 := hF x (by simp)
    have hx2 : x.1 ≤ w.1 := hf x (by simp)
    have hd3 : ∀ a ∈ d, a.2 < x.1 := fun a ha => hP3 a ha x (by simp)
    split
    · rename_i hlt
      refine ⟨⟨fun v hv => ?_, ?_⟩, fun y => cov_append _ _ y, fun v hv => ?_⟩
      · rcases List.mem_append.1 hv with h | h
        · exact hF v h
        · have : v = w := by simpa using h
          rw [this]; exact hw
      · rw [List.pairwise_append]
        refine ⟨List.pairwise_append.2 ⟨hP1, List.pairwise_singleton _ _, hP3⟩, List.pairwise_singleton _ _, fun a ha b hb => ?_⟩
        have : b = w := by simpa using hb
        subst this
        rcases List.mem_append.1 ha with h | h
        · have := hd3 a h; omega
        · have : a = x := by simpa using h
          rw [this]; exact hlt
      · rcases List.mem_append.1 hv with h | h
        · exact hf v h
        · have : v = w := by simpa using h
          rw [this]; exact Int.le_refl _
    · rename_i hge
      refine ⟨⟨fun v hv => ?_, ?_⟩, fun y => ?_, fun v hv => ?_⟩
      · rcases List.mem_append.1 hv with h | h
        · exact hF v (List.mem_append.2 (.inl h))
        · have : v = (x.1, max x.2 w.2) := by simpa using h
          rw [this]; show x.1 < max x.2 w.2; omega
      · rw [List.pairwise_append]
        refine ⟨hP1, List.pairwise_singleton _ _, fun a ha b hb => ?_⟩
        have : b = (x.1, max x.2 w.2) := by simpa using hb
        rw [this]; exact hd3 a ha
      · rw [cov_append, cov_append, cov_one, cov_one, cov_one]
        show cov d y ∨ (x.1 ≤ y ∧ y < max x.2 w.2) ↔ _
        constructor
        · rintro (h | ⟨h1, h2⟩)
          · exact .inl (.inl h)
          · by_cases h3 : y < x.2
            · exact .inl (.inr ⟨h1, h3⟩)
            · exact .inr ⟨by omega, by omega⟩
        · rintro ((h | ⟨h1, h2⟩) | ⟨h1, h2⟩)
          · exact .inl h
          · exact .inr ⟨h1, by omega⟩
          · exact .inr ⟨by omega, by omega⟩
      · rcases List.mem_append.1 hv with h | h
        · exact hf v (List.mem_append.2 (.inl h))
        · have : v = (x.1, max x.2 w.2) := by simpa using h
          rw [this]; exact hx2
theorem fold_put : ∀ (r u : List Wn), Norm u → Full r → Asc r → (∀ x ∈ u, ∀ w ∈ r, x.1 ≤ w.1) → Norm (r.foldl putW u) ∧ ∀ y, cov (r.foldl putW u) y ↔ cov u y ∨ cov r y
  | [], u, hn, _, _, _ => ⟨hn, fun y => ⟨.inl, fun h => h.elim id fun h => absurd h (cov_nil y)⟩⟩
  | w :: r, u, hn, hF, hA, hf => by
    obtain ⟨h1, h2, h3⟩ := put_ok u w hn (hF w (by simp)) (fun x hx => hf x hx w (by simp))
    have hA' := List.pairwise_cons.1 hA
    obtain ⟨k1, k2⟩ := fold_put r (putW u w) h1 (fun v hv => hF v (by simp [hv])) hA'.2 (fun x hx v hv => by
      have a1 := h3 x hx
      have a2 := hA'.1 v hv
      omega)
    rw [List.foldl_cons]
    refine ⟨k1, fun y => ?_⟩
    rw [k2, h2, cov_one, cov_cons]
    constructor
    · rintro ((h | h) | h)
      · exact .inl h
      · exact .inr (.inl h)
      · exact .inr (.inr h)
    · rintro (h | h | h)
      · exact .inl (.inl h)
      · exact .inl (.inr h)
      · exact .inr h
theorem norm_nil : Norm [] := ⟨(fun w h => by cases h), List.Pairwise.nil⟩
theorem merge_ok {l : List Wn} (hF : Full l) (hA : Asc l) : Norm (mergeW l) ∧ ∀ y, cov (mergeW l) y ↔ cov l y := by
  obtain ⟨h1, h2⟩ := fold_put l [] norm_nil hF hA (by intro x h; cases h)
  exact ⟨h1, fun y => (h2 y).trans ⟨fun h => h.elim (fun h => absurd h (cov_nil y)) id, .inr⟩⟩
/-- two least lists that cover the same are the same -/
theorem norm_unique : ∀ (l m : List Wn), Norm l → Norm m → (∀ y, cov l y ↔ cov m y) → l = m
  | [], [], _, _, _ => rfl
  | [], b :: m, _, hm, h => absurd ((h b.1).2 ⟨b, by simp, Int.le_refl _, hm.1 b (by simp)⟩) (cov_nil _)
  | a :: l, [], hl, _, h => absurd ((h a.1).1 ⟨a, by simp, Int.le_refl _, hl.1 a (by simp)⟩) (cov_nil _)
  | a :: l, b :: m, hl, hm, h => by
    have la := List.pairwise_cons.1 hl.2
    have lb := List.pairwise_cons.1 hm.2
    have fa := hl.1 a (by simp)
    have fb := hm.1 b (by simp)
    have e1 : b.1 ≤ a.1 := by
      obtain ⟨w, hw, k1, k2⟩ := (h a.1).1 ⟨a, by simp, Int.le_refl _, fa⟩
      rcases List.mem_cons.1 hw with rfl | hw
      · exact k1
      · have := lb.1 w hw; omega
    have e2 : a.1 ≤ b.1 := by
      obtain ⟨w, hw, k1, k2⟩ := (h b.1).2 ⟨b, by simp, Int.le_refl _, fb⟩
      rcases List.mem_cons.1 hw with rfl | hw
      · exact k1
      · have := la.1 w hw; omega
    have e3 : a.2 ≤ b.2 := by
      rcases Int.lt_or_le b.2 a.2 with hlt | hle
      · obtain ⟨w, hw, k1, k2⟩ := (h b.2).1 ⟨a, by simp, by omega, hlt⟩
        rcases List.mem_cons.1 hw with rfl | hw
        · omega
        · have := lb.1 w hw; omega
      · exact hle
    have e4 : b.2 ≤ a.2 := by
      rcases Int.lt_or_le a.2 b.2 with hlt | hle
      · obtain ⟨w, hw, k1, k2⟩ := (h a.2).2 ⟨b, by simp, by omega, hlt⟩
        rcases List.mem_cons.1 hw with rfl | hw
        · omega
        · have := la.1 w hw; omega
      · exact hle
    have e : a = b := Prod.ext (by omega) (by omega)
    subst e
    have hl' : Norm l := ⟨fun w hw => hl.1 w (by simp [hw]), la.2⟩
    have hm' : Norm m := ⟨fun w hw => hm.1 w (by simp [hw]), lb.2⟩
    rw [norm_unique l m hl' hm' fun y => ?_]
    constructor
    · rintro ⟨w, hw, k1, k2⟩
      have hgt := la.1 w hw
      obtain ⟨v, hv, j1, j2⟩ := (h y).1 ⟨w, by simp [hw], k1, k2⟩
      rcases List.mem_cons.1 hv with rfl | hv
      · omega
      · exact ⟨v, hv, j1, j2⟩
    · rintro ⟨w, hw, k1, k2⟩
      have hgt := lb.1 w hw
      obtain ⟨v, hv, j1, j2⟩ := (h y).2 ⟨w, by simp [hw], k1, k2⟩
      rcases List.mem_cons.1 hv with rfl | hv
      · omega
      · exact ⟨v, hv, j1, j2⟩

theorem mem_ins (l : List Wn) (w v : Wn) : v ∈ insW l w ↔ v = w ∨ v ∈ l := by
  unfold insW
  rw [List.mem_append, List.mem_cons]
  have : v ∈ l ↔ v ∈ l.takeWhile (fun v => decide (v.1 ≤ w.1)) ∨ v ∈ l.dropWhile (fun v => decide (v.1 ≤ w.1)) := by
    rw [← List.mem_append, List.takeWhile_append_dropWhile]
  rw [this]
  constructor
  · rintro (h | h | h)
    · exact .inr (.inl h)
    · exact .inl h
    · exact .inr (.inr h)
  · rintro (h | h | h)
    · exact .inr (.inl h)
    · exact .inl h
    · exact .inr (.inr h)
theorem ins_asc : ∀ (l : List Wn) (w : Wn), Asc l → Asc (insW l w)
  | [], w, _ => List.pairwise_singleton _ _
  | a :: l, w, h => by
    have ha := List.pairwise_cons.1 h
    by_cases hle : a.1 ≤ w.1
    · have e : insW (a :: l) w = a :: insW l w := by
        unfold insW
        rw [List.takeWhile_cons_of_pos (by simpa using hle), List.dropWhile_cons_of_pos (by simpa using hle)]; rfl
      rw [e]
      refine List.pairwise_cons.2 ⟨fun v hv => ?_, ins_asc l w ha.2⟩
      rcases (mem_ins l w v).1 hv with rfl | hv
      · exact hle
      · exact ha.1 v hv
    · have e : insW (a :: l) w = w :: a :: l := by
        unfold insW
        rw [List.takeWhile_cons_of_neg (by simpa using hle), List.dropWhile_cons_of_neg (by simpa using hle)]; rfl
      rw [e]
      refine List.pairwise_cons.2 ⟨fun v hv => ?_, h⟩
      rcases List.mem_cons.1 hv with rfl | hv
      · omega
      · have := ha.1 v hv; omega
theorem all_fold : ∀ (r a : List Wn), Full a → Asc a → Full (r.foldl (fun a w => if w.1 < w.2 then insW a w else a) a) ∧ Asc (r.foldl (fun a w => if w.1 < w.2 then insW a w else a) a) ∧ ∀ y, cov (r.foldl (fun a w => if w.1 < w.2 then insW a w else a) a) y ↔ cov a y ∨ cov r y
  | [], a, hF, hA => ⟨hF, hA, fun y => ⟨.inl, fun h => h.elim id fun h => absurd h (cov_nil y)⟩⟩
  | w :: r, a, hF, hA => by
    rw [List.foldl_cons]
    by_cases hw : w.1 < w.2
    · rw [if_pos hw]
      obtain ⟨h1, h2, h3⟩ := all_fold r (insW a w) (fun v hv => by
        rcases (mem_ins a w v).1 hv with rfl | hv
        · exact hw
        · exact hF v hv) (ins_asc a w hA)
      refine ⟨h1, h2, fun y => ?_⟩
      rw [h3, cov_cons]
      have : cov (insW a w) y ↔ (w.1 ≤ y ∧ y < w.2) ∨ cov a y := by
        constructor
        · rintro ⟨v, hv, k⟩
          rcases (mem_ins a w v).1 hv with rfl | hv
          · exact .inl k
          · exact .inr ⟨v, hv, k⟩
        · rintro (k | ⟨v, hv, k⟩)
          · exact ⟨w, (mem_ins a w w).2 (.inl rfl), k⟩
          · exact ⟨v, (mem_ins a w v).2 (.inr hv), k⟩
      rw [this]
      constructor
      · rintro ((h | h) | h)
        · exact .inr (.inl h)
        · exact .inl h
        · exact .inr (.inr h)
      · rintro (h | h | h)
        · exact .inl (.inr h)
        · exact .inl (.inl h)
        · exact .inr h
    · rw [if_neg hw]
      obtain ⟨h1, h2, h3⟩ := all_fold r a hF hA
      refine ⟨h1, h2, fun y => ?_⟩
      rw [h3, cov_cons]
      constructor
      · rintro (h | h)
        · exact .inl h
        · exact .inr (.inr h)
      · rintro (h | h | h)
        · exact .inl h
        · omega
        · exact .inr h
theorem all_ok (l : List Wn) : Full (allW l) ∧ Asc (allW l) ∧ ∀ y, cov (allW l) y ↔ cov l y := by
  obtain ⟨h1, h2, h3⟩ := all_fold l [] (fun w h => by cases h) List.Pairwise.nil
  exact ⟨h1, h2, fun y => (h3 y).trans ⟨fun h => h.elim (fun h => absurd h (cov_nil y)) id, .inr⟩⟩
theorem union_ok (l : List Wn) : Norm (unionW l) ∧ ∀ y, cov (unionW l) y ↔ cov l y := by
  obtain ⟨h1, h2, h3⟩ := all_ok l
  obtain ⟨k1, k2⟩ := merge_ok h1 h2
  exact ⟨k1, fun y => (k2 y).trans (h3 y)⟩
/-- however the windows that are not empty are sorted, merging gives the union -/
theorem merge_union (l s : List Wn) (hF : Full s) (hA : Asc s) (hc : ∀ w, w ∈ s ↔ w ∈ l ∧ w.1 < w.2) : mergeW s = unionW l := by
  obtain ⟨h1, h2⟩ := merge_ok hF hA
  obtain ⟨k1, k2⟩ := union_ok l
  refine norm_unique _ _ h1 k1 fun y => ?_
  rw [h2, k2]
  constructor
  · rintro ⟨w, hw, k⟩
    exact ⟨w, ((hc w).1 hw).1, k⟩
  · rintro ⟨w, hw, k⟩
    exact ⟨w, (hc w).2 ⟨hw, by omega⟩, k⟩

end Go.Proofs.YtgepcbggkfjlgaaGreatDoor
end

section
/-
  Contracts of clock's limited, between, Valid, Add, Sub, In, Check, empty, Common, and of the specification's. No condition beyond that ints are ints.
-/
set_option maxRecDepth 100000
set_option linter.unusedVariables false
set_option linter.unusedSimpArgs false
set_option linter.unnecessarySimpa false
namespace Go.Proofs.YtgepcbggkfjlgaaGreatDoor
open Go.RowKit Go.PlainAid

def I64 (n : Int) : Prop := -9223372036854775808 ≤ n ∧ n ≤ 9223372036854775807
def limI (t : Int) : Int := min (max t 0) 1099511627776
theorem limI_bd (t : Int) : 0 ≤ limI t ∧ limI t ≤ 1099511627776 := by unfold limI; omega
def validB (t : Int) : Bool := decide (0 ≤ t) && decide (t ≤ 1099511627776)
def addI (t d : Int) : Int := limI (limI t + limI d)
def subI (a b : Int) : Int := limI a - limI b
def inW (a b t : Int) : Bool := decide (a ≤ limI t) && decide (limI t < b)
def skewI (s : Int) : Int := min (max s 0) 600
def checkI (a b t s : Int) : Int := if b < a then 2 else if limI t + skewI s < a then 14 else if b ≤ limI t - skewI s then 13 else 0
/-- a window as a value -/
def winV (w : Wn) : Value := .agg #[.int .i64 w.1, .int .i64 w.2]

theorem between_s (n a b : Int) (w : World) :
    Calls Tryz.prog 68 #[.int .i64 n, .int .i64 a, .int .i64 b] w fun e w' => e = .returned (.int .i64 (min (max n a) b)) ∧ w = w' := by
  obtain ⟨x, hx⟩ : ∃ x, max n a = x := ⟨_, rfl⟩
  obtain ⟨y, hy⟩ : ∃ y, min x b = y := ⟨_, rfl⟩
  rw [hx, hy]
  go_enter Tryz.func68, Tryz.ntmps68
  go_wp2
  go_ret
  exact ⟨rfl, rfl⟩
theorem limited_s (t : Int) (w : World) :
    Calls Tryz.prog 44 #[.int .i64 t] w fun e w' => e = .returned (.int .i64 (limI t)) ∧ w = w' := by
  go_enter Tryz.func44, Tryz.ntmps44
  go_wp2_with (go_at_call 68; refine (between_s _ _ _ _).mono ?_; rintro e w' ⟨rfl, rfl⟩)
  go_ret
  exact ⟨rfl, rfl⟩
theorem limited_k (t x : Int) (w : World) (h : limI t = x) :
    Calls Tryz.prog 44 #[.int .i64 t] w fun e w' => e = .returned (.int .i64 x) ∧ w = w' := by subst h; exact limited_s t w
theorem limit_s (t : Int) (w : World) :
    Calls Tryz.prog 65 #[.int .i64 t] w fun e w' => e = .returned (.int .i64 (limI t)) ∧ w = w' := by
  obtain ⟨x, hx⟩ : ∃ x, min t 1099511627776 = x := ⟨_, rfl⟩
  obtain ⟨y, hy⟩ : ∃ y, max 0 x = y := ⟨_, rfl⟩
  have HE := Lib.hid (show y = limI t by rw [← hy, ← hx]; unfold limI; omega)
  go_enter Tryz.func65, Tryz.ntmps65
  go_wp2
  go_ret
  exact ⟨by rw [← HE.out]; rfl, rfl⟩
theorem limit_k (t x : Int) (w : World) (h : limI t = x) :
    Calls Tryz.prog 65 #[.int .i64 t] w fun e w' => e = .returned (.int .i64 x) ∧ w = w' := by subst h; exact limit_s t w

theorem add_s (t d : Int) (w : World) :
    Calls Tryz.prog 23 #[.int .i64 t, .int .i64 d] w fun e w' => e = .returned (.int .i64 (addI t d)) ∧ w = w' := by
  obtain ⟨x, hx⟩ : ∃ x, limI t = x := ⟨_, rfl⟩
  obtain ⟨y, hy⟩ : ∃ x, limI d = x := ⟨_, rfl⟩
  have b1 := limI_bd t
  have b2 := limI_bd d
  rw [hx] at b1
  rw [hy] at b2
  obtain ⟨b1, b1'⟩ := b1
  obtain ⟨b2, b2'⟩ := b2
  have HE := Lib.hid (show limI (x + y) = addI t d by unfold addI; rw [hx, hy])
  have HX := Lib.hid hx; clear hx
  have HY := Lib.hid hy; clear hy
  go_enter Tryz.func23, Tryz.ntmps23
  go_wp2_with fail
  refine (limited_k _ x _ HX.out).mono ?_
  rintro e w' ⟨rfl, rfl⟩
  go_wp2_with fail
  refine (limited_k _ y _ HY.out).mono ?_
  rintro e w' ⟨rfl, rfl⟩
  go_wp2_with fail
  refine (limited_k _ _ _ HE.out).mono ?_
  rintro e w' ⟨rfl, rfl⟩
  go_wp2_with fail
  go_ret
  exact ⟨rfl, rfl⟩
theorem radd_s (t d : Int) (w : World) :
    Calls Tryz.prog 46 #[.int .i64 t, .int .i64 d] w fun e w' => e = .returned (.int .i64 (addI t d)) ∧ w = w' := by
  obtain ⟨x, hx⟩ : ∃ x, limI t = x := ⟨_, rfl⟩
  obtain ⟨y, hy⟩ : ∃ x, limI d = x := ⟨_, rfl⟩
  have b1 := limI_bd t
  have b2 := limI_bd d
  rw [hx] at b1
  rw [hy] at b2
  obtain ⟨b1, b1'⟩ := b1
  obtain ⟨b2, b2'⟩ := b2
  have HE := Lib.hid (show limI (x + y) = addI t d by unfold addI; rw [hx, hy])
  have HX := Lib.hid hx; clear hx
  have HY := Lib.hid hy; clear hy
  go_enter Tryz.func46, Tryz.ntmps46
  go_wp2_with fail
  refine (limit_k _ x _ HX.out).mono ?_
  rintro e w' ⟨rfl, rfl⟩
  go_wp2_with fail
  refine (limit_k _ y _ HY.out).mono ?_
  rintro e w' ⟨rfl, rfl⟩
  go_wp2_with fail
  refine (limit_k _ _ _ HE.out).mono ?_
  rintro e w' ⟨rfl, rfl⟩
  go_wp2_with fail
  go_ret
  exact ⟨rfl, rfl⟩
end Go.Proofs.YtgepcbggkfjlgaaGreatDoor
end

section
/-
  Contracts of clock's In, Check, empty, Common, and of the specification's. Condition: ints are ints.
-/
set_option maxRecDepth 100000
set_option linter.unusedVariables false
set_option linter.unusedSimpArgs false
set_option linter.unnecessarySimpa false
namespace Go.Proofs.YtgepcbggkfjlgaaGreatDoor
open Go.RowKit Go.PlainAid

theorem in_s (a b t : Int) (w : World) :
    Calls Tryz.prog 18 #[.agg #[.int .i64 a, .int .i64 b], .int .i64 t] w fun e w' => e = .returned (.bool (inW a b t)) ∧ Below w.heap.size w w' := by
  obtain ⟨x, hx⟩ : ∃ x, limI t = x := ⟨_, rfl⟩
  have HE := Lib.hid (show inW a b t = (decide (a ≤ x) && decide (x < b)) by unfold inW; rw [hx])
  have HB := Lib.hid ((Below.refl w.heap.size w).alloc (Nat.le_refl _) (.cells #[.int .i64 a, .int .i64 b] 29))
  by_cases h1 : a ≤ x
  · by_cases h2 : x < b
    · have d1 : decide (a ≤ x) = true := decide_eq_true h1
      have d2 : decide (x < b) = true := decide_eq_true h2
      have HF := Lib.hid (show inW a b t = true by rw [HE.out, d1, d2]; rfl)
      have HX := Lib.hid hx; clear hx h1 h2
      go_enter Tryz.func18, Tryz.ntmps18
      go_wp2_with (go_at_call 44; refine (limited_k _ x _ HX.out).mono ?_; rintro e w' ⟨rfl, rfl⟩)
      go_ret
      exact ⟨by rw [HF.out]; rfl, HB.out⟩
    · have d1 : decide (a ≤ x) = true := decide_eq_true h1
      have d2 : decide (x < b) = false := decide_eq_false h2
      have HF := Lib.hid (show inW a b t = false by rw [HE.out, d2, Bool.and_false])
      have HX := Lib.hid hx; clear hx h1 h2
      go_enter Tryz.func18, Tryz.ntmps18
      go_wp2_with (go_at_call 44; refine (limited_k _ x _ HX.out).mono ?_; rintro e w' ⟨rfl, rfl⟩)
      go_ret
      exact ⟨by rw [HF.out]; rfl, HB.out⟩
  · have d1 : decide (a ≤ x) = false := decide_eq_false h1
    have HF := Lib.hid (show inW a b t = false by rw [HE.out, d1, Bool.false_and])
    have HX := Lib.hid hx; clear hx h1
    go_enter Tryz.func18, Tryz.ntmps18
    go_wp2_with (go_at_call 44; refine (limited_k _ x _ HX.out).mono ?_; rintro e w' ⟨rfl, rfl⟩)
    go_ret
    exact ⟨by rw [HF.out]; rfl, HB.out⟩

theorem empty_s (a b : Int) (w : World) :
    Calls Tryz.prog 86 #[.agg #[.int .i64 a, .int .i64 b]] w fun e w' => e = .returned (.bool (decide (b ≤ a))) ∧ w' = w.alloc (.cells #[.int .i64 a, .int .i64 b] 29) := by
  go_enter Tryz.func86, Tryz.ntmps86
  go_wp2
  go_ret
  exact ⟨rfl, rfl⟩

theorem check_s (a b t s : Int) (w : World) :
    Calls Tryz.prog 42 #[.agg #[.int .i64 a, .int .i64 b], .int .i64 t, .int .i64 s] w fun e w' => e = .returned (.int .i64 (checkI a b t s)) ∧ Below w.heap.size w w' := by
  obtain ⟨x, hx⟩ : ∃ x, limI t = x := ⟨_, rfl⟩
  obtain ⟨y, hy⟩ : ∃ x, skewI s = x := ⟨_, rfl⟩
  have b1 := limI_bd t
  rw [hx] at b1
  obtain ⟨b1, b1'⟩ := b1
  have b2 : 0 ≤ y ∧ y ≤ 600 := by rw [← hy]; unfold skewI; omega
  obtain ⟨b2, b2'⟩ := b2
  have HE := Lib.hid (show checkI a b t s = if b < a then 2 else if x + y < a then 14 else if b ≤ x - y then 13 else 0 by unfold checkI; rw [hx, hy])
  have HB := Lib.hid ((Below.refl w.heap.size w).alloc (Nat.le_refl _) (.cells #[.int .i64 a, .int .i64 b] 29))
  have HX := Lib.hid hx; clear hx
  have HY : Hid (min (max s 0) 600 = y) := Lib.hid hy
  clear hy
  by_cases h1 : b < a
  · have HF := Lib.hid (show checkI a b t s = 2 by rw [HE.out, if_pos h1])
    go_enter Tryz.func42, Tryz.ntmps42
    go_wp2_with (first | (go_at_call 44; refine (limited_k _ x _ HX.out).mono ?_; rintro e w' ⟨rfl, rfl⟩) | (go_at_call 68; refine (between_s _ _ _ _).mono ?_; rintro e w' ⟨rfl, rfl⟩; rw [HY.out]))
    go_ret
    exact ⟨by rw [HF.out]; rfl, HB.out⟩
  · by_cases h2 : x + y < a
    · have HF := Lib.hid (show checkI a b t s = 14 by rw [HE.out, if_neg h1, if_pos h2])
      go_enter Tryz.func42, Tryz.ntmps42
      go_wp2_with (first | (go_at_call 44; refine (limited_k _ x _ HX.out).mono ?_; rintro e w' ⟨rfl, rfl⟩) | (go_at_call 68; refine (between_s _ _ _ _).mono ?_; rintro e w' ⟨rfl, rfl⟩; rw [HY.out]))
      go_ret
      exact ⟨by rw [HF.out]; rfl, HB.out⟩
    · by_cases h3 : b ≤ x - y
      · have HF := Lib.hid (show checkI a b t s = 13 by rw [HE.out, if_neg h1, if_neg h2, if_pos h3])
        go_enter Tryz.func42, Tryz.ntmps42
        go_wp2_with (first | (go_at_call 44; refine (limited_k _ x _ HX.out).mono ?_; rintro e w' ⟨rfl, rfl⟩) | (go_at_call 68; refine (between_s _ _ _ _).mono ?_; rintro e w' ⟨rfl, rfl⟩; rw [HY.out]))
        go_ret
        exact ⟨by rw [HF.out]; rfl, HB.out⟩
      · have HF := Lib.hid (show checkI a b t s = 0 by rw [HE.out, if_neg h1, if_neg h2, if_neg h3])
        go_enter Tryz.func42, Tryz.ntmps42
        go_wp2_with (first | (go_at_call 44; refine (limited_k _ x _ HX.out).mono ?_; rintro e w' ⟨rfl, rfl⟩) | (go_at_call 68; refine (between_s _ _ _ _).mono ?_; rintro e w' ⟨rfl, rfl⟩; rw [HY.out]))
        go_ret
        exact ⟨by rw [HF.out]; rfl, HB.out⟩

theorem below_allocs : ∀ (os : List Obj) (B : Nat) (a w : World), Below B a w → B ≤ w.heap.size → Below B a (os.foldl World.alloc w)
  | [], _, _, _, h, _ => h
  | o :: os, B, a, w, h, hB => below_allocs os B a (w.alloc o) (h.alloc hB o) (by show B ≤ (w.heap.push o).size; simp; omega)
theorem below5 (w : World) (o1 o2 o3 o4 o5 : Obj) : Below w.heap.size w (((((w.alloc o1).alloc o2).alloc o3).alloc o4).alloc o5) := below_allocs [o1, o2, o3, o4, o5] _ _ _ (Below.refl _ _) (Nat.le_refl _)
theorem below4 (w : World) (o1 o2 o3 o4 : Obj) : Below w.heap.size w ((((w.alloc o1).alloc o2).alloc o3).alloc o4) := below_allocs [o1, o2, o3, o4] _ _ _ (Below.refl _ _) (Nat.le_refl _)
/-- Common's answer -/
def comW (u v : Wn) : Wn := if min u.2 v.2 ≤ max u.1 v.1 then (0, 0) else (max u.1 v.1, min u.2 v.2)
def comB (u v : Wn) : Bool := !decide (min u.2 v.2 ≤ max u.1 v.1)
set_option maxHeartbeats 1000000 in
theorem common_s (u v : Wn) (w : World) :
    Calls Tryz.prog 57 #[.agg #[.int .i64 u.1, .int .i64 u.2], .agg #[.int .i64 v.1, .int .i64 v.2]] w fun e w' => e = .returned (.tuple #[.agg #[.int .i64 (comW u v).1, .int .i64 (comW u v).2], .bool (comB u v)]) ∧ Below w.heap.size w w' := by
  obtain ⟨x, hx⟩ : ∃ x, max u.1 v.1 = x := ⟨_, rfl⟩
  obtain ⟨y, hy⟩ : ∃ x, min u.2 v.2 = x := ⟨_, rfl⟩
  obtain ⟨a, b⟩ := u
  obtain ⟨c, d⟩ := v
  simp only at hx hy
  by_cases h : y ≤ x
  · have HF := Lib.hid (show comW (a, b) (c, d) = (0, 0) ∧ comB (a, b) (c, d) = false by
      unfold comW comB; simp only; rw [hx, hy, if_pos h, decide_eq_true h]; exact ⟨rfl, rfl⟩)
    have hd : decide (y ≤ x) = true := decide_eq_true h
    go_enter Tryz.func57, Tryz.ntmps57
    go_wp2_with (go_at_call 86; refine (empty_s _ _ _).mono ?_; rintro e w' ⟨rfl, rfl⟩)
    refine bodyPost_ret (v := .tuple #[.agg #[.int .i64 0, .int .i64 0], .bool false]) (by simp [results, Tryz.results57, go_sem]) rfl ⟨by rw [HF.out.1, HF.out.2], ?_⟩
    exact below5 _ _ _ _ _ _
  · have HF := Lib.hid (show comW (a, b) (c, d) = (x, y) ∧ comB (a, b) (c, d) = true by
      unfold comW comB; simp only; rw [hx, hy, if_neg h, decide_eq_false h]; exact ⟨rfl, rfl⟩)
    have hd : decide (y ≤ x) = false := decide_eq_false h
    go_enter Tryz.func57, Tryz.ntmps57
    go_wp2_with (go_at_call 86; refine (empty_s _ _ _).mono ?_; rintro e w' ⟨rfl, rfl⟩)
    refine bodyPost_ret (v := .tuple #[.agg #[.int .i64 x, .int .i64 y], .bool true]) (by simp [results, Tryz.results57, go_sem]) rfl ⟨by rw [HF.out.1, HF.out.2], ?_⟩
    exact below5 _ _ _ _ _ _
end Go.Proofs.YtgepcbggkfjlgaaGreatDoor
end
