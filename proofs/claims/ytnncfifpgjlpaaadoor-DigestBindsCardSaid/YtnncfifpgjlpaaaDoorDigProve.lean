/-
  The contract of digest.Proves. Condition: at most 1000 strings of at most 1000 bytes.
-/
import Derived.Test.YtnncfifpgjlpaaaDoorDigRPath
set_option linter.unusedVariables false
set_option linter.unusedSimpArgs false
set_option linter.unnecessarySimpa false
namespace Go.Proofs.YtnncfifpgjlpaaaDoor
open Go.RowKit Go.PlainAid

def tipB (root node : ByteArray) (k m : Nat) (qs : List ByteArray) : Bool := match climb node k m qs with
  | none => false
  | some L => decide (tipS node L = root)
theorem tip_start (root s : ByteArray) (i n : Nat) (h : i < n) (ps : List ByteArray) : provesB root s i n ps = tipB root (leafS s) i n ps := by
  unfold provesB stringsO tipB
  rw [if_neg (by omega), Int.toNat_natCast, Int.toNat_natCast]
  cases climb (leafS s) i n ps with
  | none => rfl
  | some L =>
    show decide (tipS root (leafQ s :: L) = root) = _
    rw [tipS_cons]; rfl
theorem proves_bad (root s : ByteArray) (i n : Int) (h : i < 0 ∨ n ≤ i) (ps : List ByteArray) : provesB root s i n ps = false := by
  unfold provesB stringsO
  rw [if_pos h]
theorem tip_end (root node : ByteArray) (k m : Nat) (qs : List ByteArray) (h : m ≤ 1) : tipB root node k m qs = (decide (qs = []) && decide (node = root)) := by
  unfold tipB
  rw [climb_end _ _ _ _ h]
  by_cases e : qs = []
  · rw [if_pos e, decide_eq_true e, Bool.true_and]; rfl
  · rw [if_neg e]; simp [e]
theorem tip_skip (root node : ByteArray) (k m : Nat) (qs : List ByteArray) (h : ¬ m ≤ 1) (hm : ¬ mate k < m) : tipB root node k m qs = tipB root node (k / 2) (m / 2 + m % 2) qs := by
  unfold tipB
  rw [climb_skip _ _ _ _ h hm]
theorem tip_none (root node : ByteArray) (k m : Nat) (h : ¬ m ≤ 1) (hm : mate k < m) : tipB root node k m [] = false := by
  unfold tipB
  rw [climb_none _ _ _ h hm]
theorem tip_cons (root node p : ByteArray) (k m : Nat) (r : List ByteArray) (h : ¬ m ≤ 1) (hm : mate k < m) : tipB root node k m (p :: r) = tipB root (txtS (joinQ node p k)) (k / 2) (m / 2 + m % 2) r := by
  unfold tipB
  rw [climb_cons _ _ _ _ _ h hm]
  cases climb (txtS (joinQ node p k)) (k / 2) (m / 2 + m % 2) r with
  | none => rfl
  | some L =>
    show decide (tipS node (joinQ node p k :: L) = root) = _
    rw [tipS_cons]
theorem strs_drop {w : World} {b off n cap : Nat} {p : ByteArray} {r : List ByteArray} (h : StrsAt w (some ⟨b, off, none⟩) n cap (p :: r)) : StrsAt w (if cap = 1 then some ⟨b, off, none⟩ else some ⟨b, off + 1, none⟩) (n - 1) (cap - 1) r := by
  by_cases hc : cap = 1
  · rw [if_pos hc]
    have h1 := h.1
    have h2 := h.2.1
    have h3 := h.2.2.1
    have hl : r.length + 1 = n := h1
    exact ⟨by omega, by omega, by omega, fun hn => by omega⟩
  · rw [if_neg hc]; exact h.drop
theorem str_eq {a b : ByteArray} (h : a = b) : (a.toList == b.toList) = true := by rw [h]; exact beq_self_eq_true _
theorem str_ne {a b : ByteArray} (h : a ≠ b) : (a.toList == b.toList) = false := by
  rw [Lib.toList_data, Lib.toList_data]
  exact beq_false_of_ne fun e => h (by rw [← Lib.mk_data a, ← Lib.mk_data b, e])
theorem or_badI (i n : Int) (h : i < 0 ∨ n ≤ i) : decide (i < 0) = true ∨ (decide (i < 0) = false ∧ decide (n ≤ i) = true) := by
  by_cases h0 : i < 0
  · exact .inl (decide_eq_true h0)
  · exact .inr ⟨decide_eq_false h0, decide_eq_true (by omega)⟩

set_option maxRecDepth 100000 in
set_option maxHeartbeats 4000000 in
theorem proves_no (root s : ByteArray) (i n : Int) (ao : Option Addr) (l cap : Nat) (ps : List ByteArray) (w : World) (hi : i < 0 ∨ n ≤ i) :
    Calls Tryd.prog 32 #[.string root, .string s, .int .i64 i, .int .i64 n, .slice ao l cap] w fun e w' => e = .returned (.bool (provesB root s i n ps)) ∧ w = w' := by
  have HE := Lib.hid (proves_bad root s i n hi ps)
  rcases or_badI i n hi with d | ⟨d1, d2⟩
  · clear hi
    go_enter Tryd.func32, Tryd.ntmps32
    go_wp2_with fail
    go_ret
    exact ⟨by rw [HE.out]; rfl, rfl⟩
  · clear hi
    go_enter Tryd.func32, Tryd.ntmps32
    go_wp2_with fail
    go_ret
    exact ⟨by rw [HE.out]; rfl, rfl⟩

set_option maxRecDepth 100000 in
set_option maxHeartbeats 4000000 in
theorem proves_yes (root s : ByteArray) (i n : Nat) (ao : Option Addr) (l cap : Nat) (ps : List ByteArray) (w : World) (hi : i < n) (hn : n < 9223372036854775808) (hs : s.size ≤ 1000)
    (h : StrsAt w ao l cap ps) (hl : l ≤ 1000) (hp : ∀ j, j < ps.length → (partAt ps j).size ≤ 1000) :
    Calls Tryd.prog 32 #[.string root, .string s, .int .i64 i, .int .i64 n, .slice ao l cap] w fun e w' => e = .returned (.bool (provesB root s i n ps)) ∧ Below w.heap.size w w' := by
  have HP := Lib.hid hp; clear hp
  have H := Lib.hid h; clear h
  obtain ⟨B, HB⟩ : ∃ B, Hid (provesB root s i n ps = B) := ⟨_, Lib.hid rfl⟩
  rw [HB.out]
  have HS := Lib.hid (tip_start root s i n hi ps)
  have d1 : decide ((i : Int) < 0) = false := decide_eq_false (by omega)
  have d2 : decide ((n : Int) ≤ (i : Int)) = false := decide_eq_false (by omega)
  go_enter Tryd.func32, Tryd.ntmps32
  go_wp2_with (go_at_call 44; refine (leaf_s s _ (by omega)).mono ?_; rintro e w1 ⟨rfl, hb1⟩)
  clear d1 d2
  go_loopw [2, 3, 4, 11] (fun iv nv pv hv wr => ∃ (k m : Nat) (po : Option Addr) (pn pc : Nat) (qs : List ByteArray) (node : ByteArray), iv = .int .i64 k ∧ nv = .int .i64 m ∧ pv = .slice po pn pc ∧ hv = .string node ∧
      k < m ∧ m < 9223372036854775808 ∧ pn ≤ 1000 ∧ node.size = 16 ∧ Hid (StrsAt wr po pn pc qs) ∧ Hid (∀ j, j < qs.length → (partAt qs j).size ≤ 1000) ∧ Hid (B = tipB root node k m qs) ∧ Below w.heap.size w wr)
    (fun _ nv _ _ _ => (intOf nv).toNat)
  case atStart => exact ⟨i, n, ao, l, cap, ps, leafS s, rfl, rfl, rfl, rfl, hi, hn, hl, leafS_size s, Lib.hid (H.out.below hb1), HP, Lib.hid (by rw [← HB.out]; exact HS.out), hb1⟩
  case round =>
    obtain ⟨k, m, po, pn, pc, qs, node, rfl, rfl, rfl, rfl, hkm, hm, hpn, hz, HL, HF, HT, hbel⟩ := hrel
    have hlq := HL.out.1
    have hcp := HL.out.2.1
    have hcm := HL.out.2.2.1
    unfold maxLen at hcm
    by_cases h1 : 1 < m
    · obtain ⟨q, hq⟩ : ∃ q, mate k = q := ⟨_, rfl⟩
      obtain ⟨m2, HM2, e2⟩ : ∃ m2 : Nat, Hid (m / 2 + m % 2 = m2) ∧ (m : Int) / 2 + (m : Int) % 2 = (m2 : Int) := ⟨_, Lib.hid rfl, by omega⟩
      by_cases h2 : q < m
      · cases qs with
        | nil =>
          obtain rfl : pn = 0 := by simpa using hlq.symm
          have HX := Lib.hid (show B = false by rw [HT.out]; exact tip_none root node k m (by omega) (by rw [hq]; exact h2))
          go_wp2_with (go_at_call 41; refine (partner_s k _ (by omega)).mono ?_; rintro e w' ⟨rfl, rfl⟩; rw [hq])
          go_ret
          exact ⟨by rw [HX.out]; rfl, hbel⟩
        | cons p r =>
          have hlr : r.length + 1 = pn := hlq
          obtain ⟨b, off, rfl, hbw, hcells⟩ := HL.out.at (by omega)
          have hc := hcells _ (Below.refl _ _) 0 (by omega)
          rw [Nat.add_zero, partAt_zero] at hc
          have HN := Lib.hid (show B = tipB root (txtS (joinQ node p k)) (k / 2) (m / 2 + m % 2) r by rw [HT.out]; exact tip_cons root node p k m r (by omega) (by rw [hq]; exact h2))
          have hzp : p.size ≤ 1000 := HF.out 0 (by simp)
          have HF2 := Lib.hid (show ∀ j, j < r.length → (partAt r j).size ≤ 1000 from fun j hj => HF.out (j + 1) (by simpa using hj))
          have HD := Lib.hid (strs_drop HL.out)
          have d3 : ((pn : Int) == 0) = false := by rw [beq_eq_false_iff_ne]; omega
          have i0 : 0 < pn := by omega
          clear hcells hbw hlq
          go_wp2_with (first
            | (go_at_call 41; refine (partner_s k _ (by omega)).mono ?_; rintro e w' ⟨rfl, rfl⟩; rw [hq])
            | (go_at_call 45; refine (joined_s node p k _ (by omega) (by omega) (by omega)).mono ?_; rintro e w2 ⟨rfl, hb2⟩))
          go_roundw
          case rel =>
            refine ⟨k / 2, m2, _, _, _, r, _, by go_num, rfl, rfl, rfl, ?_, ?_, ?_, txtS_size _, Lib.hid (HD.out.below hb2), HF2, Lib.hid ?_, hbel.trans (hb2.mono hbel.size)⟩
            · have := HM2.out; omega
            · have := HM2.out; omega
            · omega
            · rw [← HM2.out]; exact HN.out
          case measure => have := HM2.out; simp [intOf]; omega
      · have HN := Lib.hid (show B = tipB root node (k / 2) (m / 2 + m % 2) qs by rw [HT.out]; exact tip_skip root node k m qs (by omega) (by rw [hq]; exact h2))
        go_wp2_with (go_at_call 41; refine (partner_s k _ (by omega)).mono ?_; rintro e w' ⟨rfl, rfl⟩; rw [hq])
        go_roundw
        case rel =>
          refine ⟨k / 2, m2, po, pn, pc, qs, node, by go_num, rfl, rfl, rfl, ?_, ?_, hpn, hz, HL, HF, Lib.hid ?_, hbel⟩
          · have := HM2.out; omega
          · have := HM2.out; omega
          · rw [← HM2.out]; exact HN.out
        case measure => have := HM2.out; simp [intOf]; omega
    · have HX := Lib.hid (show B = (decide (qs = []) && decide (node = root)) by rw [HT.out]; exact tip_end root node k m qs (by omega))
      by_cases h0 : pn = 0
      · have hq0 : qs = [] := List.length_eq_zero_iff.1 (by omega)
        have d3 : ((pn : Int) == 0) = true := by rw [beq_iff_eq]; omega
        by_cases hnr : node = root
        · have hq := str_eq hnr
          have HY := Lib.hid (show B = true by rw [HX.out, decide_eq_true hq0, decide_eq_true hnr]; rfl)
          clear hnr h0 hq0
          go_wp2_with fail
          go_ret
          exact ⟨by rw [HY.out]; rfl, hbel⟩
        · have hq := str_ne hnr
          have HY := Lib.hid (show B = false by rw [HX.out, decide_eq_false hnr, Bool.and_false])
          clear hnr h0 hq0
          go_wp2_with fail
          go_ret
          exact ⟨by rw [HY.out]; rfl, hbel⟩
      · have hq0 : qs ≠ [] := by intro e; subst e; exact h0 (by simpa using hlq.symm)
        have d3 : ((pn : Int) == 0) = false := by rw [beq_eq_false_iff_ne]; omega
        have HY := Lib.hid (show B = false by rw [HX.out, decide_eq_false hq0, Bool.false_and])
        go_wp2_with fail
        go_ret
        exact ⟨by rw [HY.out]; rfl, hbel⟩

end Go.Proofs.YtnncfifpgjlpaaaDoor
