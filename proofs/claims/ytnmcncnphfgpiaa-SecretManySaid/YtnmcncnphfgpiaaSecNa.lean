/-
  The contract of the law's name; users with one failure each, one user with many. Condition: numbers below 300.
-/
import Derived.Test.YtnmcncnphfgpiaaSecLaws
set_option maxRecDepth 100000
set_option linter.unusedVariables false
set_option linter.unusedSimpArgs false
set_option linter.unnecessarySimpa false
namespace Go.Proofs.Ytnmcncnphfgpiaa
open Go.RowKit Go.PlainAid

def nmA (n : Nat) : UInt8 := UInt8.ofNat (97 + n / 26 % 26)
def nmB (n : Nat) : UInt8 := UInt8.ofNat (97 + n % 26)
def nmS (n : Nat) : ByteArray := ⟨#[117, nmA n, nmB n]⟩
theorem nmA_nat (n : Nat) : (nmA n).toNat = 97 + n / 26 % 26 := by unfold nmA; rw [UInt8.toNat_ofNat']; omega
theorem nmB_nat (n : Nat) : (nmB n).toNat = 97 + n % 26 := by unfold nmB; rw [UInt8.toNat_ofNat']; omega
theorem nm_inj {i j : Nat} (hi : i < 300) (hj : j < 300) (h : nmS i = nmS j) : i = j := by
  unfold nmS at h
  injection h with h
  have h1 : nmA i = nmA j := by simpa using congrArg (fun a : Array UInt8 => a.toList.getD 1 0) h
  have h2 : nmB i = nmB j := by simpa using congrArg (fun a : Array UInt8 => a.toList.getD 2 0) h
  have h1 := congrArg UInt8.toNat h1
  have h2 := congrArg UInt8.toNat h2
  rw [nmA_nat, nmA_nat] at h1
  rw [nmB_nat, nmB_nat] at h2
  omega
theorem nm_word : ∀ n : Nat, n < 300 → wordB (nmS n) = true := by decide +kernel
set_option maxHeartbeats 1000000 in
theorem name_s (n : Nat) (w : World) (hn : n < 1000) :
    Calls Try.prog 31 #[.int .i64 n] w fun e w' => e = .returned (.string (nmS n)) ∧ Below w.heap.size w w' := by
  have q1 : ((nmA n).toNat : Int) = 97 + (n : Int) / 26 % 26 := by rw [nmA_nat]; omega
  have q2 : ((nmB n).toNat : Int) = 97 + (n : Int) % 26 := by rw [nmB_nat]; omega
  have HC := Lib.hid (run_convert_bytes_back (P := Try.prog) (w.alloc (.cells #[.int .u8 (97 + (n : Int) / 26 % 26), .int .u8 (97 + (n : Int) % 26)] 5)) 79 9 5 ⟨w.heap.size, 0, none⟩ 2 [nmA n, nmB n] Try.underlying79 Try.underlying5 Try.underlying9 (fun j hj => by
    rw [Addr.add_lit, Nat.zero_add]
    match j, hj with
    | 0, _ => show _ = some (Value.int .u8 ((nmA n).toNat : Int)); rw [q1]; exact (kbc_new w _).cell rfl
    | 1, _ => show _ = some (Value.int .u8 ((nmB n).toNat : Int)); rw [q2]; exact (kbc_new w _).cell rfl
    | k + 2, h => exact absurd h (by simp)))
  have HB := Lib.hid (box_below w (.cells #[.int .u8 (97 + (n : Int) / 26 % 26), .int .u8 (97 + (n : Int) % 26)] 5))
  have hc := HC.out
  rw [show [nmA n, nmB n].length = 2 from rfl] at hc
  obtain ⟨r, hr⟩ : ∃ r : ByteArray, (⟨[nmA n, nmB n].toArray⟩ : ByteArray) = r := ⟨_, rfl⟩
  rw [hr] at hc
  have HR := Lib.hid hr
  have hrz : r.size = 2 := by rw [← hr]; rfl
  clear hr q1 q2
  go_enter Try.func31, Try.ntmps31
  go_wp2_with fail
  go_ret
  exact ⟨by rw [← HR.out]; rfl, HB.out⟩

/-! ### users with one failure each -/
def usM (i : Nat) : Us := (List.range (min i 256)).map fun k => (nmS k, ([1], 0))
theorem usM_len (i : Nat) : (usM i).length = min i 256 := by unfold usM; simp
theorem usM_none {i n : Nat} (hn : n < 300) (h : min i 256 ≤ n) : usO (usM i) (nmS n) = none := by
  rw [usO_none]
  intro p hp e
  unfold usM at hp
  obtain ⟨k, hk, rfl⟩ := List.mem_map.1 hp
  rw [List.mem_range] at hk
  have := nm_inj (by omega) hn e
  omega
theorem usO_nodup : ∀ {A : Us} {p : ByteArray × Rc}, UsN A → p ∈ A → usO A p.1 = some p.2
  | q :: A, p, h, hp => by
    unfold UsN at h
    rw [List.map_cons, List.nodup_cons] at h
    unfold usO
    rcases List.mem_cons.1 hp with e | e
    · subst e; rw [if_pos rfl]
    · rw [if_neg (fun k => h.1 (List.mem_map.2 ⟨p, e, k⟩))]
      exact usO_nodup (A := A) h.2 e
theorem usM_nod (i : Nat) : UsN (usM i) := by
  unfold UsN usM
  rw [List.map_map]
  refine List.pairwise_map.2 ((List.nodup_range (n := min i 256)).imp_of_mem fun {a b} ha hb hne e => ?_)
  rw [List.mem_range] at ha hb
  exact hne (nm_inj (by omega) (by omega) e)
theorem usM_some {i n : Nat} (h : n < min i 256) : usO (usM i) (nmS n) = some ([1], 0) :=
  usO_nodup (p := (nmS n, ([1], 0))) (usM_nod i) (List.mem_map.2 ⟨n, List.mem_range.2 h, rfl⟩)
theorem usM_next {i : Nat} (hi : i < 300) : failA 256 1099511627776 10 (usM i) (nmS i) 1 = usM (i + 1) := by
  have hn := usM_none (i := i) hi (Nat.min_le_left _ _)
  rcases Nat.lt_or_ge i 256 with h | h
  · rw [failA_main (nm_word i hi) (.inr (by rw [usM_len]; omega))]
    unfold usSet
    rw [hn]
    have hR : failR 256 1099511627776 10 (curR (usM i) (nmS i)) (limI 1) = ([1], 0) := by
      unfold curR; rw [hn]; decide +kernel
    rw [hR]
    unfold usM
    rw [show min (i + 1) 256 = i + 1 by omega, show min i 256 = i by omega, List.range_succ, List.map_append]
    rfl
  · unfold failA
    rw [if_pos (nm_word i hi), if_pos ⟨by rw [hn]; rfl, by rw [usM_len]; omega⟩]
    unfold usM
    rw [show min (i + 1) 256 = min i 256 by omega]
theorem usM_fails {N i : Nat} (hi : i < N) (hN : N ≤ 300) : failsA 1099511627776 (usM N) (nmS i) 2 = if i < 256 then 1 else 0 := by
  show cntF _ (curR (usM N) (nmS i)).1 _ = _
  unfold curR
  rcases Nat.lt_or_ge i 256 with h | h
  · rw [usM_some (i := N) (n := i) (by omega), if_pos h]; decide +kernel
  · rw [usM_none (i := N) (n := i) (by omega) (by omega), if_neg (by omega)]; rfl
/-- the users behind the loss of one, who then fails j times -/
def usF0 (A : Us) (j : Nat) : Us := if j = 0 then A else A ++ [(nmS 0, (List.replicate (min j 256) 3, if 256 ≤ j then 13 else 0))]
theorem usF0_cur {A : Us} (hA : usO A (nmS 0) = none) (j : Nat) : curR (usF0 A j) (nmS 0) = (List.replicate (min j 256) 3, if 256 ≤ j then 13 else 0) := by
  unfold usF0 curR
  by_cases h : j = 0
  · subst h; rw [if_pos rfl, hA]; rfl
  · rw [if_neg h, usO_append, hA]
    show (if nmS 0 = nmS 0 then some (List.replicate (min j 256) (3 : Int), if 256 ≤ j then (13 : Int) else 0) else none : Option Rc).getD _ = _
    rw [if_pos rfl]; rfl
theorem cntR {win n : Int} (h : 1 ≤ win) : ∀ i, cntF win (List.replicate i n) n = i
  | 0 => rfl
  | i + 1 => by rw [List.replicate_succ', cntF_snoc, cntR h i, if_pos ⟨Int.le_refl _, by omega⟩]
theorem usF0_next {A : Us} (hA : usO A (nmS 0) = none) (hl : A.length < 256) (j : Nat) : failA 256 1099511627776 10 (usF0 A j) (nmS 0) 3 = usF0 A (j + 1) := by
  have hk : (usO (usF0 A j) (nmS 0)).isSome = true ∨ (usF0 A j).length < 256 := by
    unfold usF0
    by_cases h : j = 0
    · rw [if_pos h]; exact .inr hl
    · rw [if_neg h, usO_append, hA]
      refine .inl ?_
      show (if nmS 0 = nmS 0 then some (List.replicate (min j 256) (3 : Int), if 256 ≤ j then (13 : Int) else 0) else none : Option Rc).isSome = true
      rw [if_pos rfl]; rfl
  rw [failA_main (nm_word 0 (by decide)) hk, usF0_cur hA]
  have hR : failR 256 1099511627776 10 (List.replicate (min j 256) 3, if 256 ≤ j then 13 else 0) (limI 3) = (List.replicate (min (j + 1) 256) 3, if 256 ≤ j + 1 then 13 else 0) := by
    rw [show limI 3 = 3 by decide]
    unfold failR
    dsimp only
    have hL : lastN (List.replicate (min j 256) (3 : Int) ++ [3]) = List.replicate (min (j + 1) 256) 3 := by
      rw [← List.replicate_succ']
      unfold lastN
      rw [List.drop_replicate, List.length_replicate]
      congr 1; omega
    rw [hL, cntR (by decide), show addI 3 10 = 13 by decide]
    by_cases h : 256 ≤ j + 1
    · rw [if_pos (.inl (by omega)), if_pos h]
      congr 1
      split <;> decide
    · rw [if_neg (by rw [if_neg (by omega)]; omega), if_neg h, if_neg (by omega)]
  rw [hR]
  unfold usSet
  by_cases h : j = 0
  · subst h
    unfold usF0
    rw [if_pos rfl, hA, if_neg (by decide), if_neg (by decide), if_neg (show ¬ 0 + 1 = 0 by decide)]
  · have hs : (usO (usF0 A j) (nmS 0)).isSome = true := by
      unfold usF0
      rw [if_neg h, usO_append, hA]
      show (if nmS 0 = nmS 0 then some (List.replicate (min j 256) (3 : Int), if 256 ≤ j then (13 : Int) else 0) else none : Option Rc).isSome = true
      rw [if_pos rfl]; rfl
    rw [if_pos hs]
    unfold usF0
    rw [if_neg h, if_neg (show ¬ j + 1 = 0 by omega), List.map_append]
    congr 1
    · refine (List.map_congr_left fun p hp => ?_).trans (List.map_id _)
      rw [if_neg (usO_none.1 hA p hp)]; rfl
theorem usF0_fails {A : Us} (hA : usO A (nmS 0) = none) (j : Nat) : failsA 1099511627776 (usF0 A j) (nmS 0) 3 = min j 256 := by
  show cntF _ (curR (usF0 A j) (nmS 0)).1 (limI 3) = _
  rw [usF0_cur hA, show limI 3 = 3 by decide]
  exact cntR (by decide) _
theorem usF0_lock {A : Us} (hA : usO A (nmS 0) = none) (j : Nat) : lockedA (usF0 A j) (nmS 0) 3 = decide (256 ≤ j) := by
  rw [locked_is, usF0_cur hA, show limI 3 = 3 by decide]
  by_cases h : 256 ≤ j
  · rw [decide_eq_true h]; dsimp only; rw [if_pos h]; rfl
  · rw [decide_eq_false h]; dsimp only; rw [if_neg h]; rfl

end Go.Proofs.Ytnmcncnphfgpiaa
