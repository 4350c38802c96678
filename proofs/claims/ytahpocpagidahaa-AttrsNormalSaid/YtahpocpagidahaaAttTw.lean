/-
  Contracts of the specification's twice and checkValues. Condition: strings of at most 1000000 bytes.
-/
import Derived.Test.YtahpocpagidahaaAttMem
set_option linter.unusedVariables false
set_option linter.unusedSimpArgs false
set_option linter.unnecessarySimpa false
namespace Go.Proofs.Ytahpocpagidahaa
open Go.RowKit Go.PlainAid

/-- names and values are short -/
def SmallS (l : List ByteArray) : Prop := ∀ v ∈ l, v.size ≤ 1000000
def SmallA (l : List At) : Prop := ∀ a ∈ l, a.1.size ≤ 1000000 ∧ SmallS a.2
theorem two_step {w w1 w2 : World} {A B : Addr} {x y : Value} (h : w1.cell? A = some x ∧ w1.cell? B = some y ∧ Hid (Below w.heap.size w w1)) (hb : Below w1.heap.size w1 w2) :
    w2.cell? A = some x ∧ w2.cell? B = some y ∧ Hid (Below w.heap.size w w2) :=
  ⟨cell_later hb h.1, cell_later hb h.2.1, Lib.hid (h.2.2.out.trans (hb.mono h.2.2.out.size))⟩
/-- an attribute before number i has the same name -/
def twiceB (l : List At) (i : Nat) : Bool := (l.take i).any fun a => decide (lowS a.1 = lowS (atD l i).1)
theorem twice_true {l : List At} {i k : Nat} (hi : i < l.length) (hk : k < i) (h : lowS (atD l k).1 = lowS (atD l i).1) : twiceB l i = true := by
  unfold twiceB
  rw [List.any_eq_true]
  refine ⟨atD l k, ?_, decide_eq_true h⟩
  rw [at_get l k (by omega)]
  exact List.mem_take_iff_getElem.2 ⟨k, by omega, rfl⟩
theorem twice_false {l : List At} {i : Nat} (hi : i < l.length) (h : ∀ k, k < i → lowS (atD l k).1 ≠ lowS (atD l i).1) : twiceB l i = false := by
  rw [Bool.eq_false_iff]
  intro e
  unfold twiceB at e
  rw [List.any_eq_true] at e
  obtain ⟨a, ha, e⟩ := e
  obtain ⟨k, hk, rfl⟩ := List.mem_take_iff_getElem.1 ha
  refine h k (by omega) ?_
  rw [at_get l k (by omega)]
  exact of_decide_eq_true e

set_option maxRecDepth 100000 in
set_option maxHeartbeats 4000000 in
theorem twice_s (ao : Option Addr) (n cap i : Nat) (l : List At) (w : World) (h : AttrsAt w ao n cap l) (hi : i < n) (hS : SmallA l) :
    Calls Try.prog 40 #[.slice ao n cap, .int .i64 i] w fun e w' => e = .returned (.bool (twiceB l i)) ∧ Below w.heap.size w w' := by
  obtain ⟨h1, h2, h3, h4⟩ := h
  subst h1
  unfold maxLen at h3
  obtain ⟨b, off, rfl, hblt, ha⟩ := h4 (by omega)
  have HA := Lib.hid (fun j (hj : j < l.length) => (ha j hj).1)
  obtain ⟨q, hq⟩ : ∃ q, (atD l i).1 = q := ⟨_, rfl⟩
  have hqs : q.size ≤ 1000000 := by rw [← hq]; exact (hS _ (at_mem l i hi)).1
  have hci := HA.out i hi
  rw [hq] at hci
  have HS := Lib.hid hS
  have HT := Lib.hid (fun k => twice_true (l := l) (i := i) (k := k) hi)
  have HF := Lib.hid (twice_false (l := l) (i := i) hi)
  rw [hq] at HT HF
  clear hq ha hS
  obtain ⟨u, hu⟩ : ∃ u, lowS q = u := ⟨_, rfl⟩
  rw [hu] at HT HF
  have HU := Lib.hid hu
  clear hu
  have e0 : (i : Int) < (l.length : Int) := by omega
  go_enter Try.func40, Try.ntmps40
  go_wp2
  go_loopw [5] (fun j wr => ∃ k : Nat, k ≤ i ∧ j = .int .i64 k ∧ Hid (∀ j, j < k → lowS (atD l j).1 ≠ u) ∧ Below w.heap.size w wr) (fun j _ => i - (intOf j).toNat)
  case atStart => exact ⟨0, Nat.zero_le _, rfl, Lib.hid (fun j hj => absurd hj (Nat.not_lt_zero _)), Below.refl _ _⟩
  case round =>
    obtain ⟨k, hk, rfl, HN, hbl⟩ := hrel
    by_cases hlt : k < i
    · have hck0 := HA.out k (by omega)
      obtain ⟨p, hp⟩ : ∃ p, (atD l k).1 = p := ⟨_, rfl⟩
      have hps : p.size ≤ 1000000 := by rw [← hp]; exact (HS.out _ (at_mem l k (by omega))).1
      rw [hp] at hck0
      have hck := (hbl.cell (p := ⟨b, off + k * 2, none⟩) hblt).trans hck0
      have hci' := (hbl.cell (p := ⟨b, off + i * 2, none⟩) hblt).trans hci
      have HT1 := Lib.hid (HT.out k hlt)
      rw [hp] at HT1
      have HP := Lib.hid hp
      clear hp hck0 hci
      obtain ⟨t, ht⟩ : ∃ t, lowS p = t := ⟨_, rfl⟩
      rw [ht] at HT1
      have HTT := Lib.hid ht
      have HB : Hid (Below w.heap.size w wr.drew) := Lib.hid hbl.drew
      have d1 : (k : Int) < (i : Int) := by omega
      have d2 : (k : Int) < (l.length : Int) := by omega
      clear ht hbl
      by_cases htu : t = u
      · have q1 : (t.toList == u.toList) = true := by rw [str_eq]; exact decide_eq_true htu
        have HE := Lib.hid (HT1.out htu)
        clear htu
        go_wp2_with fail
        go_region_held3 (fun w' => w'.cell? ⟨b, off + k * 2, none⟩ = some (.string p) ∧ w'.cell? ⟨b, off + i * 2, none⟩ = some (.string q) ∧ Hid (Below w.heap.size w w'))
          (first | exact ⟨hck, hci', HB⟩ | exact two_step (by assumption) hb | go_keep)
          (first
            | (go_at_call 35; with_reducible refine (rLower_s p _ (by omega)).mono ?_; rintro e w' ⟨rfl, hb⟩; rw [HTT.out])
            | (go_at_call 35; with_reducible refine (rLower_s q _ (by omega)).mono ?_; rintro e w' ⟨rfl, hb⟩; rw [HU.out]))
        all_goals (go_wp2; go_ret; exact ⟨by rw [HE.out]; rfl, (show Hid (Below w.heap.size w _) by first | assumption | exact And.right (And.right (by assumption))).out⟩)
      · have q1 : (t.toList == u.toList) = false := by rw [str_eq]; exact decide_eq_false htu
        have HE := Lib.hid htu
        clear htu
        go_wp2_with fail
        go_region_held3 (fun w' => w'.cell? ⟨b, off + k * 2, none⟩ = some (.string p) ∧ w'.cell? ⟨b, off + i * 2, none⟩ = some (.string q) ∧ Hid (Below w.heap.size w w'))
          (first | exact ⟨hck, hci', HB⟩ | exact two_step (by assumption) hb | go_keep)
          (first
            | (go_at_call 35; with_reducible refine (rLower_s p _ (by omega)).mono ?_; rintro e w' ⟨rfl, hb⟩; rw [HTT.out])
            | (go_at_call 35; with_reducible refine (rLower_s q _ (by omega)).mono ?_; rintro e w' ⟨rfl, hb⟩; rw [HU.out]))
        go_wp2
        go_roundw
        case rel =>
          refine ⟨k + 1, by omega, by go_num, Lib.hid fun j hj => ?_, (show Hid (Below w.heap.size w _) by first | assumption | exact And.right (And.right (by assumption))).out⟩
          by_cases e : j = k
          · rw [e, HP.out, HTT.out]; exact HE.out
          · exact HN.out j (by omega)
        case measure => simp [intOf]; omega
    · have hki : k = i := by omega
      subst hki
      have HE := Lib.hid (HF.out HN.out)
      go_wp2_with fail
      go_ret
      exact ⟨by rw [HE.out]; rfl, hbl⟩

end Go.Proofs.Ytahpocpagidahaa
