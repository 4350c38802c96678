/-
  A map from strings to slices of strings that the call has made: each key's slice lies in a row of its own. Also: the keys in order are the ascending list of them.
-/
import Derived.Test.YtahpocpagidahaaAttKeys
import Derived.Maps.OwnSet
import Derived.Sort.KeysCollected
set_option linter.unusedVariables false
set_option linter.unusedSimpArgs false
set_option linter.unnecessarySimpa false
namespace Go.Proofs.Ytahpocpagidahaa
open Go.RowKit Go.PlainAid Go.Maps

variable {H : Type}
/-- how the head of a slice of the call's own reads, in whatever world: its block, length and capacity -/
def hdrE (v : Value) : Option (DataW H × List MemPlace) :=
  match v with
  | .slice none 0 0 => some (.nil, [])
  | .slice (some ⟨g, 0, none⟩) n c => some (.agg [.lit (.int .i64 g), .lit (.int .i64 n), .lit (.int .i64 c)], [])
  | _ => none
theorem hdrE_nil : hdrE (H := H) (.slice none 0 0) = some (.nil, []) := rfl
theorem hdrE_some (g n c : Nat) : hdrE (H := H) (.slice (some ⟨g, 0, none⟩) n c) = some (.agg [.lit (.int .i64 g), .lit (.int .i64 n), .lit (.int .i64 c)], []) := rfl
theorem hdrE_one {u v : Value} {d : DataW H} {ps qs : List MemPlace} (h : hdrE u = some (d, ps)) (k : hdrE v = some (d, qs)) : u = v := by
  unfold hdrE at h k
  split at h <;> split at k <;> simp only [Option.some.injEq, Prod.mk.injEq, reduceCtorEq] at h k
  · rfl
  · obtain ⟨rfl, _⟩ := h; simp at k
  · obtain ⟨rfl, _⟩ := h; simp at k
  · obtain ⟨rfl, _⟩ := h
    simp only [DataW.agg.injEq, List.cons.injEq, DataW.lit.injEq, Lit.int.injEq, Int.ofNat.injEq, and_true, true_and, Int.ofNat_inj] at k
    obtain ⟨⟨h1, h2, h3⟩, _⟩ := k
    subst h1; subst h2; subst h3; rfl

theorem lt_cmp : ∀ a b : List UInt8, a < b ↔ Lib.compareBytes a b < 0
  | [], [] => by simp [Lib.compareBytes]
  | [], _ :: _ => by simp [Lib.compareBytes]
  | _ :: _, [] => by simp [Lib.compareBytes]
  | x :: a, y :: b => by
    rw [List.cons_lt_cons_iff, lt_cmp a b]
    show _ ↔ (if x < y then (-1 : Int) else if y < x then 1 else Lib.compareBytes a b) < 0
    by_cases h : x < y
    · simp [h]
    · by_cases g : y < x
      · have hne : ¬ x = y := fun e => by subst e; exact h g
        simp [h, g, hne]
      · have he : x = y := by
          have h1 : ¬ x.toNat < y.toNat := fun k => h (UInt8.lt_iff_toNat_lt.2 k)
          have h2 : ¬ y.toNat < x.toNat := fun k => g (UInt8.lt_iff_toNat_lt.2 k)
          exact UInt8.toNat_inj.1 (by omega)
        simp [h, g, he]
theorem sort_keys {ss : List (List UInt8)} {ks : List ByteArray} (hn : ss.Nodup) (h : ∀ x : ByteArray, x.data.toList ∈ ss ↔ x ∈ ks) :
    (ss.mergeSort (fun x y => decide (x ≤ y))).map (fun x => (⟨x.toArray⟩ : ByteArray)) = sortU ks := by
  have hs := List.pairwise_mergeSort (le := fun (x y : List UInt8) => decide (x ≤ y)) (fun a b c h1 h2 => decide_eq_true (List.le_trans (of_decide_eq_true h1) (of_decide_eq_true h2))) (fun a b => by
    rcases List.le_total a b with k | k
    · simp [k]
    · simp [k]) ss
  have hp := List.mergeSort_perm ss (fun x y => decide (x ≤ y))
  refine asc_ext ?_ (sortU_asc ks) fun x => ?_
  · unfold Asc
    rw [List.pairwise_map]
    have hd := hp.symm.nodup hn
    refine (hs.and hd).imp fun {a b} k => ?_
    have k1 : ¬ b < a := List.not_lt.2 (of_decide_eq_true k.1)
    rw [lt_cmp] at k1
    rcases cs_tri ⟨a.toArray⟩ ⟨b.toArray⟩ with j | j | j
    · exact j
    · exact absurd (by simpa using congrArg (fun s : ByteArray => s.data.toList) j) k.2
    · exact absurd (by simpa [cmpS] using j) k1
  · rw [sortU_mem, ← h x, List.mem_map]
    constructor
    · rintro ⟨y, hy, rfl⟩
      exact hp.mem_iff.1 (by simpa using hy)
    · intro hx
      exact ⟨x.data.toList, hp.mem_iff.2 hx, by simp⟩

end Go.Proofs.Ytahpocpagidahaa
