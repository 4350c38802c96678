/-
  What the scope laws share. No condition.
-/
import Derived.Test.YtminodinhbcgnaaDoorScoK
import Derived.Test.YtminodinhbcgnaaDoorLawFrame
import Derived.Stop.LaidErr
set_option maxRecDepth 100000
set_option linter.unusedVariables false
set_option linter.unusedSimpArgs false
set_option linter.unnecessarySimpa false
namespace Go.Proofs.YtminodinhbcgnaaDoor
open Go.RowKit Go.PlainAid Go.ChangeShapes Go.WideShapes Go.ChangeAt

theorem few_k (ao : Option Addr) (n cap : Nat) (ps : List ByteArray) (r : Bool) (w : World) (h : StrsAt w ao n cap ps) (hr : fewB ps = r) :
    Calls Tryd.prog 10 #[.slice ao n cap] w fun e w' => e = .returned (.bool r) ∧ w = w' := hr ▸ few_s ao n cap ps w h
theorem beq_i (x : Int) : (x == x) = true := beq_self_eq_true _
theorem bne_i (x : Int) : (x != x) = false := bne_self_eq_false _
theorem beq_b (x : Bool) : (x == x) = true := beq_self_eq_true _
theorem beq_s (x : ByteArray) : (x.toList == x.toList) = true := beq_self_eq_true _
theorem bne_s (x : ByteArray) : (x.toList != x.toList) = false := bne_self_eq_false _
theorem sms_sub {a b : List ByteArray} (h : SmS a) (hl : b.length ≤ 5000) (hs : ∀ s ∈ b, s ∈ a) : SmS b := ⟨hl, fun j hj => sms_in h (hs _ (part_mem b j hj))⟩
theorem sms_srt {l : List ByteArray} (h : SmS l) : SmS (srt l) := sms_sub h (Nat.le_trans (srt_len l) h.1) fun s hs => (srt_mem.1 hs).1
theorem mns_len (a b : List ByteArray) : (mns a b).length ≤ a.length := Nat.le_trans (srt_len _) (List.length_filter_le _ _)
theorem sms_mns {a b : List ByteArray} (h : SmS a) : SmS (mns a b) := sms_sub h (Nat.le_trans (mns_len a b) h.1) fun s hs => (mns_mem hs).1
theorem sms_cmn {a b : List ByteArray} (h : SmS a ∧ a.length ≤ 20 ∧ ∀ j, j < a.length → (partAt a j).size ≤ 200) (k : SmS b ∧ b.length ≤ 20 ∧ ∀ j, j < b.length → (partAt b j).size ≤ 200) : SmS (cmn a b) ∧ (cmn a b).length ≤ 40 := by
  have h1 := List.length_filter_le (cov b) a
  have h2 := List.length_filter_le (cov a) b
  have hs := sms_app (sms_flt h.1 (cov b)) (sms_flt k.1 (cov a)) (by omega)
  have hl := srt_len (a.filter (cov b) ++ b.filter (cov a))
  rw [List.length_append] at hl
  exact ⟨sms_srt hs, by unfold cmn; omega⟩
theorem sms_one {a : ByteArray} (h : a.size ≤ 1000000) : SmS [a] := ⟨by simp, fun j hj => by
  have hj0 : j = 0 := by simp at hj; omega
  subst hj0; exact h⟩
theorem tx_small (l : List ByteArray) : (txS l).size ≤ 2000 := by
  unfold txS
  split
  · next h =>
    have hb := sms_vd h
    have := joinB_le (sep := 32) (M := 64) hb.2
    have h2 : l.length * (64 + 1) ≤ 16 * 65 := Nat.mul_le_mul_right _ hb.1
    omega
  · show 0 ≤ 2000
    omega
theorem sms_prL {s : ByteArray} (h : s.size ≤ 4000) : SmS (prL s) := by
  unfold prL
  have hn : SmS [] := ⟨Nat.zero_le _, fun j hj => absurd hj (Nat.not_lt_zero _)⟩
  split
  · exact hn
  · split
    · exact sms_parts h
    · exact hn
theorem keep1 {w w1 w2 : World} {f : Nat} {A : Addr} {x : Value} (h : w1.cell? A = some x ∧ Hid (Below f w w1 ∧ f ≤ w1.heap.size)) (hb : Below w1.heap.size w1 w2) : w2.cell? A = some x ∧ Hid (Below f w w2 ∧ f ≤ w2.heap.size) :=
  ⟨cell_far hb h.1, Lib.hid ⟨h.2.out.1.trans (hb.mono h.2.out.2), Nat.le_trans h.2.out.2 hb.size⟩⟩
end Go.Proofs.YtminodinhbcgnaaDoor
