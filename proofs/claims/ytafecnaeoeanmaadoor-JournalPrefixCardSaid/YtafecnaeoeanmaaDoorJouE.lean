/-
  Contracts of journal.Encode and of the specification's. Condition: at most 1000000 bytes.
-/
import Derived.Test.YtafecnaeoeanmaaDoorJouS
import Derived.Test.YtafecnaeoeanmaaDoorCodecRInt2
import Derived.Test.YtafecnaeoeanmaaDoorDigRHex
set_option maxRecDepth 100000
set_option linter.unusedVariables false
set_option linter.unusedSimpArgs false
set_option linter.unnecessarySimpa false
namespace Go.Proofs.YtafecnaeoeanmaaDoor
open Go.RowKit Go.PlainAid

/-- what the contracts ask of the world -/
structure WJ (w : World) : Prop where
  io : IntOk w
  mx : MaxOk w
theorem WJ.below {w w' : World} (h : WJ w) (hb : Below w.heap.size w w') : WJ w' :=
  ⟨h.io.below hb, by obtain ⟨m, hm⟩ := h.mx; exact ⟨m, (hb.cell (World.block_lt_of_cell? w _ hm)).trans hm⟩⟩
theorem itoa_sz (n : Nat) (h : n ≤ 1000000) : (ofL (Lib.itoa (n : Int))).size ≤ 1000001 := by
  rw [ofL_sz, Lib.itoa_nonneg]
  have := dec_len n
  omega
theorem txt_sz (r : ByteArray) : (txtS r).size = 16 := by unfold txtS; rw [Lib.size_mk, txtL_length]
theorem int_k (n : Nat) (q : ByteArray) (w : World) (hn : n ≤ 1000000) (ho : WJ w) (hq : ofL (Lib.itoa (n : Int)) = q) :
    Calls Tryd.prog 33 #[.int .i64 n] w fun e w' => e = .returned (.string q) ∧ Below w.heap.size w w' := by
  subst hq; exact int_s n w (by omega) (by omega) ho.io
theorem rint_k (n : Nat) (q : ByteArray) (w : World) (hn : n ≤ 1000000) (hq : ofL (Lib.itoa (n : Int)) = q) :
    Calls Tryd.prog 34 #[.int .i64 n] w fun e w' => e = .returned (.string q) ∧ Below w.heap.size w w' := by
  subst hq; exact rint_s n w (by omega) (by omega)
theorem text_k (r t : ByteArray) (w : World) (hr : r.size ≤ 1000000) (ht : txtS r = t) :
    Calls Tryd.prog 30 #[.string r] w fun e w' => e = .returned (.string t) ∧ Below w.heap.size w w' := by
  subst ht; exact text_s r w (by omega)
theorem rtext_k (r t : ByteArray) (w : World) (hr : r.size ≤ 1000000) (ht : txtS r = t) :
    Calls Tryd.prog 35 #[.string r] w fun e w' => e = .returned (.string t) ∧ w = w' := by
  subst ht; exact rtext_s r w (by omega)
set_option maxHeartbeats 2000000 in
theorem encode_s (r : ByteArray) (w : World) (hr : r.size ≤ 1000000) (ho : WJ w) :
    Calls Tryd.prog 12 #[.string r] w fun e w' => e = .returned (.string (encS r)) ∧ Below w.heap.size w w' := by
  have HO := Lib.hid ho
  clear ho
  obtain ⟨q, hq⟩ : ∃ q, ofL (Lib.itoa (r.size : Int)) = q := ⟨_, rfl⟩
  obtain ⟨t, ht⟩ : ∃ t, txtS r = t := ⟨_, rfl⟩
  have q1 : q.size ≤ 1000001 := by rw [← hq]; exact itoa_sz _ hr
  have t1 : t.size = 16 := by rw [← ht]; exact txt_sz r
  have HE := Lib.hid (show (((q ++ ⟨#[58]⟩) ++ r) ++ t) ++ ⟨#[10]⟩ = encS r by rw [← hq, ← ht]; exact encS_form r)
  have HQ := Lib.hid hq
  have HT := Lib.hid ht
  clear hq ht
  have s1 : (⟨#[58]⟩ : ByteArray).size = 1 := rfl
  have s2 : (⟨#[10]⟩ : ByteArray).size = 1 := rfl
  have y1 : ¬ (9223372036854775807 < q.size + 1) := by omega
  have y2 : ¬ (9223372036854775807 < q.size + 1 + r.size) := by omega
  have y3 : ¬ (9223372036854775807 < q.size + 1 + r.size + t.size) := by omega
  have y4 : ¬ (9223372036854775807 < q.size + 1 + r.size + t.size + 1) := by omega
  go_enter Tryd.func12, Tryd.ntmps12
  go_wp2_with fail
  refine (int_k r.size q _ hr HO.out HQ.out).mono ?_
  rintro e w1 ⟨rfl, hb1⟩
  go_wp2_with fail
  refine (text_k r t _ hr HT.out).mono ?_
  rintro e w2 ⟨rfl, hb2⟩
  go_wp2_with fail
  go_ret
  exact ⟨by rw [← HE.out]; rfl, hb1.trans (hb2.mono hb1.size)⟩
set_option maxHeartbeats 2000000 in
theorem rencode_s (r : ByteArray) (w : World) (hr : r.size ≤ 1000000) :
    Calls Tryd.prog 13 #[.string r] w fun e w' => e = .returned (.string (encS r)) ∧ Below w.heap.size w w' := by
  obtain ⟨q, hq⟩ : ∃ q, ofL (Lib.itoa (r.size : Int)) = q := ⟨_, rfl⟩
  obtain ⟨t, ht⟩ : ∃ t, txtS r = t := ⟨_, rfl⟩
  have q1 : q.size ≤ 1000001 := by rw [← hq]; exact itoa_sz _ hr
  have t1 : t.size = 16 := by rw [← ht]; exact txt_sz r
  have HE := Lib.hid (show (((q ++ ⟨#[58]⟩) ++ r) ++ t) ++ ⟨#[10]⟩ = encS r by rw [← hq, ← ht]; exact encS_form r)
  have HQ := Lib.hid hq
  have HT := Lib.hid ht
  clear hq ht
  have s1 : (⟨#[58]⟩ : ByteArray).size = 1 := rfl
  have s2 : (⟨#[10]⟩ : ByteArray).size = 1 := rfl
  have y1 : ¬ (9223372036854775807 < q.size + 1) := by omega
  have y2 : ¬ (9223372036854775807 < q.size + 1 + r.size) := by omega
  have y3 : ¬ (9223372036854775807 < q.size + 1 + r.size + t.size) := by omega
  have y4 : ¬ (9223372036854775807 < q.size + 1 + r.size + t.size + 1) := by omega
  go_enter Tryd.func13, Tryd.ntmps13
  go_wp2_with fail
  refine (rint_k r.size q _ hr HQ.out).mono ?_
  rintro e w1 ⟨rfl, hb1⟩
  go_wp2_with fail
  refine (rtext_k r t _ hr HT.out).mono ?_
  rintro e w' ⟨rfl, rfl⟩
  go_wp2_with fail
  go_ret
  exact ⟨by rw [← HE.out]; rfl, hb1⟩

end Go.Proofs.YtafecnaeoeanmaaDoor
