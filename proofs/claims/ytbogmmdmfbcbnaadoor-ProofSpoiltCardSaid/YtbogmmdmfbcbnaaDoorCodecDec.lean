/-
  Plain functions for decimal forms, and the contract of codec.decimal. Condition: at most 1000000000 bytes.
-/
import Derived.Test.YtbogmmdmfbcbnaaDoorCodecBuild
import Derived.Test.YtbogmmdmfbcbnaaDoorCodecB
import Derived.Laws.RangeAny
import Derived.Laws.RangeString
import Derived.Lib.RuneCount
import Derived.Test.YtbogmmdmfbcbnaaDoorShelfB
set_option maxRecDepth 100000
set_option linter.unusedVariables false
set_option linter.unusedSimpArgs false
set_option linter.unnecessarySimpa false
namespace Go.Proofs.YtbogmmdmfbcbnaaDoor
open Go.RowKit Go.PlainAid

def digB (c : UInt8) : Bool := decide (48 ≤ c.toNat) && decide (c.toNat ≤ 57)
/-- without one leading minus -/
def stripL (l : List UInt8) : List UInt8 := Lib.trimPrefix l [45]
def digsB (l : List UInt8) : Bool := match l with
  | [] => false
  | c :: _ => !(c == 48) && l.all digB
def decB (l : List UInt8) : Bool := decide (l = [48]) || digsB (stripL l)
theorem digsB_nil : digsB [] = false := rfl

theorem digs_at {t : ByteArray} (j : Nat) (h : j < t.size) (hd : digB (chr t j) = false) : digsB t.data.toList = false := by
  have hm : chr t j ∈ t.data.toList := by
    unfold chr
    rw [List.getD_eq_getElem?_getD, List.getElem?_eq_getElem (by simpa using h)]
    exact List.getElem_mem _
  have : t.data.toList.all digB = false := by
    rw [List.all_eq_false]
    exact ⟨_, hm, by rw [hd]; simp⟩
  unfold digsB
  split
  · rfl
  · rw [this]; simp
theorem digs_all {t : ByteArray} (h0 : t.data.toList ≠ []) (h1 : chr t 0 ≠ 48) (h : ∀ j, j < t.size → digB (chr t j) = true) : digsB t.data.toList = true := by
  have : t.data.toList.all digB = true := by
    rw [List.all_eq_true]
    intro c hc
    obtain ⟨j, hj, rfl⟩ := List.getElem_of_mem hc
    have := h j (by simpa using hj)
    unfold chr at this
    rw [List.getD_eq_getElem?_getD, List.getElem?_eq_getElem hj] at this
    exact this
  unfold chr at h1
  cases e : t.data.toList with
  | nil => exact absurd e h0
  | cons c r =>
    rw [e] at h1 this
    unfold digsB
    rw [this]
    simpa using h1
theorem digs_zero {t : ByteArray} (h1 : chr t 0 = 48) : digsB t.data.toList = false := by
  unfold chr at h1
  cases e : t.data.toList with
  | nil => rfl
  | cons c r =>
    rw [e] at h1
    have : c = 48 := by simpa using h1
    unfold digsB; rw [this]; rfl

theorem byte_chr (t : ByteArray) (k : Nat) (h : k < t.size) : ((t[k]'h).toNat : Int) = bt t k := by unfold bt; rw [dif_pos h]
/-- one step of a range over a string, at a byte below 128 -/
theorem next_low (w : World) (t : ByteArray) (k : Nat) (h : k < t.size) (hc : bt t k < 128) (ty : TypeId) :
    (Instr.next (.pointer (some ⟨w.heap.size, 0, none⟩)) true ty).run Tryd.prog (w.iter t k) = .ok (.tuple #[.bool true, .int .i64 k, .int .i32 (bt t k)]) (w.iter t (k + 1)) := by
  have hb := byte_chr t k h
  rw [run_next_ascii (P := Tryd.prog) w t k ty h (by omega), hb]
/-- .. and above -/
theorem next_high (w : World) (t : ByteArray) (k : Nat) (h : k < t.size) (hc : 128 ≤ bt t k) : ∃ (r : Int) (d : Nat), 128 ≤ r ∧ 1 ≤ d ∧ (∀ ty,
    (Instr.next (.pointer (some ⟨w.heap.size, 0, none⟩)) true ty).run Tryd.prog (w.iter t k) = .ok (.tuple #[.bool true, .int .i64 k, .int .i32 r]) (w.iter t (k + d))) := by
  have hb := byte_chr t k h
  have hd := decode_high t k h (by omega)
  exact ⟨((Utf8.decode t k).1 : Int), (Utf8.decode t k).2, by omega, hd.2, fun ty => run_next_any (P := Tryd.prog) w t k ty h⟩
theorem below_iter {w : World} {t : ByteArray} {k : Nat} : Below w.heap.size w (w.iter t k) := (Below.refl _ _).alloc (Nat.le_refl _) _

/-- what TrimPrefix leaves -/
def undash (s : ByteArray) : ByteArray := ⟨(Lib.trimPrefix s.data.toList (⟨#[45]⟩ : ByteArray).data.toList).toArray⟩
end Go.Proofs.YtbogmmdmfbcbnaaDoor
