/-
  Plain functions for decimal forms, and the contract of codec.decimal. Condition: at most 1000000000 bytes.
-/
import Derived.Test.YtafecnaeoeanmaaDoorCodecBuild
import Derived.Test.YtafecnaeoeanmaaDoorCodecB
import Derived.Laws.RangeAny
import Derived.Laws.RangeString
import Derived.Lib.RuneCount
set_option maxRecDepth 100000
set_option linter.unusedVariables false
set_option linter.unusedSimpArgs false
set_option linter.unnecessarySimpa false
namespace Go.Proofs.YtafecnaeoeanmaaDoor
open Go.RowKit Go.PlainAid

def digB (c : UInt8) : Bool := decide (48 ≤ c.toNat) && decide (c.toNat ≤ 57)
/-- without one leading minus -/
def stripL (l : List UInt8) : List UInt8 := Lib.trimPrefix l [45]
def digsB (l : List UInt8) : Bool := match l with
  | [] => false
  | c :: _ => !(c == 48) && l.all digB
def decB (l : List UInt8) : Bool := decide (l = [48]) || digsB (stripL l)
theorem digsB_nil : digsB [] = false := rfl

theorem digs_at {t : ByteArray} (j : Nat) (h : j < t.size) (hd : digB (chr t j) = false) : digsB t.data.toList = false := by
  have hm : chr t j ∈ t.data.toList := by
    unfold chr
    rw [List.getD_eq_getElem?_getD, List.getElem?_eq_getElem (by simpa using h)]
    exact List.getElem_mem _
  have : t.data.toList.all digB = false := by
    rw [List.all_eq_false]
    exact ⟨_, hm, by rw [hd]; simp⟩
  unfold digsB
  split
  · rfl
  · rw [this]; simp
theorem digs_all {t : ByteArray} (h0 : t.data.toList ≠ []) (h1 : chr t 0 ≠ 48) (h : ∀ j, j < t.size → digB (chr t j) = true) : digsB t.data.toList = true := by
  have : t.data.toList.all digB = true := by
    rw [List.all_eq_true]
    intro c hc
    obtain ⟨j, hj, rfl⟩ := List.getElem_of_mem hc
    have := h j (by simpa using hj)
    unfold chr at this
    rw [List.getD_eq_getElem?_getD, List.getElem?_eq_getElem hj] at this
    exact this
  unfold chr at h1
  cases e : t.data.toList with
  | nil => exact absurd e h0
  | cons c r =>
    rw [e] at h1 this
    unfold digsB
    rw [this]
    simpa using h1
theorem digs_zero {t : ByteArray} (h1 : chr t 0 = 48) : digsB t.data.toList = false := by
  unfold chr at h1
  cases e : t.data.toList with
  | nil => rfl
  | cons c r =>
    rw [e] at h1
    have : c = 48 := by simpa using h1
    unfold digsB; rw [this]; rfl

theorem byte_chr (t : ByteArray) (k : Nat) (h : k < t.size) : ((t[k]'h).toNat : Int) = bt t k := by unfold bt; rw [dif_pos h]
/-- one step of a range over a string, at a byte below 128 -/
theorem next_low (w : World) (t : ByteArray) (k : Nat) (h : k < t.size) (hc : bt t k < 128) (ty : TypeId) :
    (Instr.next (.pointer (some ⟨w.heap.size, 0, none⟩)) true ty).run Tryd.prog (w.iter t k) = .ok (.tuple #[.bool true, .int .i64 k, .int .i32 (bt t k)]) (w.iter t (k + 1)) := by
  have hb := byte_chr t k h
  rw [run_next_ascii (P := Tryd.prog) w t k ty h (by omega), hb]
/-- .. and above -/
theorem next_high (w : World) (t : ByteArray) (k : Nat) (h : k < t.size) (hc : 128 ≤ bt t k) : ∃ (r : Int) (d : Nat), 128 ≤ r ∧ 1 ≤ d ∧ (∀ ty,
    (Instr.next (.pointer (some ⟨w.heap.size, 0, none⟩)) true ty).run Tryd.prog (w.iter t k) = .ok (.tuple #[.bool true, .int .i64 k, .int .i32 r]) (w.iter t (k + d))) := by
  have hb := byte_chr t k h
  have hd := decode_high t k h (by omega)
  exact ⟨((Utf8.decode t k).1 : Int), (Utf8.decode t k).2, by omega, hd.2, fun ty => run_next_any (P := Tryd.prog) w t k ty h⟩
theorem below_iter {w : World} {t : ByteArray} {k : Nat} : Below w.heap.size w (w.iter t k) := (Below.refl _ _).alloc (Nat.le_refl _) _

/-- what TrimPrefix leaves -/
def undash (s : ByteArray) : ByteArray := ⟨(Lib.trimPrefix s.data.toList (⟨#[45]⟩ : ByteArray).data.toList).toArray⟩
theorem trim_dash (s t : ByteArray) (w : World) (h : Hid (t = undash s)) :
    Calls Tryd.prog 61 #[.string s, .string ⟨#[45]⟩] w fun e w' => e = .returned (.string t) ∧ w = w' :=
  (Tryd.strings_TrimPrefix _ _ _).mono fun e w' k => ⟨by rw [k.1, h.out]; rfl, k.2.symm⟩

set_option maxRecDepth 100000 in
set_option maxHeartbeats 4000000 in
theorem decimal_s (s : ByteArray) (w : World) (hs : s.size ≤ 1000000000) :
    Calls Tryd.prog 55 #[.string s] w fun e w' => e = .returned (.bool (decB s.data.toList)) ∧ Below w.heap.size w w' := by
  by_cases h1 : s.data.toList = [48]
  · have HE := Lib.hid (show decB s.data.toList = true by unfold decB; simp [h1])
    obtain rfl : s = ⟨#[48]⟩ := by rw [← Lib.mk_data s, h1]
    clear h1
    go_enter Tryd.func55, Tryd.ntmps55
    go_wp2
    go_ret
    exact ⟨by rw [HE.out]; rfl, Below.refl _ _⟩
  · have e1 : (s.toList == [48]) = false := by rw [Lib.toList_data]; simpa using h1
    obtain ⟨t, ht⟩ : ∃ t : ByteArray, t = undash s := ⟨_, rfl⟩
    have hts : t.size ≤ s.size := by
      rw [ht, undash, Lib.size_mk, Lib.size_eq]
      unfold Lib.trimPrefix; split <;> simp
    have HE := Lib.hid (show decB s.data.toList = digsB t.data.toList by unfold decB stripL; rw [ht]; simp [h1, undash])
    have HT := Lib.hid ht
    clear h1 ht
    by_cases h0 : t.size = 0
    · have HF := Lib.hid (show decB s.data.toList = false by
        rw [HE.out]
        have : t.data.toList = [] := List.length_eq_zero_iff.1 (by rw [← Lib.size_eq]; exact h0)
        rw [this]; rfl)
      have hte : t.toList.isEmpty = true := by rw [Lib.toList_data, List.length_eq_zero_iff.1 (show t.data.toList.length = 0 by rw [← Lib.size_eq]; exact h0)]; rfl
      go_enter Tryd.func55, Tryd.ntmps55
      go_wp2_with (go_at_call 61; refine (trim_dash _ _ _ HT).mono ?_; rintro e w' ⟨rfl, rfl⟩)
      go_ret
      exact ⟨by rw [HF.out]; rfl, Below.refl _ _⟩
    · have hte : t.toList.isEmpty = false := by
        rw [Lib.toList_data]
        cases e : t.data.toList with
        | nil => have := Lib.size_eq t; rw [e] at this; exact absurd this h0
        | cons _ _ => rfl
      have hb := get_bt t
      have h00 := bt_nonneg t 0
      have hpos : 0 < t.size := by omega
      by_cases h2 : chr t 0 = 48
      · have HF := Lib.hid (show decB s.data.toList = false by rw [HE.out, digs_zero h2])
        have h3 : (bt t 0 == 48) = true := by rw [bt_chr, h2]; rfl
        clear h2
        go_enter Tryd.func55, Tryd.ntmps55
        go_wp2_with (go_at_call 61; refine (trim_dash _ _ _ HT).mono ?_; rintro e w' ⟨rfl, rfl⟩)
        go_ret
        exact ⟨by rw [HF.out]; rfl, Below.refl _ _⟩
      · have H2 := Lib.hid h2
        have h3 : (bt t 0 == 48) = false := by
          rw [bt_chr]; refine beq_false_of_ne fun e => h2 ?_
          have h4 : (48 : UInt8).toNat = 48 := rfl
          exact UInt8.toNat_inj.1 (by omega)
        clear h2
        go_enter Tryd.func55, Tryd.ntmps55
        go_wp2_with (go_at_call 61; refine (trim_dash _ _ _ HT).mono ?_; rintro e w' ⟨rfl, rfl⟩)
        go_loopw [5] (fun _ wr => ∃ k : Nat, k ≤ t.size ∧ wr = w.iter t k ∧ Hid (∀ j, j < k → digB (chr t j) = true)) (fun _ wr => t.size - wr.iterPos w.heap.size)
        case atStart => exact ⟨0, Nat.zero_le _, rfl, Lib.hid fun j hj => absurd hj (Nat.not_lt_zero _)⟩
        case round =>
          obtain ⟨k, hk, rfl, HA⟩ := hrel
          by_cases hlt : k < t.size
          · have hk0 := bt_nonneg t k
            by_cases h128 : bt t k < 128
            · have hnx := next_low w t k hlt h128
              by_cases d1 : 48 ≤ bt t k
              · by_cases d2 : bt t k ≤ 57
                · have HD := Lib.hid (show digB (chr t k) = true by
                    have := bt_chr t k
                    unfold digB; simp; omega)
                  go_wp2
                  go_roundw
                  case rel => exact ⟨k + 1, by omega, rfl, Lib.hid fun j hj => if e : j = k then by rw [e]; exact HD.out else HA.out j (by omega)⟩
                  case measure => simp; omega
                · have HF := Lib.hid (show decB s.data.toList = false by
                    rw [HE.out]; refine digs_at k hlt ?_
                    have := bt_chr t k
                    unfold digB; simp; omega)
                  go_wp2
                  go_ret
                  exact ⟨by rw [HF.out]; rfl, below_iter⟩
              · have HF := Lib.hid (show decB s.data.toList = false by
                  rw [HE.out]; refine digs_at k hlt ?_
                  have := bt_chr t k
                  unfold digB; simp; omega)
                go_wp2
                go_ret
                exact ⟨by rw [HF.out]; rfl, below_iter⟩
            · obtain ⟨r, d, hr, hd, hnx⟩ := next_high w t k hlt (by omega)
              have HF := Lib.hid (show decB s.data.toList = false by
                rw [HE.out]; refine digs_at k hlt ?_
                have := bt_chr t k
                unfold digB; simp; omega)
              have hr1 : ¬ r < 48 := by omega
              have hr2 : 57 < r := by omega
              go_wp2
              go_ret
              exact ⟨by rw [HF.out]; rfl, below_iter⟩
          · have hnx : ∀ ty, (Instr.next (.pointer (some ⟨w.heap.size, 0, none⟩)) true ty).run Tryd.prog (w.iter t k) = _ := fun ty => run_next_end w t k ty hlt
            have HF := Lib.hid (show decB s.data.toList = true by
              rw [HE.out]
              refine digs_all (fun e => h0 (by rw [Lib.size_eq, e]; rfl)) H2.out (fun j hj => HA.out j (by omega)))
            go_wp2
            go_ret
            exact ⟨by rw [HF.out]; rfl, below_iter⟩

end Go.Proofs.YtafecnaeoeanmaaDoor
