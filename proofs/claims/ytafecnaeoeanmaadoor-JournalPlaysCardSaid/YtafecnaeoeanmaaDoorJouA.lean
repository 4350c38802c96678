/-
  Contracts of journal's encodeAll and of the specification's bytes. Condition: at most 4096 records of at most 4096 bytes.
-/
import Derived.Test.YtafecnaeoeanmaaDoorJouD
import Derived.Test.YtafecnaeoeanmaaDoorCodecBuild
import Derived.Test.YtafecnaeoeanmaaDoorCodecStr
set_option maxRecDepth 100000
set_option linter.unusedVariables false
set_option linter.unusedSimpArgs false
set_option linter.unnecessarySimpa false
namespace Go.Proofs.YtafecnaeoeanmaaDoor
open Go.RowKit Go.PlainAid

theorem box_below (w : World) (o : Obj) : Below w.heap.size w (w.alloc o) := (Below.refl w.heap.size w).alloc (Nat.le_refl _) o
theorem take_rec (l : List ByteArray) (i : Nat) (h : i < l.length) : l.take (i + 1) = l.take i ++ [partAt l i] := by
  rw [List.take_succ_eq_append_getElem h]
  unfold partAt
  rw [List.getD_eq_getElem?_getD, List.getElem?_eq_getElem h]
  rfl
theorem rec_mem (l : List ByteArray) (i : Nat) (h : i < l.length) : partAt l i ∈ l := by
  unfold partAt
  rw [List.getD_eq_getElem?_getD, List.getElem?_eq_getElem h]
  exact List.getElem_mem h
theorem sz_take {l : List ByteArray} (h : ∀ r ∈ l, r.size ≤ 4096) (hl : l.length ≤ 4096) (i : Nat) : (encsS (l.take i)).size ≤ 40000000 :=
  szS_many (fun r hr => h r (List.mem_of_mem_take hr)) (by rw [List.length_take]; omega)
/-- what the loop keeps -/
structure EaI (w : World) (l : List ByteArray) (i : Nat) (W : World) : Prop where
  bld : Bld w.heap.size w.heap.size (encsS (l.take i)).data.toList W
  low : Below w.heap.size w W
  big : w.heap.size < W.heap.size
theorem EaI.step {w W X : World} {l : List ByteArray} {i : Nat} (h : EaI w l i W) (hb : Below W.heap.size W X) : EaI w l i X :=
  ⟨h.bld.below hb, h.low.trans (hb.mono (Nat.le_of_lt h.big)), Nat.lt_of_lt_of_le h.big hb.size⟩
set_option maxHeartbeats 4000000 in
theorem encodeAll_s (ao : Option Addr) (n cap : Nat) (l : List ByteArray) (w : World) (h : StrsAt w ao n cap l) (hz : ∀ r ∈ l, r.size ≤ 4096) (hn : n ≤ 4096) (ho : WJ w) :
    Calls Tryd.prog 38 #[.slice ao n cap] w fun e w' => e = .returned (.string (encsS l)) ∧ Below w.heap.size w w' := by
  have HL := Lib.hid h
  have HZ := Lib.hid hz
  have HO := Lib.hid ho
  have HN := Lib.hid h.1
  clear h hz ho
  have HI := Lib.hid (show EaI w l 0 (w.alloc (.cells #[.pointer none, .slice none 0 0] 74)) from ⟨bld_new w, box_below w _, by simp⟩)
  go_enter Tryd.func38, Tryd.ntmps38
  go_wp2_with fail
  generalize w.alloc (.cells #[.pointer none, .slice none 0 0] 74) = W0 at HI ⊢
  go_loopw [5, 8] (fun _ iv wr => ∃ i : Nat, i ≤ n ∧ iv = .int .i64 i ∧ Hid (EaI w l i wr)) (fun _ iv _ => n - (intOf iv).toNat)
  case atStart => exact ⟨0, Nat.zero_le _, rfl, HI⟩
  case round =>
    clear HI
    obtain ⟨i, hi, rfl, HI⟩ := hrel
    by_cases hlt : i < n
    · have e1 : (i : Int) < (n : Int) := by omega
      have HLt := Lib.hid (show i < l.length by rw [HN.out]; exact hlt)
      obtain ⟨b, off, hao, hb0, hat⟩ := HL.out.at (by omega)
      subst hao
      have hcell := hat _ HI.out.low i hlt
      clear hat
      obtain ⟨r, hr⟩ : ∃ r, partAt l i = r := ⟨_, rfl⟩
      rw [hr] at hcell
      have hr1 : r.size ≤ 4096 := by rw [← hr]; exact HZ.out _ (rec_mem l i HLt.out)
      obtain ⟨q, hq⟩ : ∃ q, encS r = q := ⟨_, rfl⟩
      have hq1 : q.size ≤ 100000 := by rw [← hq]; have := encS_le r; omega
      have HM := Lib.hid (show (encsS (l.take (i + 1))).data.toList = (encsS (l.take i)).data.toList ++ q.data.toList by rw [take_rec l i HLt.out, encsS_snoc, hr, hq, ByteArray.data_append, Array.toList_append])
      have HQ := Lib.hid hq
      have HSz := Lib.hid (show (encsS (l.take i)).data.toList.length ≤ 40000000 by rw [L_len]; exact sz_take HZ.out (by rw [HN.out]; exact hn) i)
      clear hr hq
      go_wp2_with fail
      clear hcell
      refine (encode_k r q _ (by omega) (HO.out.below HI.out.low) HQ.out).mono ?_
      rintro e v1 ⟨rfl, hb⟩
      have HI := Lib.hid (HI.out.step hb)
      clear hb
      go_wp2_with fail
      refine (writeString_s w.heap.size w.heap.size _ q v1 HI.out.bld (by have := HSz.out; omega) (Nat.le_of_lt HI.out.big)).mono ?_
      rintro e v2 ⟨rfl, hbd, hb⟩
      have HI2 := Lib.hid (show EaI w l (i + 1) v2 from ⟨by rw [HM.out]; exact hbd, HI.out.low.trans hb, Nat.lt_of_lt_of_le HI.out.big hb.size⟩)
      clear hbd hb
      go_wp2_with fail
      go_roundw
      case rel => exact ⟨i + 1, by omega, by go_num, HI2⟩
      case measure => simp [intOf]; omega
    · have e1 : ¬ (i : Int) < (n : Int) := by omega
      obtain rfl : i = n := by omega
      have HB := Lib.hid (show Bld w.heap.size w.heap.size (encsS l).data.toList _ from by have := HI.out.bld; rw [List.take_of_length_le (by rw [HN.out]; exact Nat.le_refl _)] at this; exact this)
      go_wp2_with fail
      refine (string_s w.heap.size w.heap.size _ _ HB.out (Nat.le_of_lt HI.out.big)).mono ?_
      rintro e v1 ⟨rfl, hb⟩
      have HL1 := Lib.hid (HI.out.low.trans hb)
      clear hb
      go_wp2_with fail
      go_ret
      exact ⟨rfl, HL1.out⟩
set_option maxHeartbeats 4000000 in
theorem rbytes_s (ao : Option Addr) (n cap : Nat) (l : List ByteArray) (w : World) (h : StrsAt w ao n cap l) (hz : ∀ r ∈ l, r.size ≤ 4096) (hn : n ≤ 4096) :
    Calls Tryd.prog 39 #[.slice ao n cap] w fun e w' => e = .returned (.string (encsS l)) ∧ Below w.heap.size w w' := by
  have HL := Lib.hid h
  have HZ := Lib.hid hz
  have HN := Lib.hid h.1
  clear h hz
  go_enter Tryd.func39, Tryd.ntmps39
  go_wp2_with fail
  go_loopw [3, 4] (fun sv iv wr => ∃ (i : Nat) (t : ByteArray), i ≤ n ∧ iv = .int .i64 i ∧ sv = .string t ∧ Hid (t = encsS (l.take i)) ∧ Hid (Below w.heap.size w wr)) (fun _ iv _ => n - (intOf iv).toNat)
  case atStart => exact ⟨0, ⟨#[]⟩, Nat.zero_le _, rfl, rfl, Lib.hid rfl, Lib.hid (Below.refl _ _)⟩
  case round =>
    obtain ⟨i, t, hi, rfl, rfl, HT, HI⟩ := hrel
    by_cases hlt : i < n
    · have e1 : (i : Int) < (n : Int) := by omega
      have HLt := Lib.hid (show i < l.length by rw [HN.out]; exact hlt)
      obtain ⟨b, off, hao, hb0, hat⟩ := HL.out.at (by omega)
      subst hao
      have hcell := hat _ HI.out i hlt
      clear hat
      obtain ⟨r, hr⟩ : ∃ r, partAt l i = r := ⟨_, rfl⟩
      rw [hr] at hcell
      have hr1 : r.size ≤ 4096 := by rw [← hr]; exact HZ.out _ (rec_mem l i HLt.out)
      obtain ⟨q, hq⟩ : ∃ q, encS r = q := ⟨_, rfl⟩
      have hq1 : q.size ≤ 100000 := by rw [← hq]; have := encS_le r; omega
      have ht1 : t.size ≤ 40000000 := by rw [HT.out]; exact sz_take HZ.out (by rw [HN.out]; exact hn) i
      have HM := Lib.hid (show t ++ q = encsS (l.take (i + 1)) by rw [take_rec l i HLt.out, encsS_snoc, hr, hq, HT.out])
      have HQ := Lib.hid hq
      have y1 : ¬ (9223372036854775807 < t.size + q.size) := by omega
      clear hr hq
      go_wp2_with fail
      clear hcell
      refine (rencode_k r q _ (by omega) HQ.out).mono ?_
      rintro e v1 ⟨rfl, hb⟩
      have HI := Lib.hid (HI.out.trans (hb.mono HI.out.size))
      clear hb
      go_wp2_with fail
      go_roundw
      case rel => exact ⟨i + 1, t ++ q, by omega, by go_num, rfl, HM, HI⟩
      case measure => simp [intOf]; omega
    · have e1 : ¬ (i : Int) < (n : Int) := by omega
      obtain rfl : i = n := by omega
      have HE := Lib.hid (show t = encsS l from by have := HT.out; rw [List.take_of_length_le (by rw [HN.out]; exact Nat.le_refl _)] at this; exact this)
      go_wp2_with fail
      go_ret
      exact ⟨by rw [HE.out]; rfl, HI.out⟩

end Go.Proofs.YtafecnaeoeanmaaDoor
