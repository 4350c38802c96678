/-
  Contracts of journal.Decode and of the specification's. Condition: at most 1000000000 bytes.
-/
import Derived.Test.YtafecnaeoeanmaaDoorJouG
import Derived.Test.YtafecnaeoeanmaaDoorDigStrs
set_option maxRecDepth 100000
set_option linter.unusedVariables false
set_option linter.unusedSimpArgs false
set_option linter.unnecessarySimpa false
namespace Go.Proofs.YtafecnaeoeanmaaDoor
open Go.RowKit Go.PlainAid

/-- what the loop keeps -/
structure DeI (w : World) (s : ByteArray) (n : Nat) (out : List ByteArray) (v : Value) (W : World) : Prop where
  low : Below w.heap.size w W
  own : W.ownsRow w.heap.size 9 1 v out.length (scells out)
  dep : DeP s n out
theorem DeI.step {w W X : World} {s : ByteArray} {n : Nat} {out : List ByteArray} {v : Value} (h : DeI w s n out v W) (hb : Below W.heap.size W X) : DeI w s n out v X :=
  ⟨h.low.trans (hb.mono h.low.size), own_below h.own hb, h.dep⟩
theorem rfirst_w (s : ByteArray) (w : World) (hs : s.size ≤ 1000000000) (ho : WJ w) :
    Calls Tryd.prog 32 #[.string s] w fun e w' => e = .returned (.tuple #[.string (fV s), .bool (fB s)]) ∧ Below w.heap.size w w' := rfirst_s s w hs

set_option maxHeartbeats 4000000 in
theorem decode_s (s : ByteArray) (w : World) (hs : s.size ≤ 1000000000) (ho : WJ w) :
    Calls Tryd.prog 10 #[.string s] w fun e w' => ∃ v, e = .returned (.tuple #[v, .int .i64 (szS (decS s) : Nat)]) ∧ w'.ownsRow w.heap.size 9 1 v (decS s).length (scells (decS s)) ∧ Below w.heap.size w w' := by
  have HO := Lib.hid ho
  have HI := Lib.hid (show DeI w s 0 [] (.slice none 0 0) w from ⟨Below.refl _ _, World.ownsRow_nil _ _ _ _, dep_start s⟩)
  clear ho
  go_enter Tryd.func10, Tryd.ntmps10
  go_wp2_with fail
  go_loopw [4, 5, 6, 7, 8, 9] (fun lv nv _ _ _ _ wr => ∃ (n : Nat) (out : List ByteArray), n ≤ s.size ∧ nv = .int .i64 n ∧ Hid (DeI w s n out lv wr)) (fun _ nv _ _ _ _ _ => s.size - (intOf nv).toNat)
  case atStart => exact ⟨0, [], Nat.zero_le _, rfl, HI⟩
  case round =>
    clear HI
    obtain ⟨n, out, hn, rfl, HI⟩ := hrel
    obtain ⟨t, ht⟩ : ∃ t, s.extract n s.size = t := ⟨_, rfl⟩
    have ht1 : t.size ≤ 1000000000 := by rw [← ht, ByteArray.size_extract]; omega
    have HT := Lib.hid ht
    rcases first_or t with hf | ⟨r, hf⟩
    · obtain ⟨f1, f2, f3⟩ := f_none hf
      have HF := Lib.hid (HI.out.dep.last (by rw [HT.out]; exact hf))
      clear hf
      go_wp2_with fail
      refine (first_s t _ ht1 (HO.out.below HI.out.low)).mono ?_
      rintro e v1 ⟨rfl, hb⟩
      have HI := Lib.hid (HI.out.step hb)
      clear hb
      rw [f1, f2, f3]
      go_wp2_with fail
      try simp only [Exit.inBlock, Exit.then]
      go_ret2
      exact ⟨_, by rw [HF.out.2]; rfl, by rw [HF.out.1]; exact HI.out.own, HI.out.low⟩
    · obtain ⟨f1, f2, f3⟩ := f_some hf
      have HF := Lib.hid (HI.out.dep.more (by rw [HT.out]; exact hf))
      have hr1 : r.size ≤ 1000000 := by have := (first_back hf).1; rw [L_len] at this; omega
      have hq0 : 18 ≤ (encS r).size := encS_pos r
      obtain ⟨q, hq⟩ : ∃ q, encS r = q := ⟨_, rfl⟩
      rw [hq] at f2 HF hq0
      have HQ := Lib.hid hq
      have hle := HF.out.le
      have HL := Lib.hid (show out.length + 1 ≤ 1000000000 from by have := HI.out.dep.len; omega)
      clear hf hq
      go_wp2_with fail
      refine (first_s t _ ht1 (HO.out.below HI.out.low)).mono ?_
      rintro e v1 ⟨rfl, hb⟩
      have HI := Lib.hid (HI.out.step hb)
      clear hb
      rw [f1, f2, f3]
      have HOwn := Lib.hid HI.out.own
      go_wp2_with (at_builtin; refine push_str _ HOwn.out (.tmp 21) (.tmp 23) r ?_ ?_ ?_ ?_ ?_ ?_ ?_; exact rfl; exact rfl; exact rfl; exact rfl; exact HL.out; exact HI.out.low.size; intro v2 w2 hown hb2)
      have hown2 := hown
      rw [← scells_snoc] at hown2
      go_roundw
      case rel => exact ⟨n + q.size, out ++ [r], hle, by go_num, Lib.hid ⟨HI.out.low.trans hb2, by simpa using hown2, HF.out⟩⟩
      case measure => simp [intOf]; omega

set_option maxHeartbeats 4000000 in
theorem rdecode_s (s : ByteArray) (w : World) (hs : s.size ≤ 1000000000) (ho : WJ w) :
    Calls Tryd.prog 11 #[.string s] w fun e w' => ∃ v, e = .returned (.tuple #[v, .int .i64 (szS (decS s) : Nat)]) ∧ w'.ownsRow w.heap.size 9 1 v (decS s).length (scells (decS s)) ∧ Below w.heap.size w w' := by
  have HO := Lib.hid ho
  have HI := Lib.hid (show DeI w s 0 [] (.slice none 0 0) w from ⟨Below.refl _ _, World.ownsRow_nil _ _ _ _, dep_start s⟩)
  clear ho
  go_enter Tryd.func11, Tryd.ntmps11
  go_wp2_with fail
  go_loopw [4, 5, 6, 7, 8] (fun lv nv _ _ _ wr => ∃ (n : Nat) (out : List ByteArray), n ≤ s.size ∧ nv = .int .i64 n ∧ Hid (DeI w s n out lv wr)) (fun _ nv _ _ _ _ => s.size - (intOf nv).toNat)
  case atStart => exact ⟨0, [], Nat.zero_le _, rfl, HI⟩
  case round =>
    clear HI
    obtain ⟨n, out, hn, rfl, HI⟩ := hrel
    obtain ⟨t, ht⟩ : ∃ t, s.extract n s.size = t := ⟨_, rfl⟩
    have ht1 : t.size ≤ 1000000000 := by rw [← ht, ByteArray.size_extract]; omega
    have HT := Lib.hid ht
    rcases first_or t with hf | ⟨r, hf⟩
    · obtain ⟨f1, f2, f3⟩ := f_none hf
      have HF := Lib.hid (HI.out.dep.last (by rw [HT.out]; exact hf))
      clear hf
      go_wp2_with fail
      refine (rfirst_w t _ ht1 (HO.out.below HI.out.low)).mono ?_
      rintro e v1 ⟨rfl, hb⟩
      have HI := Lib.hid (HI.out.step hb)
      clear hb
      rw [f1, f3]
      go_wp2_with fail
      try simp only [Exit.inBlock, Exit.then]
      go_ret2
      exact ⟨_, by rw [HF.out.2]; rfl, by rw [HF.out.1]; exact HI.out.own, HI.out.low⟩
    · obtain ⟨f1, f2, f3⟩ := f_some hf
      have HF := Lib.hid (HI.out.dep.more (by rw [HT.out]; exact hf))
      have hr1 : r.size ≤ 1000000 := by have := (first_back hf).1; rw [L_len] at this; omega
      have hq0 : 18 ≤ (encS r).size := encS_pos r
      obtain ⟨q, hq⟩ : ∃ q, encS r = q := ⟨_, rfl⟩
      rw [hq] at f2 HF hq0
      have HQ := Lib.hid hq
      have hle := HF.out.le
      have HL := Lib.hid (show out.length + 1 ≤ 1000000000 from by have := HI.out.dep.len; omega)
      clear hf hq
      go_wp2_with fail
      refine (rfirst_w t _ ht1 (HO.out.below HI.out.low)).mono ?_
      rintro e v1 ⟨rfl, hb⟩
      have HI := Lib.hid (HI.out.step hb)
      clear hb
      rw [f1, f3]
      have HOwn := Lib.hid HI.out.own
      go_wp2_with (at_builtin; refine push_str _ HOwn.out (.tmp 17) (.tmp 19) r ?_ ?_ ?_ ?_ ?_ ?_ ?_; exact rfl; exact rfl; exact rfl; exact rfl; exact HL.out; exact HI.out.low.size; intro v2 w2 hown hb2)
      refine (rencode_k r q _ hr1 HQ.out).mono ?_
      rintro e v3 ⟨rfl, hb3⟩
      have hown := own_below hown hb3
      go_wp2_with fail
      have hown2 := hown
      rw [← scells_snoc] at hown2
      go_roundw
      case rel => exact ⟨n + q.size, out ++ [r], hle, by go_num, Lib.hid ⟨(HI.out.low.trans hb2).trans (hb3.mono (Nat.le_trans HI.out.low.size hb2.size)), by simpa using hown2, HF.out⟩⟩
      case measure => simp [intOf]; omega

end Go.Proofs.YtafecnaeoeanmaaDoor
