/-
  Contracts of the laws' do, done and light. Conditions: the journals lie in memory as JouM says.
-/
import Derived.Test.YtafecnaeoeanmaaDoorJouW
set_option maxRecDepth 100000
set_option linter.unusedVariables false
set_option linter.unusedSimpArgs false
set_option linter.unnecessarySimpa false
namespace Go.Proofs.YtafecnaeoeanmaaDoor
open Go.RowKit Go.PlainAid

/-- what a call of a script changes: the journal's block and row; the journal may be a new one -/
structure Sv (b : Nat) (v : Value) (b' : Nat) (v' : Value) (w w' : World) : Prop where
  os : w'.os = w.os
  tape : w'.tape = w.tape
  output : w'.output = w.output
  size : w.heap.size ≤ w'.heap.size
  block : ∀ k, k < w.heap.size → k ≠ b → v.ownBlock ≠ some k → w'.heap[k]? = w.heap[k]?
  atb : b' = b ∨ w.heap.size ≤ b'
  atv : v'.ownBlock = v.ownBlock ∨ ∀ g, v'.ownBlock = some g → w.heap.size ≤ g
section
variable {w w0 w' w2 : World} {B b b' b2 d d2 : Nat} {v v' v2 : Value} {me : Value} {t : TypeId} {l l2 : List ByteArray}
theorem Sv.of_mv (h : Mv b v v' w w') : Sv b v b v' w w' := ⟨h.os, h.tape, h.output, h.size, h.block, .inl rfl, h.at_⟩
theorem Sv.of_new (hb : Below w.heap.size w w') (h1 : w.heap.size ≤ b') (h2 : ∀ g, v'.ownBlock = some g → w.heap.size ≤ g) : Sv b v b' v' w w' := ⟨hb.os, hb.tape, hb.output, hb.size, fun k hk _ _ => hb.block k hk, .inr h1, .inr h2⟩
theorem Sv.pre (hb : Below w0.heap.size w0 w) (h : Sv b v b' v' w w') : Sv b v b' v' w0 w' :=
  ⟨h.os.trans hb.os, h.tape.trans hb.tape, h.output.trans hb.output, Nat.le_trans hb.size h.size, fun k hk h1 h2 => (h.block k (Nat.lt_of_lt_of_le hk hb.size) h1 h2).trans (hb.block k hk),
    h.atb.imp id (Nat.le_trans hb.size), h.atv.imp id fun k g e => Nat.le_trans hb.size (k g e)⟩
theorem Sv.below (hs : Sv b v b' v' w w') (h : OA w B b me t l d v) : Below B w w' :=
  ⟨hs.os, hs.tape, hs.output, hs.size, fun k hk => by
    have h1 := h.low
    have h2 := h.blk.big
    exact hs.block k (by omega) (by omega) (fun e => by have := (h.row.lt k e).1; omega)⟩
theorem Sv.other (hs : Sv b v b' v' w w') (h : OA w B b2 me t l2 d2 v2) (ha : Ap b v b2 v2) : OA w' B b2 me t l2 d2 v2 ∧ Ap b' v' b2 v2 := by
  have hv : ∀ g, v2.ownBlock = some g → g < w.heap.size ∧ g ≠ b ∧ v.ownBlock ≠ some g := fun g e =>
    ⟨(h.row.lt g e).2, fun e2 => ha.bv (by rw [e, e2]), fun e2 => by
      rcases ha.vv with k | k
      · rw [k] at e2; cases e2
      · exact k (e2.trans e.symm)⟩
  have hbig := h.blk.big
  refine ⟨⟨?_, ?_, h.low, h.ne, h.dl, h.cnt, h.sm⟩, ⟨?_, ?_, ?_, ?_⟩⟩
  · exact (hs.block b2 hbig (fun e => ha.bb e.symm) ha.vb).trans h.blk
  · exact own_keep h.row fun g e => hs.block g (hv g e).1 (hv g e).2.1 (hv g e).2.2
  · rcases hs.atb with k | k
    · rw [k]; exact ha.bb
    · omega
  · rcases hs.atv with k | k
    · rw [k]; exact ha.vb
    · intro e
      have := k _ e
      omega
  · rcases hs.atb with k | k
    · rw [k]; exact ha.bv
    · intro e
      have := (hv _ e).1
      omega
  · rcases hs.atv with k | k
    · rw [k]; exact ha.vv
    · cases e : v'.ownBlock with
      | none => exact .inl rfl
      | some g =>
        refine .inr fun e2 => ?_
        have h1 := k g e
        have h2 := (hv g e2.symm).1
        omega
end
/-- the records, the durable ones, the result of a call of a script -/
def doL (l : List ByteArray) (d : Nat) (c n : Int) (s : ByteArray) : List ByteArray × Nat × Int :=
  if c = 0 then (if s.size ≤ 4096 ∧ l.length < 4096 then (l ++ [s], d, 0) else (l, d, 3))
  else if c = 1 then (l, l.length, l.length)
  else if c = 2 then (crashL l d n, (crashL l d n).length, 0)
  else (openL (encsS (l.take d)), (openL (encsS (l.take d))).length, 0)
set_option maxHeartbeats 4000000 in
theorem do_s (B b d : Nat) (l : List ByteArray) (v : Value) (c n : Int) (s : ByteArray) (w : World) (h : JA w B b l d v) (ho : WJ w) :
    Calls Tryd.prog 24 #[.pointer (some ⟨b, 0, none⟩), .agg #[.int .i64 c, .int .i64 n, .string s]] w fun e w' => ∃ b' v', e = .returned (.tuple #[.pointer (some ⟨b', 0, none⟩), .int .i64 (doL l d c n s).2.2]) ∧ JA w' B b' (doL l d c n s).1 (doL l d c n s).2.1 v' ∧ Sv b v b' v' w w' := by
  have HB := Lib.hid (box_below w (.cells #[.int .i64 c, .int .i64 n, .string s] 41))
  have H := Lib.hid (h.step HB.out)
  have HO := Lib.hid (ho.below HB.out)
  clear h ho
  by_cases hc0 : c = 0
  · subst hc0
    by_cases hs : s.size ≤ 4096 ∧ l.length < 4096
    · have HE := Lib.hid (show doL l d 0 n s = (l ++ [s], d, 0) from by unfold doL; rw [if_pos rfl, if_pos hs])
      go_enter Tryd.func24, Tryd.ntmps24
      go_wp2_with fail
      refine (append_yes B b d l v s _ H.out hs.1 hs.2).mono ?_
      rintro e w1 ⟨rfl, v1, hj, hm⟩
      have HJ := Lib.hid hj
      have HM := Lib.hid hm
      clear hj hm
      go_wp2_with fail
      go_ret2
      rw [HE.out]
      exact ⟨_, _, rfl, HJ.out, (Sv.of_mv HM.out).pre HB.out⟩
    · have HE := Lib.hid (show doL l d 0 n s = (l, d, 3) from by unfold doL; rw [if_pos rfl, if_neg hs])
      have HN := Lib.hid (show 4096 < s.size ∨ 4096 ≤ l.length by omega)
      clear hs
      go_enter Tryd.func24, Tryd.ntmps24
      go_wp2_with fail
      refine (append_no B b d l v s _ H.out HN.out).mono ?_
      rintro e w' ⟨rfl, rfl⟩
      go_wp2_with fail
      go_ret2
      rw [HE.out]
      exact ⟨_, _, rfl, H.out, (Sv.of_mv (Mv.refl b v _)).pre HB.out⟩
  have e0 : (c == 0) = false := beq_false_of_ne hc0
  by_cases hc1 : c = 1
  · subst hc1
    have HE := Lib.hid (show doL l d 1 n s = (l, l.length, (l.length : Int)) from by unfold doL; rw [if_neg hc0, if_pos rfl])
    clear hc0
    go_enter Tryd.func24, Tryd.ntmps24
    go_wp2_with fail
    refine (sync_s B b d l v _ H.out).mono ?_
    rintro e w1 ⟨rfl, hj, hm⟩
    have HJ := Lib.hid hj
    have HM := Lib.hid hm
    clear hj hm
    go_wp2_with fail
    go_ret2
    rw [HE.out]
    exact ⟨_, _, rfl, HJ.out, (Sv.of_mv HM.out).pre HB.out⟩
  have e1 : (c == 1) = false := beq_false_of_ne hc1
  by_cases hc2 : c = 2
  · subst hc2
    have HE := Lib.hid (show doL l d 2 n s = (crashL l d n, (crashL l d n).length, 0) from by unfold doL; rw [if_neg hc0, if_neg hc1, if_pos rfl])
    clear hc0 hc1
    go_enter Tryd.func24, Tryd.ntmps24
    go_wp2_with fail
    refine (crash_s B b d l v n _ H.out HO.out).mono ?_
    rintro e w1 ⟨rfl, v1, hj, hm⟩
    have HJ := Lib.hid hj
    have HM := Lib.hid hm
    clear hj hm
    go_wp2_with fail
    go_ret2
    rw [HE.out]
    exact ⟨_, _, rfl, HJ.out, (Sv.of_mv HM.out).pre HB.out⟩
  have e2 : (c == 2) = false := beq_false_of_ne hc2
  have HE := Lib.hid (show doL l d c n s = (openL (encsS (l.take d)), (openL (encsS (l.take d))).length, 0) from by unfold doL; rw [if_neg hc0, if_neg hc1, if_neg hc2])
  have HZ := Lib.hid (show (encsS (l.take d)).size ≤ 1000000000 from Nat.le_trans (szS_many (fun r hr => H.out.sm r (List.mem_of_mem_take hr)) (by rw [List.length_take]; have := H.out.cnt; omega)) (by decide))
  have HBz := Lib.hid (show B ≤ (w.alloc (.cells #[.int .i64 c, .int .i64 n, .string s] 41)).heap.size from Nat.le_trans H.out.low (Nat.le_of_lt H.out.blk.big))
  clear hc0 hc1 hc2
  go_enter Tryd.func24, Tryd.ntmps24
  go_wp2_with fail
  refine (bytes_s B b d l v _ H.out HO.out).mono ?_
  rintro e w1 ⟨rfl, hb⟩
  have HW := Lib.hid (HB.out.trans (hb.mono HB.out.size))
  have HO1 := Lib.hid (HO.out.below hb)
  have HBz := Lib.hid (Nat.le_trans HBz.out hb.size)
  clear hb
  go_wp2_with fail
  refine (open_s _ _ HZ.out HO1.out).mono ?_
  rintro e w2 ⟨b2, v2, rfl, hj, hb⟩
  have HJ := Lib.hid hj
  have HW2 := Lib.hid hb
  clear hj hb
  go_wp2_with fail
  go_ret2
  rw [HE.out]
  exact ⟨_, _, rfl, HJ.out.mono HBz.out, (Sv.of_new HW2.out HJ.out.low (fun g e => (HJ.out.row.lt g e).1)).pre HW.out⟩
set_option maxHeartbeats 4000000 in
theorem done_s (B b d : Nat) (l : List ByteArray) (v : Value) (c n : Int) (s : ByteArray) (w : World) (h : RA w B b l d v) (ho : WJ w) :
    Calls Tryd.prog 25 #[.pointer (some ⟨b, 0, none⟩), .agg #[.int .i64 c, .int .i64 n, .string s]] w fun e w' => ∃ b' v', e = .returned (.tuple #[.pointer (some ⟨b', 0, none⟩), .int .i64 (doL l d c n s).2.2]) ∧ RA w' B b' (doL l d c n s).1 (doL l d c n s).2.1 v' ∧ Sv b v b' v' w w' := by
  have HB := Lib.hid (box_below w (.cells #[.int .i64 c, .int .i64 n, .string s] 41))
  have H := Lib.hid (h.step HB.out)
  have HO := Lib.hid (ho.below HB.out)
  clear h ho
  by_cases hc0 : c = 0
  · subst hc0
    by_cases hs : s.size ≤ 4096 ∧ l.length < 4096
    · have HE := Lib.hid (show doL l d 0 n s = (l ++ [s], d, 0) from by unfold doL; rw [if_pos rfl, if_pos hs])
      go_enter Tryd.func25, Tryd.ntmps25
      go_wp2_with fail
      refine (rappend_yes B b d l v s _ H.out hs.1 hs.2).mono ?_
      rintro e w1 ⟨rfl, v1, hj, hm⟩
      have HJ := Lib.hid hj
      have HM := Lib.hid hm
      clear hj hm
      go_wp2_with fail
      go_ret2
      rw [HE.out]
      exact ⟨_, _, rfl, HJ.out, (Sv.of_mv HM.out).pre HB.out⟩
    · have HE := Lib.hid (show doL l d 0 n s = (l, d, 3) from by unfold doL; rw [if_pos rfl, if_neg hs])
      have HN := Lib.hid (show 4096 < s.size ∨ 4096 ≤ l.length by omega)
      clear hs
      go_enter Tryd.func25, Tryd.ntmps25
      go_wp2_with fail
      refine (rappend_no B b d l v s _ H.out HN.out).mono ?_
      rintro e w' ⟨rfl, rfl⟩
      go_wp2_with fail
      go_ret2
      rw [HE.out]
      exact ⟨_, _, rfl, H.out, (Sv.of_mv (Mv.refl b v _)).pre HB.out⟩
  have e0 : (c == 0) = false := beq_false_of_ne hc0
  by_cases hc1 : c = 1
  · subst hc1
    have HE := Lib.hid (show doL l d 1 n s = (l, l.length, (l.length : Int)) from by unfold doL; rw [if_neg hc0, if_pos rfl])
    clear hc0
    go_enter Tryd.func25, Tryd.ntmps25
    go_wp2_with fail
    refine (rsync_s B b d l v _ H.out).mono ?_
    rintro e w1 ⟨rfl, hj, hm⟩
    have HJ := Lib.hid hj
    have HM := Lib.hid hm
    clear hj hm
    go_wp2_with fail
    go_ret2
    rw [HE.out]
    exact ⟨_, _, rfl, HJ.out, (Sv.of_mv HM.out).pre HB.out⟩
  have e1 : (c == 1) = false := beq_false_of_ne hc1
  by_cases hc2 : c = 2
  · subst hc2
    have HE := Lib.hid (show doL l d 2 n s = (crashL l d n, (crashL l d n).length, 0) from by unfold doL; rw [if_neg hc0, if_neg hc1, if_pos rfl])
    clear hc0 hc1
    go_enter Tryd.func25, Tryd.ntmps25
    go_wp2_with fail
    refine (rcrash_s B b d l v n _ H.out HO.out).mono ?_
    rintro e w1 ⟨rfl, v1, hj, hm⟩
    have HJ := Lib.hid hj
    have HM := Lib.hid hm
    clear hj hm
    go_wp2_with fail
    go_ret2
    rw [HE.out]
    exact ⟨_, _, rfl, HJ.out, (Sv.of_mv HM.out).pre HB.out⟩
  have e2 : (c == 2) = false := beq_false_of_ne hc2
  have HE := Lib.hid (show doL l d c n s = (openL (encsS (l.take d)), (openL (encsS (l.take d))).length, 0) from by unfold doL; rw [if_neg hc0, if_neg hc1, if_neg hc2])
  have HZ := Lib.hid (show (encsS (l.take d)).size ≤ 1000000000 from Nat.le_trans (szS_many (fun r hr => H.out.sm r (List.mem_of_mem_take hr)) (by rw [List.length_take]; have := H.out.cnt; omega)) (by decide))
  have HBz := Lib.hid (show B ≤ (w.alloc (.cells #[.int .i64 c, .int .i64 n, .string s] 41)).heap.size from Nat.le_trans H.out.low (Nat.le_of_lt H.out.blk.big))
  clear hc0 hc1 hc2
  go_enter Tryd.func25, Tryd.ntmps25
  go_wp2_with fail
  refine (rbytesM_s B b d l v _ H.out).mono ?_
  rintro e w1 ⟨rfl, hb⟩
  have HW := Lib.hid (HB.out.trans (hb.mono HB.out.size))
  have HO1 := Lib.hid (HO.out.below hb)
  have HBz := Lib.hid (Nat.le_trans HBz.out hb.size)
  clear hb
  go_wp2_with fail
  refine (ropen_s _ _ HZ.out HO1.out).mono ?_
  rintro e w2 ⟨b2, v2, rfl, hj, hb⟩
  have HJ := Lib.hid hj
  have HW2 := Lib.hid hb
  clear hj hb
  go_wp2_with fail
  go_ret2
  rw [HE.out]
  exact ⟨_, _, rfl, HJ.out.mono HBz.out, (Sv.of_new HW2.out HJ.out.low (fun g e => (HJ.out.row.lt g e).1)).pre HW.out⟩
set_option maxHeartbeats 2000000 in
theorem records_e (B b d : Nat) (l : List ByteArray) (v : Value) (w : World) (h : JA w B b l d v) :
    Calls Tryd.prog 18 #[.pointer (some ⟨b, 0, none⟩)] w fun e w' => e = .returned (.slice (some ⟨w.heap.size, 0, none⟩) l.length l.length) ∧ w'.ownsRow w.heap.size 9 1 (.slice (some ⟨w.heap.size, 0, none⟩) l.length l.length) l.length (scells l) ∧ Below w.heap.size w w' := by
  obtain ⟨c0, c1, c2, f1, f2⟩ := h.flat
  have H := Lib.hid h
  have HM := Lib.hid (made_j h)
  have hcn := h.cnt
  obtain ⟨ao, cap, hv, hs⟩ := strs_own h.row rfl
  subst hv
  have HS := Lib.hid hs
  have HOw := Lib.hid h.row
  clear h hs
  obtain ⟨i0, hi0, hz0, hz1, hz2⟩ := info_parts info_string
  have HL := Lib.hid (show (scells l).length = l.length from List.length_map ..)
  have HE1 := Lib.hid (show (scells l).length = Nat.min l.length l.length from by rw [HL.out]; exact (Nat.min_self _).symm)
  have HE2 := Lib.hid (show ∀ y ∈ scells l, y.oneCell' = true from fun y hy => by obtain ⟨z, _, rfl⟩ := List.mem_map.1 hy; rfl)
  go_enter Tryd.func18, Tryd.ntmps18
  go_wp2_with fail
  refine HM.out.mono ?_
  rintro e w' ⟨rfl, rfl⟩
  go_wp2_with (first | (at_make; go_loud (refine wpList_make_full _ rfl _ _ 23 rfl w.heap.size 9 i0 _ 1 Tryd.underlying23 hi0 hz0 hz1 .i64 .i64 (l.length : Int) (l.length : Int) l.length rfl rfl rfl rfl (by rw [hz2]; omega) (by unfold maxLen; omega) (Nat.le_refl _) ?_); intro w1 hown hg; have HG := Lib.hid (show Below w.heap.size w w1 from (Below.refl _ _).grown hg (Nat.le_refl _) (fun k hk => by cases hk)); have d1 : w1.cell? ⟨b, 1, none⟩ = some (.slice ao l.length cap) := (H.out.step HG.out).flat.2.1; have HOwn := Lib.hid hown; have hfull := Lib.hid (own_full HOwn.out); clear hown hg) | (refine wpList_copy_splice rfl (.tmp 13) (.tmp 17) 23 23 rfl 9 Tryd.underlying23 str_one (some ⟨w.heap.size, 0, none⟩) ao l.length l.length l.length cap rfl rfl w.heap.size 0 _ 9 hfull.out (scells l) ?_ ?_ ?_ ?_ w.heap.size w HG.out (Nat.le_refl _) ?_; exact HE1.out; exact copy_pos rfl HOw.out HG.out; exact own_fit HOwn.out HL.out; exact HE2.out; intro w4 hg4 hb4))
  go_ret
  have hg5 := hg4.out
  rw [splice_all _ _ (by have := HOwn.out.1; rw [this]; unfold scells; rw [List.length_map]; omega)] at hg5
  exact ⟨rfl, own_of_full rfl (Nat.le_refl _) (by unfold maxLen; omega) hg5, hb4⟩

/-- at most 20 calls with strings of at most 300 bytes -/
def lightB (l : List Op) : Bool := decide (l.length ≤ 20) && l.all fun x => decide (x.2.2.size ≤ 300)
theorem op_mem (l : List Op) (i : Nat) (h : i < l.length) : opA l i ∈ l := by
  unfold opA
  rw [List.getD_eq_getElem?_getD, List.getElem?_eq_getElem h]
  exact List.getElem_mem h
theorem light_true {l : List Op} (h : lightB l = true) : l.length ≤ 20 ∧ ∀ x ∈ l, x.2.2.size ≤ 300 := by
  unfold lightB at h
  rw [Bool.and_eq_true, decide_eq_true_iff] at h
  exact ⟨h.1, fun x hx => of_decide_eq_true (List.all_eq_true.1 h.2 x hx)⟩
theorem light_make {l : List Op} (h1 : l.length ≤ 20) (h2 : ∀ j, j < l.length → (opA l j).2.2.size ≤ 300) : lightB l = true := by
  unfold lightB
  rw [Bool.and_eq_true, decide_eq_true_iff]
  refine ⟨h1, List.all_eq_true.2 fun x hx => ?_⟩
  obtain ⟨j, hj, rfl⟩ := List.getElem_of_mem hx
  have := h2 j hj
  unfold opA at this
  rw [List.getD_eq_getElem?_getD, List.getElem?_eq_getElem hj] at this
  exact decide_eq_true this
theorem light_false {l : List Op} (h : ¬ (l.length ≤ 20 ∧ ∀ x ∈ l, x.2.2.size ≤ 300)) : lightB l = false := by
  cases e : lightB l with
  | false => rfl
  | true => exact absurd (light_true e) h
set_option maxHeartbeats 2000000 in
theorem light_s (ao : Option Addr) (n cap : Nat) (l : List Op) (w : World) (h : OpsAt w ao n cap l) :
    Calls Tryd.prog 15 #[.slice ao n cap] w fun e w' => e = .returned (.bool (lightB l)) ∧ w = w' := by
  have hmx : n ≤ 9223372036854775807 := by have h1 := h.2.1; have h2 := h.2.2.1; unfold maxLen at h2; omega
  have HA := Lib.hid h
  have HN := Lib.hid h.1
  clear h
  go_enter Tryd.func15, Tryd.ntmps15
  go_wp2_with fail
  go_loop [3] (fun iv => ∃ i : Nat, i ≤ n ∧ i ≤ 20 ∧ iv = .int .i64 i ∧ Hid (∀ j, j < i → (opA l j).2.2.size ≤ 300)) (fun iv => 20 - (intOf iv).toNat)
  case atStart => exact ⟨0, Nat.zero_le _, Nat.zero_le _, rfl, Lib.hid (fun j hj => absurd hj (Nat.not_lt_zero _))⟩
  case round =>
    obtain ⟨i, hi, hi2, rfl, HI⟩ := hrel
    by_cases hlt : i < n
    · have d1 : (i : Int) < (n : Int) := by omega
      by_cases h20 : i < 20
      · have d2 : (i : Int) < 20 := by omega
        obtain ⟨b, off, hao, hcs⟩ := HA.out.2.2.2.1 (by omega)
        subst hao
        have hcell := (hcs.2 i (by rw [HN.out]; exact hlt)).2.2
        clear hcs
        obtain ⟨x, hx⟩ : ∃ x, (opA l i).2.2 = x := ⟨_, rfl⟩
        rw [hx] at hcell
        have HX := Lib.hid hx
        clear hx
        by_cases hz : x.size ≤ 300
        · have d3 : decide ((300 : Int) < (x.size : Int)) = false := decide_eq_false (by omega)
          go_wp2_with fail
          go_round
          case rel =>
            refine ⟨i + 1, by omega, by omega, by go_num, Lib.hid fun j hj => ?_⟩
            by_cases e : j = i
            · rw [e, HX.out]; exact hz
            · exact HI.out j (by omega)
          case measure => simp [intOf]; omega
        · have d3 : decide ((300 : Int) < (x.size : Int)) = true := decide_eq_true (by omega)
          have HE := Lib.hid (show lightB l = false from light_false fun ⟨_, k⟩ => hz (by rw [← HX.out]; exact k _ (op_mem l i (by rw [HN.out]; exact hlt))))
          go_wp2_with fail
          go_ret
          exact ⟨by rw [HE.out]; rfl, rfl⟩
      · have d2 : decide ((i : Int) < 20) = false := decide_eq_false (by omega)
        have d3 : decide ((n : Int) ≤ 20) = false := decide_eq_false (by omega)
        have HE := Lib.hid (show lightB l = false from light_false fun ⟨k, _⟩ => by rw [HN.out] at k; omega)
        go_wp2_with fail
        go_ret
        exact ⟨by rw [HE.out]; rfl, rfl⟩
    · have d1 : decide ((i : Int) < (n : Int)) = false := decide_eq_false (by omega)
      have d3 : decide ((n : Int) ≤ 20) = true := decide_eq_true (by omega)
      have HE := Lib.hid (show lightB l = true from light_make (by rw [HN.out]; omega) fun j hj => HI.out j (by rw [HN.out] at hj; omega))
      go_wp2_with fail
      go_ret
      exact ⟨by rw [HE.out]; rfl, rfl⟩

end Go.Proofs.YtafecnaeoeanmaaDoor
