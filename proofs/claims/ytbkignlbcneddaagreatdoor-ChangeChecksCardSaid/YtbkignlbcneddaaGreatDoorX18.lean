/-
  Texts of the schema layer and of those beneath it, joined: ChgK8, ChgT, ChgTx. Conditions stand at each contract.
-/
import Derived.Test.YtbkignlbcneddaaGreatDoorX05
import Derived.Test.YtbkignlbcneddaaGreatDoorX10
import Derived.Test.YtbkignlbcneddaaGreatDoorX14
import Derived.Test.YtbkignlbcneddaaGreatDoorX17
set_option linter.unusedVariables false
set_option linter.unusedSimpArgs false
set_option linter.unnecessarySimpa false

section
/-
  Contracts of Line of a change record: the program's and the specification's. Condition: strings of at most 1000000 bytes.
-/
set_option maxRecDepth 100000
namespace Go.Proofs.YtbkignlbcneddaaGreatDoor
open Go.RowKit Go.PlainAid
open Csn (Cn cnV KbC kbc_new box_below box_lt parEC parVC vldC fmtS TzOk)
set_option maxHeartbeats 4000000 in
theorem lineE_s (g : Chg) (w : World) (hz : SmG g) (ho : COk w) :
    Calls Tryz.prog 13 #[chV g] w fun e w' => e = .returned (.tuple #[.string (lnV g), .int .i64 (chkG g)]) ∧ Below w.heap.size w w' := by
  have HG := Lib.hid (@chk_ok g)
  obtain ⟨c, hc⟩ : ∃ x, chkG g = x := ⟨_, rfl⟩
  have HC := Lib.hid hc
  have HZ := Lib.hid hz
  rw [hc]
  have HK := Lib.hid (bxc_new w g ho)
  have HCk := Lib.hid (fun W (h : COk W) => chkg_s g W HZ.out h.mx)
  have HLk := Lib.hid (fun W (h : COk W) (k : c = 0) => line_s g W HZ.out h (HG.out (by rw [HC.out]; exact k)).lo (HG.out (by rw [HC.out]; exact k)).hi)
  have HLv := Lib.hid (show lnV g = if c = 0 then lineG g else nilS by unfold lnV; rw [hc])
  rw [HLv.out]
  obtain ⟨ln, hln⟩ : ∃ x, lineG g = x := ⟨_, rfl⟩
  rw [hc] at HCk
  rw [hln] at HLk ⊢
  obtain ⟨⟨t, s, r⟩, o, i, n, a, v⟩ := g
  rw [chV_is] at HCk HLk ⊢
  rw [chB_is] at HK
  obtain ⟨c0, c1, c2, c3, c4, c5, c6, c7⟩ := at8_box HK.out.box
  dsimp only at c0 c1 c2 c3 c4 c5 c6 c7
  clear hz ho hc hln HC HG
  go_enter Tryz.func13, Tryz.ntmps13
  go_wp2_with fail
  clear c0 c1 c2 c3 c4 c5 c6 c7
  generalize w.alloc (.cells #[.int .i64 t, .int .i64 s, .int .i64 r, .int .i64 o, .string i, .string n, .string a, .string v] 26) = W0 at HK ⊢
  refine (HCk.out W0 HK.out.ok).mono ?_
  rintro e w1 ⟨rfl, hb⟩
  have HK := Lib.hid (HK.out.step hb)
  clear hb
  by_cases h0 : c = 0
  · have d0 : (c != 0) = false := by rw [h0]; rfl
    have HH := Lib.hid h0
    clear h0
    obtain ⟨c0, c1, c2, c3, c4, c5, c6, c7⟩ := at8_box HK.out.box
    dsimp only at c0 c1 c2 c3 c4 c5 c6 c7
    go_wp2_with fail
    refine (HLk.out w1 HK.out.ok HH.out).mono ?_
    rintro e w2 ⟨rfl, hb⟩
    have HB := Lib.hid (HK.out.low.trans (hb.mono HK.out.low.size))
    clear hb
    go_wp2_with fail
    go_ret2
    exact ⟨by first | rfl | (rw [if_pos HH.out, HH.out] <;> rfl), HB.out⟩
  · have d0 : (c != 0) = true := by simpa using h0
    have HH := Lib.hid h0
    clear h0
    go_wp2_with fail
    go_ret2
    exact ⟨by first | rfl | (rw [if_neg HH.out] <;> rfl), HK.out.low⟩
end Go.Proofs.YtbkignlbcneddaaGreatDoor
end

section
/-
  Plain facts of the text of a list of change records: writing and reading are inverse to each other. Nothing of the program stands here. No condition.
-/
set_option maxRecDepth 100000
namespace Go.Proofs.YtbkignlbcneddaaGreatDoor
open Go.PlainAid
theorem first_zero : ∀ {l : List Chg}, firstG l = 0 ↔ ∀ g ∈ l, chkG g = 0
  | [] => by simp [firstG]
  | g :: r => by
    have ih := @first_zero r
    unfold firstG
    by_cases h : chkG g = 0
    · rw [if_neg (fun k => k h), ih]
      simp [h]
    · rw [if_pos h]
      constructor
      · intro k; exact absurd k h
      · intro k; exact absurd (k g (by simp)) h
theorem first_app {a : List Chg} (h : firstG a = 0) (b : List Chg) : firstG (a ++ b) = firstG b := by
  induction a with
  | nil => rfl
  | cons g r ih =>
    have hg := first_zero.1 h g (by simp)
    have hr : firstG r = 0 := first_zero.2 fun d hd => first_zero.1 h d (by simp [hd])
    show firstG (g :: (r ++ b)) = _
    conv => lhs; unfold firstG
    rw [if_neg (fun k => k hg), ih hr]
theorem first_hit {a : List Chg} {g : Chg} (b : List Chg) (h : firstG a = 0) (hg : chkG g ≠ 0) : firstG (a ++ g :: b) = chkG g := by
  rw [first_app h]
  unfold firstG
  rw [if_pos hg]
theorem lines_app (a b : List Chg) : linesG (a ++ b) = linesG a ++ linesG b := by unfold linesG; rw [List.flatMap_append]
theorem lines_cons (g : Chg) (r : List Chg) : linesG (g :: r) = (lineG g).data.toList ++ 10 :: linesG r := by unfold linesG; simp
theorem size_nil {s : ByteArray} (h : s.size = 0) : s.data.toList = [] := List.length_eq_zero_iff.1 (by rw [← Lib.size_eq]; exact h)
theorem cut_lt {s : ByteArray} (h : cutOk s ⟨#[10]⟩ = true) : (cutAft s ⟨#[10]⟩).size < s.size := by
  have := congrArg List.length (cut_split s 10 h)
  rw [List.length_append, List.length_cons, ← Lib.size_eq, ← Lib.size_eq, ← Lib.size_eq] at this
  omega
end Go.Proofs.YtbkignlbcneddaaGreatDoor
end

section
/-
  Contract of change.Text. Condition: records with strings of at most 1000000 bytes.
-/
set_option maxRecDepth 100000
namespace Go.Proofs.YtbkignlbcneddaaGreatDoor
open Go.RowKit Go.PlainAid
open Csn (Cn cnV cnB KbC kbc_new box_below box_lt parEC parVC vldC fmtS TzOk)
theorem line_size {g : Chg} (h : SmG g) : (lineG g).size ≤ 20000000 := by
  have h1 := joinB_le (sep := 32) (l := wordsG g) (M := 3000000) (by
    intro s hs
    unfold wordsG at hs
    simp only [List.cons_append, List.nil_append, List.mem_cons, List.mem_map] at hs
    rcases hs with rfl | rfl | rfl | ⟨x, hx, rfl⟩
    · have := word_size g.op; omega
    · have := fmt_size g.c; omega
    · have := h.id; omega
    · refine esc_size x ?_
      unfold argsG at hx
      split at hx
      · simp only [List.mem_singleton] at hx; rw [hx]; exact h.nm
      · split at hx
        · simp only [List.mem_cons, List.not_mem_nil, or_false] at hx
          rcases hx with hx | hx <;> rw [hx]
          · exact h.ak
          · exact h.vl
        · cases hx)
  have h2 : (wordsG g).length ≤ 5 := by
    unfold wordsG argsG
    split
    · simp
    · split <;> simp
  show (joinB 32 (wordsG g)).size ≤ _
  have := Nat.mul_le_mul_right (3000000 + 1) h2
  omega
theorem lines_size : ∀ {l : List Chg}, (∀ g ∈ l, SmG g) → (linesG l).length ≤ l.length * 20000001
  | [], _ => by simp [linesG]
  | g :: r, h => by
    rw [lines_cons]
    have h1 := line_size (h g (by simp))
    have h2 := lines_size (l := r) fun x hx => h x (by simp [hx])
    have h3 : (lineG g).data.toList.length = (lineG g).size := Array.length_toList
    simp only [List.length_append, List.length_cons, h3]
    omega
theorem chg_split {l : List Chg} {i : Nat} (h : i < l.length) : l = l.take i ++ gA l i :: l.drop (i + 1) := by
  rw [g_get h]
  exact (List.take_append_drop i l).symm.trans (by rw [List.drop_eq_getElem_cons h])
theorem first_take {l : List Chg} {i : Nat} (h : i < l.length) (h0 : firstG (l.take i) = 0) (hc : chkG (gA l i) ≠ 0) : firstG l = chkG (gA l i) := by
  conv => lhs; rw [chg_split h]
  exact first_hit _ h0 hc
theorem first_more {l : List Chg} {i : Nat} (h : i < l.length) (h0 : firstG (l.take i) = 0) (hc : chkG (gA l i) = 0) : firstG (l.take (i + 1)) = 0 := by
  rw [take_g l i h, first_app h0]
  exact first_zero.2 (by simpa using hc)
theorem lines_more {l : List Chg} {i : Nat} (h : i < l.length) : linesG (l.take (i + 1)) = linesG (l.take i) ++ ((lineG (gA l i)).data.toList ++ [10]) := by
  rw [take_g l i h, lines_app]
  simp [linesG]
/-- what the loop keeps: the lines so far, how far the world has gone, the variables -/
structure CxI (w : World) (l : List Chg) (i : Nat) (t : List UInt8) (W : World) : Prop where
  bld : Bld w.heap.size w.heap.size t W
  low : Below w.heap.size w W
  big : w.heap.size < W.heap.size
  ok : COk W
  first : firstG (l.take i) = 0
theorem CxI.step {w W X : World} {l : List Chg} {i : Nat} {t : List UInt8} (h : CxI w l i t W) (hb : Below W.heap.size W X) : CxI w l i t X :=
  ⟨h.bld.below hb, h.low.trans (hb.mono (Nat.le_of_lt h.big)), Nat.lt_of_lt_of_le h.big hb.size, h.ok.step hb, h.first⟩
theorem CxI.put {w W X : World} {l : List Chg} {i : Nat} {t u : List UInt8} (h : CxI w l i t W) (ho : COk w) (hB : Bld w.heap.size w.heap.size u X) (hb : Below w.heap.size W X) : CxI w l i u X :=
  ⟨hB, h.low.trans hb, Nat.lt_of_lt_of_le h.big hb.size, h.ok.keep ho (Nat.le_refl _) hb, h.first⟩
theorem CxI.box {w W : World} {l : List Chg} {i : Nat} {t : List UInt8} (h : CxI w l i t W) (o : Obj) : CxI w l i t (W.alloc o) ∧ KbC (W.alloc o) W.heap.size o := ⟨h.step (box_below W o), kbc_new W o⟩
theorem linek (g : Chg) (s : ByteArray) (c : Int) (w : World) (hz : SmG g) (ho : COk w) (hs : lnV g = s) (hc : chkG g = c) :
    Calls Tryz.prog 13 #[chV g] w fun e w' => e = .returned (.tuple #[.string s, .int .i64 c]) ∧ Below w.heap.size w w' := by subst hs hc; exact lineE_s g w hz ho
set_option maxHeartbeats 16000000 in
theorem chtext_s (ao : Option Addr) (n cap : Nat) (l : List Chg) (w : World) (h : ChsAt w ao n cap l) (hz : ∀ g ∈ l, SmG g) (ho : COk w) :
    Calls Tryz.prog 19 #[.slice ao n cap] w fun e w' => e = .returned (.tuple #[.string (txV l), .int .i64 (txE l)]) ∧ Below w.heap.size w w' := by
  have HL := Lib.hid h
  have HZ := Lib.hid hz
  have HO := Lib.hid ho
  have HN := Lib.hid h.1
  clear h hz ho
  by_cases hbig : 4096 < n
  · have d1 : (4096 : Int) < (n : Int) := by omega
    have HE := Lib.hid (show txE l = 3 from by unfold txE; rw [HN.out]; exact if_pos hbig)
    have HV := Lib.hid (show txV l = nilS from by unfold txV; rw [HE.out]; rfl)
    go_enter Tryz.func19, Tryz.ntmps19
    go_wp2_with fail
    go_ret2
    exact ⟨by rw [HE.out, HV.out]; rfl, Below.refl _ _⟩
  · have d1 : ¬ (4096 : Int) < (n : Int) := by omega
    have HS := Lib.hid (Nat.le_of_not_lt hbig)
    have HI := Lib.hid (show CxI w l 0 [] (w.alloc (.cells #[.pointer none, .slice none 0 0] 81)) from
      ⟨bld_new w, box_below w _, by simp, HO.out.step (box_below w _), rfl⟩)
    go_enter Tryz.func19, Tryz.ntmps19
    go_wp2_with fail
    generalize w.alloc (.cells #[.pointer none, .slice none 0 0] 81) = W0 at HI ⊢
    go_loopw [6, 7, 8, 14] (fun _ _ _ iv wr => ∃ i : Nat, i ≤ n ∧ iv = .int .i64 i ∧ Hid (CxI w l i (linesG (l.take i)) wr)) (fun _ _ _ iv _ => n - (intOf iv).toNat)
    case atStart => exact ⟨0, Nat.zero_le _, rfl, HI⟩
    case round =>
      clear HI
      obtain ⟨i, hi, rfl, HI⟩ := hrel
      by_cases hlt : i < n
      · have e1 : (i : Int) < (n : Int) := by omega
        obtain ⟨b, off, hao, hcs⟩ := HL.out.2.2.2.1 (by omega)
        subst hao
        have HC := Lib.hid (show ∀ V, Below w.heap.size w V → At8 V b (off + i * 8) (gA l i) from fun V hV => by
          obtain ⟨b', o', e', hc⟩ := (HL.out.below hV).2.2.2.1 (by omega)
          cases e'
          exact hc.at8 (by rw [HN.out]; exact hlt))
        obtain ⟨g, hg⟩ : ∃ x, gA l i = x := ⟨_, rfl⟩
        have HSm := Lib.hid (show SmG g from by rw [← hg]; exact HZ.out _ (g_mem (by rw [HN.out]; exact hlt)))
        rw [hg] at HC
        have HG := Lib.hid hg
        clear hg hcs
        obtain ⟨ln, hln⟩ : ∃ x, lnV g = x := ⟨_, rfl⟩
        obtain ⟨c, hc⟩ : ∃ x, chkG g = x := ⟨_, rfl⟩
        have HW := Lib.hid (fun V (hV : COk V) => linek g ln c V HSm.out hV hln hc)
        have HLc := Lib.hid (And.intro hln hc)
        clear hln hc
        obtain ⟨⟨t, s, r⟩, o, id, nm, a, v⟩ := g
        rw [chV_is] at HW
        obtain ⟨c0, c1, c2, c3, c4, c5, c6, c7⟩ := HC.out _ HI.out.low
        dsimp only at c0 c1 c2 c3 c4 c5 c6 c7
        obtain ⟨hx1, hx2⟩ := HI.out.box (.cells #[.int .i64 t, .int .i64 s, .int .i64 r, .int .i64 o, .string id, .string nm, .string a, .string v] 26)
        have HI1 := Lib.hid hx1
        have HK1 := Lib.hid hx2
        clear hx1 hx2
        have b0 := Csn.KbC.cell (i := 0) HK1.out rfl
        have b1 := Csn.KbC.cell (i := 1) HK1.out rfl
        have b2 := Csn.KbC.cell (i := 2) HK1.out rfl
        have b3 := Csn.KbC.cell (i := 3) HK1.out rfl
        have b4 := Csn.KbC.cell (i := 4) HK1.out rfl
        have b5 := Csn.KbC.cell (i := 5) HK1.out rfl
        have b6 := Csn.KbC.cell (i := 6) HK1.out rfl
        have b7 := Csn.KbC.cell (i := 7) HK1.out rfl
        go_wp2_with fail
        clear b0 b1 b2 b3 b4 b5 b6 b7 c0 c1 c2 c3 c4 c5 c6 c7
        refine (HW.out _ HI1.out.ok).mono ?_
        rintro e v1 ⟨rfl, hb⟩
        have HI2 := Lib.hid (HI1.out.step hb)
        clear hb
        by_cases h0 : c = 0
        · have q0 : (c != 0) = false := by rw [h0]; rfl
          have HH := Lib.hid h0
          have HLn := Lib.hid (show ln = lineG ⟨(t, s, r), o, id, nm, a, v⟩ from by rw [← HLc.out.1]; exact if_pos (HLc.out.2.trans h0))
          have HF := Lib.hid (first_more (l := l) (i := i) (by rw [HN.out]; exact hlt) HI2.out.first (by rw [HG.out]; exact HLc.out.2.trans h0))
          have HM := Lib.hid (lines_more (l := l) (i := i) (by rw [HN.out]; exact hlt))
          have hz1 : ln.size ≤ 20000000 := by rw [HLn.out]; exact line_size HSm.out
          have hz2 : (linesG (l.take i)).length ≤ 4096 * 20000001 := by
            have h1 := lines_size (l := l.take i) fun x hx => HZ.out x (List.mem_of_mem_take hx)
            have h2 : (l.take i).length ≤ 4096 := by rw [List.length_take, HN.out]; have := HS.out; omega
            exact Nat.le_trans h1 (Nat.mul_le_mul_right 20000001 h2)
          have hz3 : (linesG (l.take i) ++ ln.data.toList).length ≤ 100000000000 := by
            rw [List.length_append, show ln.data.toList.length = ln.size from Array.length_toList]
            exact Nat.le_trans (Nat.add_le_add hz2 hz1) (by decide)
          clear h0
          go_wp2_with fail
          refine (writeString_s w.heap.size w.heap.size (linesG (l.take i)) ln v1 HI2.out.bld (by omega) (Nat.le_of_lt HI2.out.big)).mono ?_
          rintro e v2 ⟨rfl, hbd, hb⟩
          have HI3 := Lib.hid (HI2.out.put HO.out hbd hb)
          clear hbd hb
          go_wp2_with fail
          refine (writeByte_s w.heap.size w.heap.size (linesG (l.take i) ++ ln.data.toList) 10 10 v2 HI3.out.bld rfl hz3 (Nat.le_of_lt HI3.out.big)).mono ?_
          rintro e v3 ⟨rfl, hbd, hb⟩
          have HI4 := Lib.hid (HI3.out.put HO.out hbd hb)
          clear hbd hb hz1 hz2 hz3
          go_wp2_with fail
          go_roundw
          case rel => exact ⟨i + 1, by omega, by go_num, Lib.hid ⟨by rw [HM.out, HG.out, ← HLn.out, ← List.append_assoc]; exact HI4.out.bld, HI4.out.low, HI4.out.big, HI4.out.ok, HF.out⟩⟩
          case measure => simp [intOf]; omega
        · have q0 : (c != 0) = true := by simpa using h0
          have HE := Lib.hid (show firstG l = c from by rw [first_take (l := l) (i := i) (by rw [HN.out]; exact hlt) HI2.out.first (by rw [HG.out, HLc.out.2]; exact h0), HG.out, HLc.out.2])
          have HT := Lib.hid (show txE l = c from by unfold txE; rw [HN.out, if_neg (Nat.not_lt.2 HS.out)]; exact HE.out)
          have HV := Lib.hid (show txV l = nilS from by unfold txV; rw [if_neg (by rw [HT.out]; exact h0)])
          clear h0
          go_wp2_with fail
          go_ret2
          exact ⟨by rw [HT.out, HV.out]; rfl, HI2.out.low⟩
      · have e1 : ¬ (i : Int) < (n : Int) := by omega
        obtain rfl : i = n := by omega
        have HF := Lib.hid (show firstG l = 0 from by have := HI.out.first; rw [List.take_of_length_le (by rw [HN.out]; exact Nat.le_refl _)] at this; exact this)
        have HT := Lib.hid (show txE l = 0 from by unfold txE; rw [HN.out, if_neg (Nat.not_lt.2 HS.out)]; exact HF.out)
        have HB := Lib.hid (show Bld w.heap.size w.heap.size (linesG l) _ from by have := HI.out.bld; rw [List.take_of_length_le (by rw [HN.out]; exact Nat.le_refl _)] at this; exact this)
        have HV := Lib.hid (show txV l = ⟨(linesG l).toArray⟩ from by unfold txV; rw [if_pos HT.out])
        go_wp2_with fail
        refine (string_s w.heap.size w.heap.size (linesG l) _ HB.out (Nat.le_of_lt HI.out.big)).mono ?_
        rintro e v1 ⟨rfl, hb⟩
        have HL1 := Lib.hid (HI.out.low.trans hb)
        clear hb
        go_wp2_with fail
        go_ret2
        exact ⟨by rw [HT.out, HV.out]; rfl, HL1.out⟩
end Go.Proofs.YtbkignlbcneddaaGreatDoor
end
