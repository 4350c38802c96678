/-
  Texts of the schema layer and of those beneath it, joined: ChgK8, ChgT, ChgTx. Conditions stand at each contract.
-/
import Derived.Test.YtbkignlbcneddaaGreatDoorM05
import Derived.Test.YtbkignlbcneddaaGreatDoorM10
import Derived.Test.YtbkignlbcneddaaGreatDoorM14
import Derived.Test.YtbkignlbcneddaaGreatDoorM17
set_option linter.unusedVariables false
set_option linter.unusedSimpArgs false
set_option linter.unnecessarySimpa false

section
/-
  Contracts of Line of a change record: the program's and the specification's. Condition: strings of at most 1000000 bytes.
-/
set_option maxRecDepth 100000
namespace Go.Proofs.YtbkignlbcneddaaGreatDoor
open Go.RowKit Go.PlainAid
open Csn (Cn cnV KbC kbc_new box_below box_lt parEC parVC vldC fmtS TzOk)
set_option maxHeartbeats 4000000 in
theorem lineE_s (g : Chg) (w : World) (hz : SmG g) (ho : COk w) :
    Calls Tryz.prog 13 #[chV g] w fun e w' => e = .returned (.tuple #[.string (lnV g), .int .i64 (chkG g)]) ∧ Below w.heap.size w w' := by
  have HG := Lib.hid (@chk_ok g)
  obtain ⟨c, hc⟩ : ∃ x, chkG g = x := ⟨_, rfl⟩
  have HC := Lib.hid hc
  have HZ := Lib.hid hz
  rw [hc]
  have HK := Lib.hid (bxc_new w g ho)
  have HCk := Lib.hid (fun W (h : COk W) => chkg_s g W HZ.out h.mx)
  have HLk := Lib.hid (fun W (h : COk W) (k : c = 0) => line_s g W HZ.out h (HG.out (by rw [HC.out]; exact k)).lo (HG.out (by rw [HC.out]; exact k)).hi)
  have HLv := Lib.hid (show lnV g = if c = 0 then lineG g else nilS by unfold lnV; rw [hc])
  rw [HLv.out]
  obtain ⟨ln, hln⟩ : ∃ x, lineG g = x := ⟨_, rfl⟩
  rw [hc] at HCk
  rw [hln] at HLk ⊢
  obtain ⟨⟨t, s, r⟩, o, i, n, a, v⟩ := g
  rw [chV_is] at HCk HLk ⊢
  rw [chB_is] at HK
  obtain ⟨c0, c1, c2, c3, c4, c5, c6, c7⟩ := at8_box HK.out.box
  dsimp only at c0 c1 c2 c3 c4 c5 c6 c7
  clear hz ho hc hln HC HG
  go_enter Tryz.func13, Tryz.ntmps13
  go_wp2_with fail
  clear c0 c1 c2 c3 c4 c5 c6 c7
  generalize w.alloc (.cells #[.int .i64 t, .int .i64 s, .int .i64 r, .int .i64 o, .string i, .string n, .string a, .string v] 26) = W0 at HK ⊢
  refine (HCk.out W0 HK.out.ok).mono ?_
  rintro e w1 ⟨rfl, hb⟩
  have HK := Lib.hid (HK.out.step hb)
  clear hb
  by_cases h0 : c = 0
  · have d0 : (c != 0) = false := by rw [h0]; rfl
    have HH := Lib.hid h0
    clear h0
    obtain ⟨c0, c1, c2, c3, c4, c5, c6, c7⟩ := at8_box HK.out.box
    dsimp only at c0 c1 c2 c3 c4 c5 c6 c7
    go_wp2_with fail
    refine (HLk.out w1 HK.out.ok HH.out).mono ?_
    rintro e w2 ⟨rfl, hb⟩
    have HB := Lib.hid (HK.out.low.trans (hb.mono HK.out.low.size))
    clear hb
    go_wp2_with fail
    go_ret2
    exact ⟨by first | rfl | (rw [if_pos HH.out, HH.out] <;> rfl), HB.out⟩
  · have d0 : (c != 0) = true := by simpa using h0
    have HH := Lib.hid h0
    clear h0
    go_wp2_with fail
    go_ret2
    exact ⟨by first | rfl | (rw [if_neg HH.out] <;> rfl), HK.out.low⟩
end Go.Proofs.YtbkignlbcneddaaGreatDoor
end

section
/-
  Plain facts of the text of a list of change records: writing and reading are inverse to each other. Nothing of the program stands here. No condition.
-/
set_option maxRecDepth 100000
namespace Go.Proofs.YtbkignlbcneddaaGreatDoor
open Go.PlainAid
theorem size_nil {s : ByteArray} (h : s.size = 0) : s.data.toList = [] := List.length_eq_zero_iff.1 (by rw [← Lib.size_eq]; exact h)
theorem cut_lt {s : ByteArray} (h : cutOk s ⟨#[10]⟩ = true) : (cutAft s ⟨#[10]⟩).size < s.size := by
  have := congrArg List.length (cut_split s 10 h)
  rw [List.length_append, List.length_cons, ← Lib.size_eq, ← Lib.size_eq, ← Lib.size_eq] at this
  omega
end Go.Proofs.YtbkignlbcneddaaGreatDoor
end

section
/-
  Contract of change.Text. Condition: records with strings of at most 1000000 bytes.
-/
set_option maxRecDepth 100000
namespace Go.Proofs.YtbkignlbcneddaaGreatDoor
open Go.RowKit Go.PlainAid
open Csn (Cn cnV cnB KbC kbc_new box_below box_lt parEC parVC vldC fmtS TzOk)
/-- what the loop keeps: the lines so far, how far the world has gone, the variables -/
structure CxI (w : World) (l : List Chg) (i : Nat) (t : List UInt8) (W : World) : Prop where
  bld : Bld w.heap.size w.heap.size t W
  low : Below w.heap.size w W
  big : w.heap.size < W.heap.size
  ok : COk W
  first : firstG (l.take i) = 0
theorem CxI.step {w W X : World} {l : List Chg} {i : Nat} {t : List UInt8} (h : CxI w l i t W) (hb : Below W.heap.size W X) : CxI w l i t X :=
  ⟨h.bld.below hb, h.low.trans (hb.mono (Nat.le_of_lt h.big)), Nat.lt_of_lt_of_le h.big hb.size, h.ok.step hb, h.first⟩
theorem CxI.put {w W X : World} {l : List Chg} {i : Nat} {t u : List UInt8} (h : CxI w l i t W) (ho : COk w) (hB : Bld w.heap.size w.heap.size u X) (hb : Below w.heap.size W X) : CxI w l i u X :=
  ⟨hB, h.low.trans hb, Nat.lt_of_lt_of_le h.big hb.size, h.ok.keep ho (Nat.le_refl _) hb, h.first⟩
theorem CxI.box {w W : World} {l : List Chg} {i : Nat} {t : List UInt8} (h : CxI w l i t W) (o : Obj) : CxI w l i t (W.alloc o) ∧ KbC (W.alloc o) W.heap.size o := ⟨h.step (box_below W o), kbc_new W o⟩
theorem linek (g : Chg) (s : ByteArray) (c : Int) (w : World) (hz : SmG g) (ho : COk w) (hs : lnV g = s) (hc : chkG g = c) :
    Calls Tryz.prog 13 #[chV g] w fun e w' => e = .returned (.tuple #[.string s, .int .i64 c]) ∧ Below w.heap.size w w' := by subst hs hc; exact lineE_s g w hz ho
end Go.Proofs.YtbkignlbcneddaaGreatDoor
end
