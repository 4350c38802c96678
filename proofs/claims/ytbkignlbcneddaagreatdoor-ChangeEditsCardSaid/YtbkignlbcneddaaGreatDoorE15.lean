/-
  Texts of the schema layer and of those beneath it, joined: ChgK8, ChgT, ChgTx, ChgK9, ChgTy, ChgWd, ChgR0. Conditions stand at each contract.
-/
import Derived.Test.YtbkignlbcneddaaGreatDoorE06
import Derived.Test.YtbkignlbcneddaaGreatDoorE09
import Derived.Test.YtbkignlbcneddaaGreatDoorE10
import Derived.Test.YtbkignlbcneddaaGreatDoorE12
import Derived.Test.YtbkignlbcneddaaGreatDoorE14
set_option linter.unusedVariables false
set_option linter.unusedSimpArgs false
set_option linter.unnecessarySimpa false

section
/-
  Contracts of Line of a change record: the program's and the specification's. Condition: strings of at most 1000000 bytes.
-/
set_option maxRecDepth 100000
namespace Go.Proofs.YtbkignlbcneddaaGreatDoor
open Go.RowKit Go.PlainAid
open Csn (Cn cnV KbC kbc_new box_below box_lt parEC parVC vldC fmtS TzOk)
set_option maxHeartbeats 4000000 in
theorem lineE_s (g : Chg) (w : World) (hz : SmG g) (ho : COk w) :
    Calls Tryz.prog 13 #[chV g] w fun e w' => e = .returned (.tuple #[.string (lnV g), .int .i64 (chkG g)]) ∧ Below w.heap.size w w' := by
  have HG := Lib.hid (@chk_ok g)
  obtain ⟨c, hc⟩ : ∃ x, chkG g = x := ⟨_, rfl⟩
  have HC := Lib.hid hc
  have HZ := Lib.hid hz
  rw [hc]
  have HK := Lib.hid (bxc_new w g ho)
  have HCk := Lib.hid (fun W (h : COk W) => chkg_s g W HZ.out h.mx)
  have HLk := Lib.hid (fun W (h : COk W) (k : c = 0) => line_s g W HZ.out h (HG.out (by rw [HC.out]; exact k)).lo (HG.out (by rw [HC.out]; exact k)).hi)
  have HLv := Lib.hid (show lnV g = if c = 0 then lineG g else nilS by unfold lnV; rw [hc])
  rw [HLv.out]
  obtain ⟨ln, hln⟩ : ∃ x, lineG g = x := ⟨_, rfl⟩
  rw [hc] at HCk
  rw [hln] at HLk ⊢
  obtain ⟨⟨t, s, r⟩, o, i, n, a, v⟩ := g
  rw [chV_is] at HCk HLk ⊢
  rw [chB_is] at HK
  obtain ⟨c0, c1, c2, c3, c4, c5, c6, c7⟩ := at8_box HK.out.box
  dsimp only at c0 c1 c2 c3 c4 c5 c6 c7
  clear hz ho hc hln HC HG
  go_enter Tryz.func13, Tryz.ntmps13
  go_wp2_with fail
  clear c0 c1 c2 c3 c4 c5 c6 c7
  generalize w.alloc (.cells #[.int .i64 t, .int .i64 s, .int .i64 r, .int .i64 o, .string i, .string n, .string a, .string v] 26) = W0 at HK ⊢
  refine (HCk.out W0 HK.out.ok).mono ?_
  rintro e w1 ⟨rfl, hb⟩
  have HK := Lib.hid (HK.out.step hb)
  clear hb
  by_cases h0 : c = 0
  · have d0 : (c != 0) = false := by rw [h0]; rfl
    have HH := Lib.hid h0
    clear h0
    obtain ⟨c0, c1, c2, c3, c4, c5, c6, c7⟩ := at8_box HK.out.box
    dsimp only at c0 c1 c2 c3 c4 c5 c6 c7
    go_wp2_with fail
    refine (HLk.out w1 HK.out.ok HH.out).mono ?_
    rintro e w2 ⟨rfl, hb⟩
    have HB := Lib.hid (HK.out.low.trans (hb.mono HK.out.low.size))
    clear hb
    go_wp2_with fail
    go_ret2
    exact ⟨by first | rfl | (rw [if_pos HH.out, HH.out] <;> rfl), HB.out⟩
  · have d0 : (c != 0) = true := by simpa using h0
    have HH := Lib.hid h0
    clear h0
    go_wp2_with fail
    go_ret2
    exact ⟨by first | rfl | (rw [if_neg HH.out] <;> rfl), HK.out.low⟩
end Go.Proofs.YtbkignlbcneddaaGreatDoor
end

section
/-
  Plain facts of the text of a list of change records: writing and reading are inverse to each other. Nothing of the program stands here. No condition.
-/
set_option maxRecDepth 100000
namespace Go.Proofs.YtbkignlbcneddaaGreatDoor
open Go.PlainAid
theorem size_nil {s : ByteArray} (h : s.size = 0) : s.data.toList = [] := List.length_eq_zero_iff.1 (by rw [← Lib.size_eq]; exact h)
theorem cut_lt {s : ByteArray} (h : cutOk s ⟨#[10]⟩ = true) : (cutAft s ⟨#[10]⟩).size < s.size := by
  have := congrArg List.length (cut_split s 10 h)
  rw [List.length_append, List.length_cons, ← Lib.size_eq, ← Lib.size_eq, ← Lib.size_eq] at this
  omega
end Go.Proofs.YtbkignlbcneddaaGreatDoor
end

section
/-
  Contract of change.Text. Condition: records with strings of at most 1000000 bytes.
-/
set_option maxRecDepth 100000
namespace Go.Proofs.YtbkignlbcneddaaGreatDoor
open Go.RowKit Go.PlainAid
open Csn (Cn cnV cnB KbC kbc_new box_below box_lt parEC parVC vldC fmtS TzOk)
/-- what the loop keeps: the lines so far, how far the world has gone, the variables -/
structure CxI (w : World) (l : List Chg) (i : Nat) (t : List UInt8) (W : World) : Prop where
  bld : Bld w.heap.size w.heap.size t W
  low : Below w.heap.size w W
  big : w.heap.size < W.heap.size
  ok : COk W
  first : firstG (l.take i) = 0
theorem CxI.step {w W X : World} {l : List Chg} {i : Nat} {t : List UInt8} (h : CxI w l i t W) (hb : Below W.heap.size W X) : CxI w l i t X :=
  ⟨h.bld.below hb, h.low.trans (hb.mono (Nat.le_of_lt h.big)), Nat.lt_of_lt_of_le h.big hb.size, h.ok.step hb, h.first⟩
theorem CxI.put {w W X : World} {l : List Chg} {i : Nat} {t u : List UInt8} (h : CxI w l i t W) (ho : COk w) (hB : Bld w.heap.size w.heap.size u X) (hb : Below w.heap.size W X) : CxI w l i u X :=
  ⟨hB, h.low.trans hb, Nat.lt_of_lt_of_le h.big hb.size, h.ok.keep ho (Nat.le_refl _) hb, h.first⟩
theorem CxI.box {w W : World} {l : List Chg} {i : Nat} {t : List UInt8} (h : CxI w l i t W) (o : Obj) : CxI w l i t (W.alloc o) ∧ KbC (W.alloc o) W.heap.size o := ⟨h.step (box_below W o), kbc_new W o⟩
theorem linek (g : Chg) (s : ByteArray) (c : Int) (w : World) (hz : SmG g) (ho : COk w) (hs : lnV g = s) (hc : chkG g = c) :
    Calls Tryz.prog 13 #[chV g] w fun e w' => e = .returned (.tuple #[.string s, .int .i64 c]) ∧ Below w.heap.size w w' := by subst hs hc; exact lineE_s g w hz ho
end Go.Proofs.YtbkignlbcneddaaGreatDoor
end

section
/-
  Contract of the specification's Line of a change record. Condition: strings of at most 1000000 bytes.
-/
set_option maxRecDepth 100000
namespace Go.Proofs.YtbkignlbcneddaaGreatDoor
open Go.RowKit Go.PlainAid
open Csn (Cn cnV KbC kbc_new box_below box_lt parEC parVC vldC fmtS TzOk)
end Go.Proofs.YtbkignlbcneddaaGreatDoor
end

section
/-
  Contract of the reference's Text. Condition: records with strings of at most 1000000 bytes.
-/
set_option maxRecDepth 100000
namespace Go.Proofs.YtbkignlbcneddaaGreatDoor
open Go.RowKit Go.PlainAid
open Csn (Cn cnV cnB KbC kbc_new box_below box_lt parEC parVC vldC fmtS TzOk)
end Go.Proofs.YtbkignlbcneddaaGreatDoor
end

section
/-
  Contract of the specification's words of a line. Condition: at most 1100000 bytes.
-/
set_option maxRecDepth 100000
namespace Go.Proofs.YtbkignlbcneddaaGreatDoor
open Go.RowKit Go.PlainAid
end Go.Proofs.YtbkignlbcneddaaGreatDoor
end

section
/-
  What a line's words are read as, by the number of the fields; what is kept while they are read. Condition: words of at most 1000000 bytes.
-/
set_option maxRecDepth 100000
namespace Go.Proofs.YtbkignlbcneddaaGreatDoor
open Go.RowKit Go.PlainAid
open Csn (Cn cnV cnB KbC kbc_new box_below box_lt parEC parVC vldC fmtS TzOk)
theorem rec_N {ws : List ByteArray} (h3 : 3 ≤ ws.length) (hop : useN (opW (partAt ws 0)) = true) : recG ws = if parEC (partAt ws 1).data.toList ≠ 0 ∨ ws.length ≠ 4 ∨ unE (partAt ws 3) ≠ 0 then none
    else some ⟨parVC (partAt ws 1).data.toList, opW (partAt ws 0), partAt ws 2, unS (partAt ws 3), nilS, nilS⟩ := by
  match ws, h3, hop with
  | a :: b :: i :: r, _, hop =>
    have e0 : partAt (a :: b :: i :: r) 0 = a := rfl
    have e1 : partAt (a :: b :: i :: r) 1 = b := rfl
    have e2 : partAt (a :: b :: i :: r) 2 = i := rfl
    rw [e0] at hop
    have hV := useNV hop
    rw [e0, e1, e2]
    unfold recG
    simp only
    by_cases hp : parEC b.data.toList = 0
    · rw [if_neg (fun k => k hp)]
      match r with
      | [] => simp [hop]
      | [x] =>
        have e3 : partAt [a, b, i, x] 3 = x := rfl
        rw [e3]
        by_cases hx : unE x = 0
        · simp [hop, hx, hp]
        · simp [hx]
      | [x, y] => simp [hV]
      | _ :: _ :: _ :: _ => simp
    · rw [if_pos hp, if_pos (.inl hp)]
theorem rec_V {ws : List ByteArray} (h3 : 3 ≤ ws.length) (hop : useV (opW (partAt ws 0)) = true) : recG ws = if parEC (partAt ws 1).data.toList ≠ 0 ∨ ws.length ≠ 5 ∨ unE (partAt ws 3) ≠ 0 ∨ unE (partAt ws 4) ≠ 0 then none
    else some ⟨parVC (partAt ws 1).data.toList, opW (partAt ws 0), partAt ws 2, nilS, unS (partAt ws 3), unS (partAt ws 4)⟩ := by
  match ws, h3, hop with
  | a :: b :: i :: r, _, hop =>
    have e0 : partAt (a :: b :: i :: r) 0 = a := rfl
    have e1 : partAt (a :: b :: i :: r) 1 = b := rfl
    have e2 : partAt (a :: b :: i :: r) 2 = i := rfl
    rw [e0] at hop
    have hN : useN (opW a) = false := by
      cases e : useN (opW a)
      · rfl
      · have := useNV e; rw [hop] at this; cases this
    rw [e0, e1, e2]
    unfold recG
    simp only
    by_cases hp : parEC b.data.toList = 0
    · rw [if_neg (fun k => k hp)]
      match r with
      | [] => simp [hop]
      | [x] => simp [hN]
      | [x, y] =>
        have e3 : partAt [a, b, i, x, y] 3 = x := rfl
        have e4 : partAt [a, b, i, x, y] 4 = y := rfl
        rw [e3, e4]
        by_cases hx : unE x = 0
        · by_cases hy : unE y = 0
          · simp [hop, hx, hy, hp]
          · simp [hy]
        · simp [hx]
      | _ :: _ :: _ :: _ => simp
    · rw [if_pos hp, if_pos (.inl hp)]
theorem rec_0 {ws : List ByteArray} (h3 : 3 ≤ ws.length) (hN : useN (opW (partAt ws 0)) = false) (hV : useV (opW (partAt ws 0)) = false) : recG ws = if parEC (partAt ws 1).data.toList ≠ 0 ∨ ws.length ≠ 3 then none
    else some ⟨parVC (partAt ws 1).data.toList, opW (partAt ws 0), partAt ws 2, nilS, nilS, nilS⟩ := by
  match ws, h3, hN, hV with
  | a :: b :: i :: r, _, hN, hV =>
    have e0 : partAt (a :: b :: i :: r) 0 = a := rfl
    have e1 : partAt (a :: b :: i :: r) 1 = b := rfl
    have e2 : partAt (a :: b :: i :: r) 2 = i := rfl
    rw [e0] at hN hV
    rw [e0, e1, e2]
    unfold recG
    simp only
    by_cases hp : parEC b.data.toList = 0
    · rw [if_neg (fun k => k hp)]
      match r with
      | [] => simp [hN, hV, hp]
      | [x] => simp [hN]
      | [x, y] => simp [hV]
      | _ :: _ :: _ :: _ => simp
    · rw [if_pos hp, if_pos (.inl hp)]
theorem rec_few {ws : List ByteArray} (h : ws.length < 3) : recG ws = none := by
  match ws, h with
  | [], _ => rfl
  | [_], _ => rfl
  | [_, _], _ => rfl
/-- what is kept while a line's words are read: the result's box, the words, the variables -/
structure RwP (w : World) (b2 : Nat) (ao : Option Addr) (n cap : Nat) (ws : List ByteArray) (W : World) : Prop where
  low : Below w.heap.size w W
  res : KbC W b2 (chB zeroG)
  wds : StrsAt W ao n cap ws
  ok : COk W
theorem RwP.step {w W X : World} {b2 : Nat} {ao : Option Addr} {n cap : Nat} {ws : List ByteArray} (h : RwP w b2 ao n cap ws W) (hb : Below W.heap.size W X) : RwP w b2 ao n cap ws X :=
  ⟨h.low.trans (hb.mono h.low.size), Csn.KbC.step h.res hb, h.wds.below hb, h.ok.step hb⟩
theorem zero_is : chB zeroG = .cells #[.int .i64 0, .int .i64 0, .int .i64 0, .int .i64 0, .string ⟨#[]⟩, .string ⟨#[]⟩, .string ⟨#[]⟩, .string ⟨#[]⟩] 26 := rfl
theorem rwp_new {w : World} {ao : Option Addr} {n cap : Nat} {ws : List ByteArray} (h : StrsAt w ao n cap ws) (ho : COk w) : RwP w w.heap.size ao n cap ws (w.alloc (chB zeroG)) :=
  ⟨box_below w _, kbc_new w _, h.below (box_below w _), ho.step (box_below w _)⟩
/-- a store into a block of the call's own, above all that is kept -/
theorem RwP.own {w V X : World} {b2 : Nat} {ao : Option Addr} {n cap : Nat} {ws : List ByteArray} (h : RwP w b2 ao n cap ws V) (h0 : COk w) (hs : StrsAt w ao n cap ws) {B : Nat} (hB : w.heap.size ≤ B) (h2 : b2 < B) (hb : Below B V X) : RwP w b2 ao n cap ws X :=
  have hl : Below w.heap.size w X := h.low.trans (hb.mono hB)
  ⟨hl, Csn.KbC.keep h.res hb h2, hs.below hl, h.ok.keep h0 hB hb⟩
theorem kbc_set8 {W : World} {b : Nat} {t : TypeId} {a0 a1 a2 a3 a4 a5 a6 a7 u0 u1 u2 u3 u4 u5 u6 u7 : Value} (h : KbC W b (.cells #[a0, a1, a2, a3, a4, a5, a6, a7] t)) :
    KbC ((((((((W.setCell ⟨b, 0, none⟩ u0).setCell ⟨b, 1, none⟩ u1).setCell ⟨b, 2, none⟩ u2).setCell ⟨b, 3, none⟩ u3).setCell ⟨b, 4, none⟩ u4).setCell ⟨b, 5, none⟩ u5).setCell ⟨b, 6, none⟩ u6).setCell ⟨b, 7, none⟩ u7) b (.cells #[u0, u1, u2, u3, u4, u5, u6, u7] t) := by
  have := Csn.KbC.set (i := 7) (Csn.KbC.set (i := 6) (Csn.KbC.set (i := 5) (Csn.KbC.set (i := 4) (Csn.KbC.set (i := 3) (Csn.KbC.set (i := 2) (Csn.KbC.set (i := 1) (Csn.KbC.set (i := 0) h u0) u1) u2) u3) u4) u5) u6) u7
  simpa using this
theorem below_set8 {B : Nat} {w W : World} (h : Below B w W) {b : Nat} (hB : B ≤ b) (u0 u1 u2 u3 u4 u5 u6 u7 : Value) :
    Below B w ((((((((W.setCell ⟨b, 0, none⟩ u0).setCell ⟨b, 1, none⟩ u1).setCell ⟨b, 2, none⟩ u2).setCell ⟨b, 3, none⟩ u3).setCell ⟨b, 4, none⟩ u4).setCell ⟨b, 5, none⟩ u5).setCell ⟨b, 6, none⟩ u6).setCell ⟨b, 7, none⟩ u7) :=
  (((((((h.setCell (p := ⟨b, 0, none⟩) hB u0).setCell (p := ⟨b, 1, none⟩) hB u1).setCell (p := ⟨b, 2, none⟩) hB u2).setCell (p := ⟨b, 3, none⟩) hB u3).setCell (p := ⟨b, 4, none⟩) hB u4).setCell (p := ⟨b, 5, none⟩) hB u5).setCell (p := ⟨b, 6, none⟩) hB u6).setCell (p := ⟨b, 7, none⟩) hB u7
theorem kbc_other {W : World} {b c : Nat} {o : Obj} (h : KbC W b o) (hne : b ≠ c) (k : Nat) (u : Value) : KbC (W.setCell ⟨c, k, none⟩ u) b o := by
  have h0 : W.heap[b]? = some o := h
  unfold KbC World.setCell
  show (W.heap.modify c _)[b]? = some o
  rw [Array.getElem?_modify, if_neg (Ne.symm hne), h0]
theorem readWords_results (tmps : Array Value) (b : Nat) (cs : Array Value) (t : TypeId) (W : World) (hp : tmps.getD 2 undef = .pointer (some ⟨b, 0, none⟩)) (h : KbC W b (.cells cs t)) (h8 : cs.size = 8) :
    (results Tryz.f46 tmps).run Tryz.prog W = .ok (.tuple #[.agg cs, tmps.getD 3 undef]) W := by
  rw [results_cell_tmp rfl, hp]
  have hl := run_loadVar_row (P := Tryz.prog) W b t 26 cs (0, 0) _ h (by rfl) (by rfl) (by rw [h8]; rfl)
  simp [asAddr, Result.andThen, hl]
theorem parse_k (s : ByteArray) (a b c z : Int) (w : World) (hs : s.size ≤ 1000000) (ho : MaxOk w) (hv : parVC s.data.toList = (a, b, c)) (he : parEC s.data.toList = z) :
    Calls Tryz.prog 93 #[.string s] w fun e w' => e = .returned (.tuple #[.agg #[.int .i64 a, .int .i64 b, .int .i64 c], .int .i64 z]) ∧ Below w.heap.size w w' := by
  have := Csn.parse_s s w hs ho
  rw [hv, he] at this
  exact this
theorem unesc_k (s r : ByteArray) (z : Int) (w : World) (hs : s.size ≤ 1000000) (hr : unS s = r) (hz : unE s = z) :
    Calls Tryz.prog 95 #[.string s] w fun e w' => e = .returned (.tuple #[.string r, .int .i64 z]) ∧ Below w.heap.size w w' := by subst hr hz; exact unescape_s s w (by omega)
theorem readOp_k (s : ByteArray) (o : Int) (w : World) (ho : OpOk w) (h : opW s = o) :
    Calls Tryz.prog 94 #[.string s] w fun e w' => e = .returned (.int .i64 o) ∧ Below w.heap.size w w' := by subst h; exact readOp_s s w ho
theorem part_z {ws : List ByteArray} (h : ∀ s ∈ ws, s.size ≤ 1000000) (j : Nat) : (partAt ws j).size ≤ 1000000 := by
  unfold partAt
  rw [List.getD_eq_getElem?_getD]
  cases e : ws[j]? with
  | none => show (0 : Nat) ≤ 1000000; omega
  | some x => exact h x (List.mem_of_getElem? e)
end Go.Proofs.YtbkignlbcneddaaGreatDoor
end
