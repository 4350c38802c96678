/-
  Texts of the schema layer and of those beneath it, joined: ShelfH, ChgK3, ChgK4, ChgK5. Conditions stand at each contract.
-/
import Derived.Ground.GgwProg
import Derived.Shelf.GgClosure.StringsIndexFuncTop
import Derived.Ground.Names2Prog
import Derived.Ground.SlgnProg
import Derived.Ground.SlgmProg
import Derived.Laws.RangeString
import Derived.Test.YtbkignlbcneddaaGreatDoorProg
import Derived.Test.YtbkignlbcneddaaGreatDoorX01
import Derived.Test.YtbkignlbcneddaaGreatDoorX02
import Derived.Test.YtbkignlbcneddaaGreatDoorX04
import Derived.Test.YtbkignlbcneddaaGreatDoorX08
import Derived.Test.YtbkignlbcneddaaGreatDoorX12
import Derived.Test.YtbkignlbcneddaaGreatDoorX13
import Derived.Test.YtbkignlbcneddaaGreatDoorX14
set_option linter.unusedVariables false
set_option linter.unusedSimpArgs false
set_option linter.unnecessarySimpa false

section
/-
  DERIVED: THE SHELF's CONTRACTS AT THIS DUMP, IN PLAIN WORDS (tools/lay-plain.mjs out of 'TryzShelfHSrc.lean', which tools/lay-shelf.mjs wrote): THE SAME DECLARATIONS UNDER THE SAME NAMES: 'import', 'namespace', 'open', 'def', 'theorem' AND NOTHING ELSE: no command of the shelf's: FOR A HAND-IN. Each laying: the table of numbers ('.._ren') and one theorem, a field a fact of the dump's own or the kernel's comparison; each contract: ONE APPLICATION.
-/
namespace Go.Proofs
open Go.Shelf
def Tryz.laysGw17_ren : Go.Shelf.Ren := ⟨fun | 17 => 101 | 15 => 140 | 20 => 180 | n => n, fun | 9 => 9 | 23 => 132 | 4 => 4 | 3 => 3 | 0 => 0 | 21 => 21 | n => n, fun | n => n⟩
theorem Tryz.laysGw17 : Go.Proofs.LaysGw.n17 Tryz.prog Tryz.laysGw17_ren := {
  mixed := by kernel_rfl
  f15 := Tryz.func140.trans (congrArg some (by kernel_rfl))
  f17 := Tryz.func101.trans (congrArg some (by kernel_rfl))
  f20 := Tryz.func180.trans (congrArg some (by kernel_rfl))
  t0 := Tryz.underlying0
  a0 := Tryz.isAgg0
  z0 := Tryz.sizeOf0
  v0 := Tryz.zeroValue0
  i0 := by kernel_rfl
  t3 := Tryz.underlying3
  a3 := Tryz.isAgg3
  z3 := Tryz.sizeOf3
  v3 := Tryz.zeroValue3
  i3 := by kernel_rfl
  t4 := Tryz.underlying4
  a4 := Tryz.isAgg4
  z4 := Tryz.sizeOf4
  v4 := Tryz.zeroValue4
  i4 := by kernel_rfl
  t9 := Tryz.underlying9
  a9 := Tryz.isAgg9
  z9 := Tryz.sizeOf9
  v9 := Tryz.zeroValue9
  i9 := by kernel_rfl
  t21 := Tryz.underlying21
  a21 := Tryz.isAgg21
  z21 := Tryz.sizeOf21
  v21 := Tryz.zeroValue21
  i21 := by kernel_rfl
  t23 := Tryz.underlying132
  a23 := Tryz.isAgg132
  z23 := Tryz.sizeOf132
  v23 := Tryz.zeroValue132
  i23 := by kernel_rfl }
open Go.RowKit Go.Lib in
theorem Tryz.strings_ContainsFunc (g : Nat) (lb : Array Value) (eg : ∀ args w, (callFunc g args).run Tryz.prog w = .ok (.enter g args) w) (p : Nat → Bool) (s : ByteArray) (w : World) (hp : PredAt Tryz.prog g lb encR p w) :
    Calls Tryz.prog 101 #[.string s, .func (.func g) #[] lb] w fun e w' => e = .returned (.bool (decide (0 ≤ Lib.idxFunc p true s))) ∧ Below w.heap.size w w' := Any.strings_ContainsFunc Tryz.laysGw17 g lb eg p s w hp
end Go.Proofs
end

section
/-
  Contracts of change's capital and checkValue: the first error of an attribute in lower case with a value. Condition: strings of at most 1000000 bytes.
-/
set_option maxRecDepth 100000
namespace Go.Proofs.YtbkignlbcneddaaGreatDoor
open Go.RowKit Go.PlainAid
open Csn (Cn cnV KbC kbc_new box_below box_lt parEC parVC)
def capP (r : Nat) : Bool := decide (65 ≤ r) && decide (r ≤ 90)
theorem capital_s (r : Nat) (w : World) :
    Calls Tryz.prog 102 #[.int .i32 (r : Int)] w fun e w' => e = .returned (.bool (capP r)) ∧ w' = w := by
  by_cases h1 : 65 ≤ r
  · have d1 : decide ((65 : Int) ≤ (r : Int)) = true := decide_eq_true (by omega)
    by_cases h2 : r ≤ 90
    · have d2 : decide ((r : Int) ≤ 90) = true := decide_eq_true (by omega)
      have HU := Lib.hid (show capP r = true by unfold capP; rw [decide_eq_true h1, decide_eq_true h2]; rfl)
      clear h1 h2
      go_enter Tryz.func102, Tryz.ntmps102
      go_wp2_with fail
      go_ret
      exact ⟨by rw [HU.out]; rfl, rfl⟩
    · have d2 : decide ((r : Int) ≤ 90) = false := decide_eq_false (by omega)
      have HU := Lib.hid (show capP r = false by unfold capP; rw [decide_eq_true h1, decide_eq_false h2]; rfl)
      clear h1 h2
      go_enter Tryz.func102, Tryz.ntmps102
      go_wp2_with fail
      go_ret
      exact ⟨by rw [HU.out]; rfl, rfl⟩
  · have d1 : decide ((65 : Int) ≤ (r : Int)) = false := decide_eq_false (by omega)
    have HU := Lib.hid (show capP r = false by unfold capP; rw [decide_eq_false h1]; rfl)
    clear h1
    go_enter Tryz.func102, Tryz.ntmps102
    go_wp2_with fail
    go_ret
    exact ⟨by rw [HU.out]; rfl, rfl⟩
def capB (s : ByteArray) : Bool := decide (0 ≤ Lib.idxFunc capP true s)
theorem containsCap_s (s : ByteArray) (w : World) :
    Calls Tryz.prog 101 #[.string s, .func (.func 102) #[] #[]] w fun e w' => e = .returned (.bool (capB s)) ∧ Below w.heap.size w w' :=
  Tryz.strings_ContainsFunc 102 #[] (enters_of Tryz.func102 (by kernel_rfl) rfl) capP s w (fun W x _ => (capital_s x W).mono fun e w' h => ⟨h.1, 0, h.2⟩)
/-- a string of ASCII bytes has a capital letter just if it is not in lower case -/
theorem idx_hit {s : ByteArray} (ha : ∀ j, j < s.size → bt s j < 128) : ∀ (f pos : Nat), s.size ≤ pos + f → (0 ≤ Lib.idxFuncFrom capP true s f pos ↔ ∃ j, pos ≤ j ∧ j < s.size ∧ 65 ≤ bt s j ∧ bt s j ≤ 90)
  | 0, pos, h => by
    unfold Lib.idxFuncFrom
    constructor
    · intro k; exact absurd k (by decide)
    · rintro ⟨j, h1, h2, _⟩; omega
  | f + 1, pos, h => by
    unfold Lib.idxFuncFrom
    by_cases hp : pos < s.size
    · rw [if_pos hp]
      have hb := bt_at s pos hp
      have hg : ((s[pos]'hp).toNat : Int) = bt s pos := by rw [hb]; rfl
      have h128 : (s[pos]'hp).toNat < 128 := by have := ha pos hp; omega
      rw [decode_ascii s pos hp h128]
      by_cases hc : capP (s[pos]'hp).toNat = true
      · rw [if_pos hc]
        unfold capP at hc
        simp only [Bool.and_eq_true, decide_eq_true_eq] at hc
        exact ⟨fun _ => ⟨pos, Nat.le_refl _, hp, by omega, by omega⟩, fun _ => by omega⟩
      · rw [if_neg hc, idx_hit ha f (pos + 1) (by omega)]
        unfold capP at hc
        simp only [Bool.and_eq_true, decide_eq_true_eq] at hc
        constructor
        · rintro ⟨j, h1, h2⟩; exact ⟨j, by omega, h2⟩
        · rintro ⟨j, h1, h2, h3⟩
          by_cases e : j = pos
          · subst e; exact absurd (by omega) hc
          · exact ⟨j, by omega, h2, h3⟩
    · rw [if_neg hp]
      constructor
      · intro k; exact absurd k (by decide)
      · rintro ⟨j, h1, h2, _⟩; omega
theorem low_fix {s : ByteArray} : lowS s = s ↔ ∀ j, j < s.size → ¬ (65 ≤ bt s j ∧ bt s j ≤ 90) := by
  have hd : (lowS s).data.toList = lowL s.data.toList := rfl
  constructor
  · intro h j hj hc
    have h2 : lowL s.data.toList = s.data.toList := by rw [← hd, h]
    have hl : j < s.data.toList.length := by rw [← Lib.size_eq]; exact hj
    have h3 := congrArg (fun l => l[j]?) h2
    unfold lowL at h3
    simp only [List.getElem?_map, List.getElem?_eq_getElem hl, Option.map_some, Option.some.injEq] at h3
    have hb := bt_at s j hj
    rw [hb] at hc
    have := lowB_hit (s.data.toList[j]) hc.1 hc.2
    rw [h3] at this
    omega
  · intro h
    refine ba_ext ?_
    rw [hd]
    unfold lowL
    refine List.ext_getElem (by rw [List.length_map]) fun j h1 h2 => ?_
    rw [List.getElem_map]
    have hj : j < s.size := by rw [Lib.size_eq]; exact h2
    have := h j hj
    rw [bt_at s j hj] at this
    exact lowB_miss _ this
theorem name_ascii {s : ByteArray} (h : nameB s = true) : ∀ j, j < s.size → bt s j < 128 := by
  have hall : allB nameP s = true := by
    unfold nameB at h
    simp only [Bool.and_eq_true] at h
    exact h.2
  intro j hj
  have := allB_iff.1 hall j hj
  unfold nameP ltrI dgtI at this
  simp only [Bool.or_eq_true, Bool.and_eq_true, decide_eq_true_eq, beq_iff_eq] at this
  omega
theorem cap_low {s : ByteArray} (h : nameB s = true) : capB s = decide (lowS s ≠ s) := by
  unfold capB Lib.idxFunc
  have := idx_hit (name_ascii h) s.size 0 (by omega)
  by_cases e : lowS s = s
  · rw [decide_eq_false (p := lowS s ≠ s) (fun k => k e), decide_eq_false]
    rw [this]
    rintro ⟨j, _, hj, hc⟩
    exact low_fix.1 e j hj hc
  · rw [decide_eq_true (p := lowS s ≠ s) e, decide_eq_true]
    rw [this]
    refine Classical.byContradiction fun k => e (low_fix.2 fun j hj hc => k ⟨j, Nat.zero_le _, hj, hc⟩)
/-- what attrs.Check says of one attribute with one value -/
theorem chk_one (a v : ByteArray) : chkA [(a, [v])] = if nameB a = false then 5 else if cleanB v = false then 4 else 0 := by
  have ht : twiceB [(a, [v])] 0 = false := by unfold twiceB; rfl
  have h1 : atD [(a, [v])] 0 = (a, [v]) := rfl
  unfold chkA
  rw [if_neg (by simp)]
  show (if firstE (errA [(a, [v])]) 0 = 0 then errA [(a, [v])] 0 else firstE (errA [(a, [v])]) 0) = _
  rw [if_pos (show firstE (errA [(a, [v])]) 0 = 0 from rfl)]
  unfold errA
  rw [h1]
  simp only []
  cases hn : nameB a
  · simp
  · rw [if_neg (by simp), if_neg (by rw [ht]; simp), if_neg (by simp), if_neg (by simp), if_neg (by simp)]
    show (if firstE (errV [v] []) 0 = 0 then errV [v] [] 0 else firstE (errV [v] []) 0) = _
    rw [if_pos (show firstE (errV [v] []) 0 = 0 from rfl)]
    unfold errV
    rw [show partAt [v] 0 = v from rfl]
    cases hc : cleanB v
    · simp
    · rw [if_neg (by simp), if_neg (by simp [memB]), if_neg (by simp)]
theorem attr_one (w : World) (a v : ByteArray) : AttrsAt ((w.alloc (.cells #[.string v] 9)).alloc (.cells #[.string a, .slice (some ⟨w.heap.size, 0, none⟩) 1 1] 60)) (some ⟨w.heap.size + 1, 0, none⟩) 1 1 [(a, [v])] := by
  have s1 : (w.alloc (.cells #[.string v] 9)).heap.size = w.heap.size + 1 := by simp
  have k1 := kbc_new w (.cells #[.string v] 9)
  have k2 := kbc_new (w.alloc (.cells #[.string v] 9)) (.cells #[.string a, .slice (some ⟨w.heap.size, 0, none⟩) 1 1] 60)
  rw [s1] at k2
  have k1' := k1.step (box_below (w.alloc (.cells #[.string v] 9)) (.cells #[.string a, .slice (some ⟨w.heap.size, 0, none⟩) 1 1] 60))
  refine ⟨rfl, Nat.le_refl _, by unfold maxLen; omega, fun _ => ⟨w.heap.size + 1, 0, rfl, k2.big, fun j hj => ?_⟩⟩
  obtain rfl : j = 0 := by omega
  refine ⟨k2.cell rfl, some ⟨w.heap.size, 0, none⟩, 1, 1, k2.cell rfl, rfl, Nat.le_refl _, by unfold maxLen; omega, fun _ => ⟨w.heap.size, 0, rfl, k1'.big, fun i hi => ?_⟩⟩
  obtain rfl : i = 0 := by have hi : i < 1 := hi; omega
  exact k1'.cell rfl
set_option maxHeartbeats 4000000 in
theorem checkValue_s (a v : ByteArray) (w : World) (ha : a.size ≤ 1000000) (hv : v.size ≤ 1000000) :
    Calls Tryz.prog 54 #[.string a, .string v] w fun e w' => e = .returned (.int .i64 (valE a v)) ∧ Below w.heap.size w w' := by
  have hS1 : SmallA [(a, [v])] := fun x hx => by
    obtain rfl : x = (a, [v]) := by simpa using hx
    refine ⟨by dsimp only; omega, fun y hy => ?_⟩
    obtain rfl : y = v := by simpa using hy
    omega
  have hF1 : FewV [(a, [v])] := fun x hx => by
    obtain rfl : x = (a, [v]) := by simpa using hx
    simp
  have HC := Lib.hid (check_s _ 1 1 [(a, [v])] _ (attr_one w a v) hS1 hF1)
  clear hS1 hF1
  rw [chk_one] at HC
  have HB := Lib.hid (show Below w.heap.size w ((w.alloc (.cells #[.string v] 9)).alloc (.cells #[.string a, .slice (some ⟨w.heap.size, 0, none⟩) 1 1] 60)) from (box_below w _).alloc (box_below w _).size _)
  cases hn : nameB a
  · have HE := Lib.hid (show valE a v = 5 from if_pos (.inl hn))
    rw [hn, if_pos rfl] at HC
    go_enter Tryz.func54, Tryz.ntmps54
    go_wp2_with fail
    refine HC.out.mono ?_
    rintro e w1 ⟨rfl, hb⟩
    have HB := Lib.hid (HB.out.trans (hb.mono HB.out.size))
    clear hb HC
    go_wp2_with fail
    go_ret
    exact ⟨by rw [HE.out]; rfl, HB.out⟩
  · have HCp := Lib.hid (cap_low hn)
    rw [hn, if_neg (by simp)] at HC
    cases hc : cleanB v
    · rw [hc, if_pos rfl] at HC
      by_cases hl : lowS a = a
      · have HE := Lib.hid (show valE a v = 8 by unfold valE; rw [if_neg (by rw [hn]; simp [hl]), if_pos hc])
        rw [decide_eq_false (fun k => k hl)] at HCp
        clear hl hc hn
        go_enter Tryz.func54, Tryz.ntmps54
        go_wp2_with fail
        refine HC.out.mono ?_
        rintro e w1 ⟨rfl, hb⟩
        have HB := Lib.hid (HB.out.trans (hb.mono HB.out.size))
        clear hb HC
        go_wp2_with fail
        refine (containsCap_s a _).mono ?_
        rintro e w2 ⟨rfl, hb⟩
        rw [HCp.out]
        have HB := Lib.hid (HB.out.trans (hb.mono HB.out.size))
        clear hb
        go_wp2_with fail
        go_ret
        exact ⟨by rw [HE.out]; rfl, HB.out⟩
      · have HE := Lib.hid (show valE a v = 5 from if_pos (.inr hl))
        rw [decide_eq_true hl] at HCp
        clear hl hc hn
        go_enter Tryz.func54, Tryz.ntmps54
        go_wp2_with fail
        refine HC.out.mono ?_
        rintro e w1 ⟨rfl, hb⟩
        have HB := Lib.hid (HB.out.trans (hb.mono HB.out.size))
        clear hb HC
        go_wp2_with fail
        refine (containsCap_s a _).mono ?_
        rintro e w2 ⟨rfl, hb⟩
        rw [HCp.out]
        have HB := Lib.hid (HB.out.trans (hb.mono HB.out.size))
        clear hb
        go_wp2_with fail
        go_ret
        exact ⟨by rw [HE.out]; rfl, HB.out⟩
    · rw [hc, if_neg (by simp)] at HC
      by_cases hl : lowS a = a
      · have HE := Lib.hid (show valE a v = 0 by unfold valE; rw [if_neg (by rw [hn]; simp [hl]), if_neg (by rw [hc]; simp)])
        rw [decide_eq_false (fun k => k hl)] at HCp
        clear hl hc hn
        go_enter Tryz.func54, Tryz.ntmps54
        go_wp2_with fail
        refine HC.out.mono ?_
        rintro e w1 ⟨rfl, hb⟩
        have HB := Lib.hid (HB.out.trans (hb.mono HB.out.size))
        clear hb HC
        go_wp2_with fail
        refine (containsCap_s a _).mono ?_
        rintro e w2 ⟨rfl, hb⟩
        rw [HCp.out]
        have HB := Lib.hid (HB.out.trans (hb.mono HB.out.size))
        clear hb
        go_wp2_with fail
        go_ret
        exact ⟨by rw [HE.out]; rfl, HB.out⟩
      · have HE := Lib.hid (show valE a v = 5 from if_pos (.inr hl))
        rw [decide_eq_true hl] at HCp
        clear hl hc hn
        go_enter Tryz.func54, Tryz.ntmps54
        go_wp2_with fail
        refine HC.out.mono ?_
        rintro e w1 ⟨rfl, hb⟩
        have HB := Lib.hid (HB.out.trans (hb.mono HB.out.size))
        clear hb HC
        go_wp2_with fail
        refine (containsCap_s a _).mono ?_
        rintro e w2 ⟨rfl, hb⟩
        rw [HCp.out]
        have HB := Lib.hid (HB.out.trans (hb.mono HB.out.size))
        clear hb
        go_wp2_with fail
        go_ret
        exact ⟨by rw [HE.out]; rfl, HB.out⟩
end Go.Proofs.YtbkignlbcneddaaGreatDoor
end

section
/-
  Contracts of Check of a change record: the program's and the specification's. Condition: strings of at most 1000000 bytes.
-/
set_option maxRecDepth 100000
namespace Go.Proofs.YtbkignlbcneddaaGreatDoor
open Go.RowKit Go.PlainAid
open Csn (Cn cnV KbC kbc_new box_below box_lt parEC parVC vldC)
/-- the strings of a record are short -/
structure SmG (g : Chg) : Prop where
  id : g.id.size ≤ 1000000
  nm : g.nm.size ≤ 1000000
  ak : g.ak.size ≤ 1000000
  vl : g.vl.size ≤ 1000000
/-- what is kept: a box with a record, and how far the world has gone -/
structure BxG (w : World) (b : Nat) (g : Chg) (W : World) : Prop where
  low : Below w.heap.size w W
  box : KbC W b (chB g)
  ok : MaxOk W
theorem MaxOk.far {w W : World} (h : MaxOk w) (hb : Below w.heap.size w W) : MaxOk W := h.below hb h.lt
theorem BxG.step {w W X : World} {b : Nat} {g : Chg} (h : BxG w b g W) (hb : Below W.heap.size W X) : BxG w b g X :=
  ⟨h.low.trans (hb.mono h.low.size), Csn.KbC.step h.box hb, h.ok.far hb⟩
theorem BxG.drew {w W : World} {b : Nat} {g : Chg} (h : BxG w b g W) : BxG w b g W.drew := h.step (Below.refl _ _).drew
theorem bxg_new (w : World) (g : Chg) (h : MaxOk w) : BxG w w.heap.size g (w.alloc (chB g)) := ⟨box_below w _, kbc_new w _, h.far (box_below w _)⟩
theorem chk_arg {g : Chg} (h : vldC g.c = false ∨ g.op < 1 ∨ 5 < g.op) : chkG g = 2 := if_pos h
theorem chk_form {g : Chg} (h1 : vldC g.c = true) (h2 : ¬ g.op < 1) (h3 : ¬ 5 < g.op) (h : idB g.id = false ∨ unused g = true) : chkG g = 4 := by
  unfold chkG
  rw [if_neg (by rw [h1]; simp; omega), if_pos h]
theorem chk_rest {g : Chg} (h1 : vldC g.c = true) (h2 : ¬ g.op < 1) (h3 : ¬ 5 < g.op) (h4 : idB g.id = true) (h5 : unused g = false) :
    chkG g = if useN g.op = true then (if g.nm = nilS ∨ Nam.normB g.nm = false then 5 else 0) else if useV g.op = true then valE g.ak g.vl else 0 := by
  unfold chkG
  rw [if_neg (by rw [h1]; simp; omega), if_neg (by rw [h4, h5]; simp)]
/-- what a walk of Check knows of the record behind the tests of its kind -/
theorem chk_none {g : Chg} (h1 : vldC g.c = true) (h2 : ¬ g.op < 1) (h3 : ¬ 5 < g.op) (h4 : idB g.id = true) (h5 : unused g = false) (hN : useN g.op = false) (hV : useV g.op = false) : chkG g = 0 ∧ g.op = 2 := by
  rw [chk_rest h1 h2 h3 h4 h5, hN, hV]
  refine ⟨rfl, ?_⟩
  unfold useN at hN
  unfold useV at hV
  simp only [Bool.or_eq_false_iff, decide_eq_false_iff_not] at hN hV
  omega
set_option maxHeartbeats 8000000 in
theorem chkg_s (g : Chg) (w : World) (hz : SmG g) (ho : MaxOk w) :
    Calls Tryz.prog 17 #[chV g] w fun e w' => e = .returned (.int .i64 (chkG g)) ∧ Below w.heap.size w w' := by
  obtain ⟨⟨t, s, r⟩, o, i, n, a, v⟩ := g
  rw [chV_is]
  have HK := Lib.hid (bxg_new w ⟨(t, s, r), o, i, n, a, v⟩ ho)
  rw [chB_is] at HK
  obtain ⟨z1, z2, z3, z4⟩ := hz
  dsimp only at z1 z2 z3 z4
  have HZ := Lib.hid (And.intro z1 (And.intro z2 (And.intro z3 z4)))
  obtain ⟨rc, hrc⟩ : ∃ x, chkG ⟨(t, s, r), o, i, n, a, v⟩ = x := ⟨_, rfl⟩
  rw [hrc]
  have HR := Lib.hid hrc
  obtain ⟨c0, c1, c2, c3, c4, c5, c6, c7⟩ := at8_box HK.out.box
  dsimp only at c0 c1 c2 c3 c4 c5 c6 c7
  obtain ⟨bv, hbv⟩ : ∃ x, vldC (t, s, r) = x := ⟨_, rfl⟩
  have HV := Lib.hid hbv
  go_enter Tryz.func17, Tryz.ntmps17
  go_wp2_with fail
  clear c0 c1 c2 c3 c4 c5 c6 c7
  generalize w.alloc (.cells #[.int .i64 t, .int .i64 s, .int .i64 r, .int .i64 o, .string i, .string n, .string a, .string v] 26) = W0 at HK ⊢
  refine (Csn.vldb_k t s r bv W0 HV.out).mono ?_
  rintro e w1 ⟨rfl, hb⟩
  have HK := Lib.hid (HK.out.step hb)
  clear hb
  obtain ⟨c0, c1, c2, c3, c4, c5, c6, c7⟩ := at8_box HK.out.box
  dsimp only at c0 c1 c2 c3 c4 c5 c6 c7
  cases bv
  · have HE := Lib.hid (show rc = 2 from by rw [← hrc]; exact chk_arg (.inl hbv))
    clear hrc hbv
    go_wp2_with fail
    go_ret
    exact ⟨by rw [HE.out]; rfl, HK.out.low⟩
  · by_cases h1 : o < 1
    · have HE := Lib.hid (show rc = 2 from by rw [← hrc]; exact chk_arg (.inr (.inl h1)))
      have d1 : decide (o < 1) = true := decide_eq_true h1
      clear hrc hbv
      go_wp2_with fail
      go_ret
      exact ⟨by rw [HE.out]; rfl, HK.out.low⟩
    · have d1 : decide (o < 1) = false := decide_eq_false h1
      by_cases h5 : 5 < o
      · have HE := Lib.hid (show rc = 2 from by rw [← hrc]; exact chk_arg (.inr (.inr h5)))
        have d5 : decide (5 < o) = true := decide_eq_true h5
        clear hrc hbv
        go_wp2_with fail
        go_ret
        exact ⟨by rw [HE.out]; rfl, HK.out.low⟩
      · have d5 : decide (5 < o) = false := decide_eq_false h5
        obtain ⟨bi, hbi⟩ : ∃ x, idB i = x := ⟨_, rfl⟩
        have HI := Lib.hid hbi
        go_wp2_with fail
        refine (isID_s i _ HZ.out.1 HK.out.ok).mono ?_
        rintro e w2 ⟨rfl, hb⟩
        rw [HI.out]
        have HK := Lib.hid (HK.out.step hb)
        clear hb c0 c1 c2 c3 c4 c5 c6 c7
        obtain ⟨c0, c1, c2, c3, c4, c5, c6, c7⟩ := at8_box HK.out.box
        dsimp only at c0 c1 c2 c3 c4 c5 c6 c7
        cases bi
        · have HE := Lib.hid (show rc = 4 from by rw [← hrc]; exact chk_form hbv (show ¬ o < 1 by omega) (show ¬ 5 < o by omega) (.inl hbi))
          clear hrc hbv hbi
          go_wp2_with fail
          go_ret
          exact ⟨by rw [HE.out]; rfl, HK.out.low⟩
        · obtain ⟨bu, hbu⟩ : ∃ x, unused ⟨(t, s, r), o, i, n, a, v⟩ = x := ⟨_, rfl⟩
          have HU := Lib.hid hbu
          go_wp2_with fail
          refine (hasUnused_s ⟨(t, s, r), o, i, n, a, v⟩ _).mono ?_
          rintro e w3 ⟨rfl, hb⟩
          rw [HU.out]
          have HK := Lib.hid (HK.out.step hb)
          clear hb c0 c1 c2 c3 c4 c5 c6 c7
          obtain ⟨c0, c1, c2, c3, c4, c5, c6, c7⟩ := at8_box HK.out.box
          dsimp only at c0 c1 c2 c3 c4 c5 c6 c7
          cases bu
          · cases hN : useN o
            · cases hV : useV o
              · obtain ⟨q1, q2⟩ := chk_none (g := ⟨(t, s, r), o, i, n, a, v⟩) hbv (show ¬ o < 1 by omega) (show ¬ 5 < o by omega) hbi hbu hN hV
                have HE := Lib.hid (show rc = 0 from by rw [← hrc]; exact q1)
                dsimp only at q2
                clear hrc hbv hbi hbu hN hV q1 d1 d5 h1 h5 HU HR
                subst q2
                go_wp2_with fail
                go_ret
                exact ⟨by rw [HE.out]; rfl, HK.out.low⟩
              · have HE := Lib.hid (show valE a v = rc from by rw [← hrc, chk_rest (g := ⟨(t, s, r), o, i, n, a, v⟩) hbv (show ¬ o < 1 by omega) (show ¬ 5 < o by omega) hbi hbu, if_neg (by rw [hN]; simp), if_pos hV])
                clear hrc hbv hbi hbu hN d1 d5 h1 h5 HU HR
                unfold useV at hV
                simp only [Bool.or_eq_true, decide_eq_true_eq] at hV
                rcases hV with rfl | rfl
                all_goals
                  go_wp2_with fail
                  refine (checkValue_s a v _ HZ.out.2.2.1 HZ.out.2.2.2).mono ?_
                  rintro e w4 ⟨rfl, hb⟩
                  rw [HE.out]
                  have HK := Lib.hid (HK.out.step hb)
                  clear hb
                  go_wp2_with fail
                  go_ret
                  exact ⟨rfl, HK.out.low⟩
            · have HE := Lib.hid (show rc = if n = nilS ∨ Nam.normB n = false then 5 else 0 from by rw [← hrc, chk_rest (g := ⟨(t, s, r), o, i, n, a, v⟩) hbv (show ¬ o < 1 by omega) (show ¬ 5 < o by omega) hbi hbu, if_pos hN])
              clear hrc hbv hbi hbu d1 d5 h1 h5 HU HR
              have e0 := nil_emp n
              have e1 := nil_eq n
              unfold useN at hN
              simp only [Bool.or_eq_true, decide_eq_true_eq] at hN
              by_cases hn : n = nilS
              · rw [decide_eq_true hn] at e0 e1
                have HE2 := Lib.hid (show rc = 5 from HE.out.trans (if_pos (.inl hn)))
                clear hn
                rcases hN with rfl | rfl
                all_goals
                  go_wp2_with fail
                  go_ret
                  exact ⟨by rw [HE2.out]; rfl, HK.out.low⟩
              · rw [decide_eq_false hn] at e0 e1
                obtain ⟨bn, hbn⟩ : ∃ x, Nam.normB n = x := ⟨_, rfl⟩
                have HNb := Lib.hid hbn
                have HE2 := Lib.hid (show rc = if bn = false then 5 else 0 from by rw [HE.out, hbn]; simp [hn])
                clear hn hbn
                rcases hN with rfl | rfl
                all_goals
                  go_wp2_with fail
                  refine (Nam.valid_s n _ (by have := HZ.out.2.1; omega)).mono ?_
                  rintro e w4 ⟨rfl, hb⟩
                  rw [HNb.out]
                  have HK := Lib.hid (HK.out.step hb)
                  clear hb
                  cases bn
                  · go_wp2_with fail
                    go_ret
                    exact ⟨by rw [HE2.out]; rfl, HK.out.low⟩
                  · clear c0 c1 c2 c4 c5 c6 c7
                    go_wp2_with fail
                    go_ret
                    exact ⟨by rw [HE2.out]; rfl, HK.out.low⟩
          · have HE := Lib.hid (show rc = 4 from by rw [← hrc]; exact chk_form hbv (show ¬ o < 1 by omega) (show ¬ 5 < o by omega) (.inr hbu))
            clear hrc hbv hbi hbu
            go_wp2_with fail
            go_ret
            exact ⟨by rw [HE.out]; rfl, HK.out.low⟩
end Go.Proofs.YtbkignlbcneddaaGreatDoor
end

section
/-
  Contract of Check of a change record: the specification's. Condition: strings of at most 1000000 bytes.
-/
set_option maxRecDepth 100000
namespace Go.Proofs.YtbkignlbcneddaaGreatDoor
open Go.RowKit Go.PlainAid
open Csn (Cn cnV KbC kbc_new box_below box_lt parEC parVC vldC)
set_option maxHeartbeats 8000000 in
theorem rchkg_s (g : Chg) (w : World) (hz : SmG g) (ho : MaxOk w) :
    Calls Tryz.prog 18 #[chV g] w fun e w' => e = .returned (.int .i64 (chkG g)) ∧ Below w.heap.size w w' := by
  obtain ⟨⟨t, s, r⟩, o, i, n, a, v⟩ := g
  rw [chV_is]
  have HK := Lib.hid (bxg_new w ⟨(t, s, r), o, i, n, a, v⟩ ho)
  rw [chB_is] at HK
  obtain ⟨z1, z2, z3, z4⟩ := hz
  dsimp only at z1 z2 z3 z4
  have HZ := Lib.hid (And.intro z1 (And.intro z2 (And.intro z3 z4)))
  obtain ⟨rc, hrc⟩ : ∃ x, chkG ⟨(t, s, r), o, i, n, a, v⟩ = x := ⟨_, rfl⟩
  rw [hrc]
  have HR := Lib.hid hrc
  obtain ⟨c0, c1, c2, c3, c4, c5, c6, c7⟩ := at8_box HK.out.box
  dsimp only at c0 c1 c2 c3 c4 c5 c6 c7
  obtain ⟨bv, hbv⟩ : ∃ x, vldC (t, s, r) = x := ⟨_, rfl⟩
  have HV := Lib.hid hbv
  go_enter Tryz.func18, Tryz.ntmps18
  go_wp2_with fail
  clear c0 c1 c2 c3 c4 c5 c6 c7
  generalize w.alloc (.cells #[.int .i64 t, .int .i64 s, .int .i64 r, .int .i64 o, .string i, .string n, .string a, .string v] 26) = W0 at HK ⊢
  refine (Csn.rvldb_k t s r bv W0 HV.out).mono ?_
  rintro e w1 ⟨rfl, hb⟩
  have HK := Lib.hid (HK.out.step hb)
  clear hb
  obtain ⟨c0, c1, c2, c3, c4, c5, c6, c7⟩ := at8_box HK.out.box
  dsimp only at c0 c1 c2 c3 c4 c5 c6 c7
  cases bv
  · have HE := Lib.hid (show rc = 2 from by rw [← hrc]; exact chk_arg (.inl hbv))
    clear hrc hbv
    go_wp2_with fail
    go_ret
    exact ⟨by rw [HE.out]; rfl, HK.out.low⟩
  · by_cases h1 : o < 1
    · have HE := Lib.hid (show rc = 2 from by rw [← hrc]; exact chk_arg (.inr (.inl h1)))
      have d1 : decide (o < 1) = true := decide_eq_true h1
      clear hrc hbv
      go_wp2_with fail
      go_ret
      exact ⟨by rw [HE.out]; rfl, HK.out.low⟩
    · have d1 : decide (o < 1) = false := decide_eq_false h1
      by_cases h5 : 5 < o
      · have HE := Lib.hid (show rc = 2 from by rw [← hrc]; exact chk_arg (.inr (.inr h5)))
        have d5 : decide (5 < o) = true := decide_eq_true h5
        clear hrc hbv
        go_wp2_with fail
        go_ret
        exact ⟨by rw [HE.out]; rfl, HK.out.low⟩
      · have d5 : decide (5 < o) = false := decide_eq_false h5
        obtain ⟨⟨pa, pb, pc⟩, hpv⟩ : ∃ x, parVC i.data.toList = x := ⟨_, rfl⟩
        obtain ⟨pe, hpe⟩ : ∃ x, parEC i.data.toList = x := ⟨_, rfl⟩
        have HI := Lib.hid (show (decide (pe = 0)) = idB i by unfold idB; rw [hpe])
        have HC := Lib.hid (Csn.rparse_s i w1 HZ.out.1)
        rw [hpv, hpe] at HC
        clear hpv hpe
        go_wp2_with fail
        refine HC.out.mono ?_
        rintro e w2 ⟨rfl, hb⟩
        have HK := Lib.hid ((HK.out.step hb).step (box_below w2 (.cells #[.int .i64 pa, .int .i64 pb, .int .i64 pc] 23)))
        clear hb c0 c1 c2 c3 c4 c5 c6 c7 HC
        unfold cnV
        dsimp only
        obtain ⟨c0, c1, c2, c3, c4, c5, c6, c7⟩ := at8_box HK.out.box
        dsimp only at c0 c1 c2 c3 c4 c5 c6 c7
        by_cases hp0 : pe = 0
        · have hbi : idB i = true := by rw [← HI.out]; exact decide_eq_true hp0
          have p0 : (pe != 0) = false := by rw [hp0]; rfl
          obtain ⟨bu, hbu⟩ : ∃ x, unused ⟨(t, s, r), o, i, n, a, v⟩ = x := ⟨_, rfl⟩
          have HU := Lib.hid hbu
          go_wp2_with fail
          refine (runused_s ⟨(t, s, r), o, i, n, a, v⟩ _).mono ?_
          rintro e w3 ⟨rfl, rfl⟩
          rw [HU.out]
          have HK := Lib.hid (HK.out.step (box_below _ (chB ⟨(t, s, r), o, i, n, a, v⟩)))
          clear c0 c1 c2 c3 c4 c5 c6 c7
          generalize (w2.alloc (.cells #[.int .i64 pa, .int .i64 pb, .int .i64 pc] 23)).alloc (chB ⟨(t, s, r), o, i, n, a, v⟩) = W3 at HK ⊢
          obtain ⟨c0, c1, c2, c3, c4, c5, c6, c7⟩ := at8_box HK.out.box
          dsimp only at c0 c1 c2 c3 c4 c5 c6 c7
          cases bu
          · cases hN : useN o
            · cases hV : useV o
              · obtain ⟨q1, q2⟩ := chk_none (g := ⟨(t, s, r), o, i, n, a, v⟩) hbv (show ¬ o < 1 by omega) (show ¬ 5 < o by omega) hbi hbu hN hV
                have HE := Lib.hid (show rc = 0 from by rw [← hrc]; exact q1)
                dsimp only at q2
                clear hrc hbv hbi hbu hN hV q1 d1 d5 h1 h5 HU HR
                subst q2
                go_wp2_with fail
                go_ret
                exact ⟨by rw [HE.out]; rfl, HK.out.low⟩
              · have HE := Lib.hid (show valE a v = rc from by rw [← hrc, chk_rest (g := ⟨(t, s, r), o, i, n, a, v⟩) hbv (show ¬ o < 1 by omega) (show ¬ 5 < o by omega) hbi hbu, if_neg (by rw [hN]; simp), if_pos hV])
                clear hrc hbv hbi hbu hN d1 d5 h1 h5 HU HR
                obtain ⟨bn, hbn⟩ : ∃ x, nameB a = x := ⟨_, rfl⟩
                obtain ⟨bc, hbc⟩ : ∃ x, cleanB v = x := ⟨_, rfl⟩
                obtain ⟨la, hla⟩ : ∃ x, lowS a = x := ⟨_, rfl⟩
                have HNb := Lib.hid hbn
                have HCb := Lib.hid hbc
                have HLa := Lib.hid hla
                have HE2 := Lib.hid (show rc = if bn = false ∨ la ≠ a then 5 else if bc = false then 8 else 0 from by rw [← HE.out]; unfold valE; rw [hbn, hbc, hla])
                clear hbn hbc hla
                unfold useV at hV
                simp only [Bool.or_eq_true, decide_eq_true_eq] at hV
                have e1 : (o == 1) = false := by rcases hV with rfl | rfl <;> rfl
                have e3 : (o == 3) = false := by rcases hV with rfl | rfl <;> rfl
                have hE : (o == 4) = true ∨ ((o == 4) = false ∧ (o == 5) = true) := by
                  rcases hV with rfl | rfl
                  · exact .inl rfl
                  · exact .inr ⟨rfl, rfl⟩
                clear hV
                have l0 := str_ne la a
                have l1 := str_eq la a
                have HSt := Lib.hid (show ∀ V : World, BxG w w.heap.size ⟨(t, s, r), o, i, n, a, v⟩ V → (fun V => V.cell? ⟨w.heap.size, 6, none⟩ = some (.string a) ∧ Hid (BxG w w.heap.size ⟨(t, s, r), o, i, n, a, v⟩ V)) V from fun V h => ⟨(at8_box h.box).c6, Lib.hid h⟩)
                cases bn
                · have HE3 := Lib.hid (show rc = 5 from HE2.out.trans (if_pos (.inl rfl)))
                  rcases hE with e4 | ⟨e4, e5⟩
                  all_goals
                    go_wp2_with fail
                    have S0 := HSt.out _ HK.out.drew
                    clear c0 c1 c2 c3 c4 c5 c6 c7
                    refine wp_region_held_drew (S := fun V => V.cell? ⟨w.heap.size, 6, none⟩ = some (.string a) ∧ Hid (BxG w w.heap.size ⟨(t, s, r), o, i, n, a, v⟩ V)) (by kernel_rfl) (S0) (fun hS => ?_)
                    refine wpAnyH_take (i := 0) (oi := { dst := some 48, op := _, type := _, pos := _, after := _, guard := _ }) (v := ?_) rfl (by kernel_rfl) (by kernel_rfl) (by kernel_rfl) (fun _ _ _ h => h) (Or.inl ⟨by rfl, ?_⟩) (by assumption) ?_
                    rotate_left
                    · intro w hSw
                      try dsimp only at hSw
                      go_simp
                      try with_reducible rfl
                    try simp only [Act.put, List.setIfInBounds_toArray, List.set_cons_zero, List.set_cons_succ]
                    refine wpAnyH_take (i := 1) (oi := { dst := some 49, op := _, type := _, pos := _, after := _, guard := _ }) (v := ?_) rfl (by kernel_rfl) (by kernel_rfl) (by kernel_rfl) (fun _ _ _ h => h) (Or.inl ⟨by rfl, ?_⟩) (by assumption) ?_
                    rotate_left
                    · intro w hSw
                      try dsimp only at hSw
                      go_simp
                      try with_reducible rfl
                    try simp only [Act.put, List.setIfInBounds_toArray, List.set_cons_zero, List.set_cons_succ]
                    refine wpAnyH_ready (rs := [2]) (by kernel_rfl) (by simp) ?_
                    refine AllReadyH.cons rfl (fun K hK => ?_) AllReadyH.nil
                    go_simp
                    refine (rName_s a _ (by have := HZ.out.2.2.1; omega)).mono ?_
                    rintro e v1 ⟨rfl, rfl⟩
                    rw [HNb.out]
                    go_wp2_with fail
                    refine hK.out _ _ ?_ (fun hHeld => ?_)
                    · exact hS
                    clear hK K
                    try simp only [Act.put, List.setIfInBounds_toArray, List.set_cons_zero, List.set_cons_succ]
                    refine wpAnyH_take (i := 3) (oi := { dst := some 51, op := _, type := _, pos := _, after := _, guard := _ }) (v := ?_) rfl (by kernel_rfl) (by kernel_rfl) (by kernel_rfl) (fun _ _ _ h => h) (Or.inl ⟨by rfl, ?_⟩) (by assumption) ?_
                    rotate_left
                    · intro w hSw
                      try dsimp only at hSw
                      go_simp
                      try with_reducible rfl
                    try simp only [Act.put, List.setIfInBounds_toArray, List.set_cons_zero, List.set_cons_succ]
                    refine wpAnyH_take (i := 4) (oi := { dst := some 52, op := _, type := _, pos := _, after := _, guard := _ }) (v := ?_) rfl (by kernel_rfl) (by kernel_rfl) (by kernel_rfl) (fun _ _ _ h => h) (Or.inl ⟨by rfl, ?_⟩) (by assumption) ?_
                    rotate_left
                    · intro w hSw
                      try dsimp only at hSw
                      go_simp
                      try with_reducible rfl
                    try simp only [Act.put, List.setIfInBounds_toArray, List.set_cons_zero, List.set_cons_succ]
                    refine wpAnyH_take (i := 5) (oi := { dst := some 53, op := _, type := _, pos := _, after := _, guard := _ }) (v := undef) rfl (by kernel_rfl) (by kernel_rfl) (by kernel_rfl) (fun _ _ _ h => h) (Or.inr ⟨by rfl, rfl⟩) (by assumption) ?_
                    try simp only [Act.put, List.setIfInBounds_toArray, List.set_cons_zero, List.set_cons_succ]
                    refine wpAnyH_take (i := 6) (oi := { dst := some 54, op := _, type := _, pos := _, after := _, guard := _ }) (v := undef) rfl (by kernel_rfl) (by kernel_rfl) (by kernel_rfl) (fun _ _ _ h => h) (Or.inr ⟨by rfl, rfl⟩) (by assumption) ?_
                    try simp only [Act.put, List.setIfInBounds_toArray, List.set_cons_zero, List.set_cons_succ]
                    refine wpAnyH_take (i := 7) (oi := { dst := some 55, op := _, type := _, pos := _, after := _, guard := _ }) (v := undef) rfl (by kernel_rfl) (by kernel_rfl) (by kernel_rfl) (fun _ _ _ h => h) (Or.inr ⟨by rfl, rfl⟩) (by assumption) ?_
                    try simp only [Act.put, List.setIfInBounds_toArray, List.set_cons_zero, List.set_cons_succ]
                    refine wpAnyH_take (i := 8) (oi := { dst := some 56, op := _, type := _, pos := _, after := _, guard := _ }) (v := undef) rfl (by kernel_rfl) (by kernel_rfl) (by kernel_rfl) (fun _ _ _ h => h) (Or.inr ⟨by rfl, rfl⟩) (by assumption) ?_
                    try simp only [Act.put, List.setIfInBounds_toArray, List.set_cons_zero, List.set_cons_succ]
                    refine wpAnyH_take (i := 9) (oi := { dst := some 57, op := _, type := _, pos := _, after := _, guard := _ }) (v := undef) rfl (by kernel_rfl) (by kernel_rfl) (by kernel_rfl) (fun _ _ _ h => h) (Or.inr ⟨by rfl, rfl⟩) (by assumption) ?_
                    try simp only [Act.put, List.setIfInBounds_toArray, List.set_cons_zero, List.set_cons_succ]
                    refine wpAnyH_take (i := 10) (oi := { dst := some 58, op := _, type := _, pos := _, after := _, guard := _ }) (v := undef) rfl (by kernel_rfl) (by kernel_rfl) (by kernel_rfl) (fun _ _ _ h => h) (Or.inr ⟨by rfl, rfl⟩) (by assumption) ?_
                    try simp only [Act.put, List.setIfInBounds_toArray, List.set_cons_zero, List.set_cons_succ]
                    refine wpAnyH_take (i := 11) (oi := { dst := some 59, op := _, type := _, pos := _, after := _, guard := _ }) (v := ?_) rfl (by kernel_rfl) (by kernel_rfl) (by kernel_rfl) (fun _ _ _ h => h) (Or.inl ⟨by rfl, ?_⟩) (by assumption) ?_
                    rotate_left
                    · intro w hSw
                      try dsimp only at hSw
                      go_simp
                      try with_reducible rfl
                    try simp only [Act.put, List.setIfInBounds_toArray, List.set_cons_zero, List.set_cons_succ]
                    refine wpAnyH_done (by kernel_rfl) ?_ _
                    go_wp2_with fail
                    go_ret
                    exact ⟨by rw [HE3.out]; rfl, hHeld.2.out.low⟩
                · by_cases hl : la = a
                  · rw [decide_eq_false (p := la ≠ a) (fun k => k hl)] at l0
                    rw [decide_eq_true hl] at l1
                    have HE3 := Lib.hid (show rc = if bc = false then 8 else 0 from HE2.out.trans (if_neg (by simp [hl])))
                    clear hl
                    rcases hE with e4 | ⟨e4, e5⟩
                    all_goals
                      go_wp2_with fail
                      have S0 := HSt.out _ HK.out.drew
                      clear c0 c1 c2 c3 c4 c5 c6 c7
                      refine wp_region_held_drew (S := fun V => V.cell? ⟨w.heap.size, 6, none⟩ = some (.string a) ∧ Hid (BxG w w.heap.size ⟨(t, s, r), o, i, n, a, v⟩ V)) (by kernel_rfl) (S0) (fun hS => ?_)
                      refine wpAnyH_take (i := 0) (oi := { dst := some 48, op := _, type := _, pos := _, after := _, guard := _ }) (v := ?_) rfl (by kernel_rfl) (by kernel_rfl) (by kernel_rfl) (fun _ _ _ h => h) (Or.inl ⟨by rfl, ?_⟩) (by assumption) ?_
                      rotate_left
                      · intro w hSw
                        try dsimp only at hSw
                        go_simp
                        try with_reducible rfl
                      try simp only [Act.put, List.setIfInBounds_toArray, List.set_cons_zero, List.set_cons_succ]
                      refine wpAnyH_take (i := 1) (oi := { dst := some 49, op := _, type := _, pos := _, after := _, guard := _ }) (v := ?_) rfl (by kernel_rfl) (by kernel_rfl) (by kernel_rfl) (fun _ _ _ h => h) (Or.inl ⟨by rfl, ?_⟩) (by assumption) ?_
                      rotate_left
                      · intro w hSw
                        try dsimp only at hSw
                        go_simp
                        try with_reducible rfl
                      try simp only [Act.put, List.setIfInBounds_toArray, List.set_cons_zero, List.set_cons_succ]
                      refine wpAnyH_ready (rs := [2]) (by kernel_rfl) (by simp) ?_
                      refine AllReadyH.cons rfl (fun K hK => ?_) AllReadyH.nil
                      go_simp
                      refine (rName_s a _ (by have := HZ.out.2.2.1; omega)).mono ?_
                      rintro e v1 ⟨rfl, rfl⟩
                      rw [HNb.out]
                      go_wp2_with fail
                      refine hK.out _ _ ?_ (fun hHeld => ?_)
                      · exact hS
                      clear hK K
                      try simp only [Act.put, List.setIfInBounds_toArray, List.set_cons_zero, List.set_cons_succ]
                      refine wpAnyH_take (i := 3) (oi := { dst := some 51, op := _, type := _, pos := _, after := _, guard := _ }) (v := ?_) rfl (by kernel_rfl) (by kernel_rfl) (by kernel_rfl) (fun _ _ _ h => h) (Or.inl ⟨by rfl, ?_⟩) (by assumption) ?_
                      rotate_left
                      · intro w hSw
                        try dsimp only at hSw
                        go_simp
                        try with_reducible rfl
                      try simp only [Act.put, List.setIfInBounds_toArray, List.set_cons_zero, List.set_cons_succ]
                      refine wpAnyH_take (i := 4) (oi := { dst := some 52, op := _, type := _, pos := _, after := _, guard := _ }) (v := ?_) rfl (by kernel_rfl) (by kernel_rfl) (by kernel_rfl) (fun _ _ _ h => h) (Or.inl ⟨by rfl, ?_⟩) (by assumption) ?_
                      rotate_left
                      · intro w hSw
                        try dsimp only at hSw
                        go_simp
                        try with_reducible rfl
                      try simp only [Act.put, List.setIfInBounds_toArray, List.set_cons_zero, List.set_cons_succ]
                      refine wpAnyH_take (i := 5) (oi := { dst := some 53, op := _, type := _, pos := _, after := _, guard := _ }) (v := ?_) rfl (by kernel_rfl) (by kernel_rfl) (by kernel_rfl) (fun _ _ _ h => h) (Or.inl ⟨by rfl, ?_⟩) (by assumption) ?_
                      rotate_left
                      · intro w hSw
                        try dsimp only at hSw
                        go_simp
                        try with_reducible rfl
                      try simp only [Act.put, List.setIfInBounds_toArray, List.set_cons_zero, List.set_cons_succ]
                      refine wpAnyH_take (i := 6) (oi := { dst := some 54, op := _, type := _, pos := _, after := _, guard := _ }) (v := ?_) rfl (by kernel_rfl) (by kernel_rfl) (by kernel_rfl) (fun _ _ _ h => h) (Or.inl ⟨by rfl, ?_⟩) (by assumption) ?_
                      rotate_left
                      · intro w hSw
                        try dsimp only at hSw
                        go_simp
                        try with_reducible rfl
                      try simp only [Act.put, List.setIfInBounds_toArray, List.set_cons_zero, List.set_cons_succ]
                      refine wpAnyH_take (i := 8) (oi := { dst := some 56, op := _, type := _, pos := _, after := _, guard := _ }) (v := ?_) rfl (by kernel_rfl) (by kernel_rfl) (by kernel_rfl) (fun _ _ _ h => h) (Or.inl ⟨by rfl, ?_⟩) (by assumption) ?_
                      rotate_left
                      · intro w hSw
                        try dsimp only at hSw
                        go_simp
                        try with_reducible rfl
                      try simp only [Act.put, List.setIfInBounds_toArray, List.set_cons_zero, List.set_cons_succ]
                      refine wpAnyH_take (i := 9) (oi := { dst := some 57, op := _, type := _, pos := _, after := _, guard := _ }) (v := ?_) rfl (by kernel_rfl) (by kernel_rfl) (by kernel_rfl) (fun _ _ _ h => h) (Or.inl ⟨by rfl, ?_⟩) (by assumption) ?_
                      rotate_left
                      · intro w hSw
                        try dsimp only at hSw
                        go_simp
                        try with_reducible rfl
                      try simp only [Act.put, List.setIfInBounds_toArray, List.set_cons_zero, List.set_cons_succ]
                      refine wpAnyH_ready (rs := [7]) (by kernel_rfl) (by simp) ?_
                      refine AllReadyH.cons rfl (fun K hK => ?_) AllReadyH.nil
                      go_simp
                      refine (rLower_s a _ (by have := HZ.out.2.2.1; omega)).mono ?_
                      rintro e v2 ⟨rfl, hb⟩
                      rw [HLa.out]
                      have HKp := Lib.hid (hHeld.2.out.step hb)
                      clear hb
                      go_wp2_with fail
                      refine hK.out _ _ ?_ (fun hHeld => ?_)
                      · exact HSt.out _ HKp.out
                      clear hK K
                      try simp only [Act.put, List.setIfInBounds_toArray, List.set_cons_zero, List.set_cons_succ]
                      refine wpAnyH_take (i := 10) (oi := { dst := some 58, op := _, type := _, pos := _, after := _, guard := _ }) (v := ?_) rfl (by kernel_rfl) (by kernel_rfl) (by kernel_rfl) (fun _ _ _ h => h) (Or.inl ⟨by rfl, ?_⟩) (by assumption) ?_
                      rotate_left
                      · intro w hSw
                        try dsimp only at hSw
                        go_simp
                        try with_reducible rfl
                      try simp only [Act.put, List.setIfInBounds_toArray, List.set_cons_zero, List.set_cons_succ]
                      refine wpAnyH_take (i := 11) (oi := { dst := some 59, op := _, type := _, pos := _, after := _, guard := _ }) (v := ?_) rfl (by kernel_rfl) (by kernel_rfl) (by kernel_rfl) (fun _ _ _ h => h) (Or.inl ⟨by rfl, ?_⟩) (by assumption) ?_
                      rotate_left
                      · intro w hSw
                        try dsimp only at hSw
                        go_simp
                        try with_reducible rfl
                      try simp only [Act.put, List.setIfInBounds_toArray, List.set_cons_zero, List.set_cons_succ]
                      refine wpAnyH_done (by kernel_rfl) ?_ _
                      have c7 := (at8_box hHeld.2.out.box).c7
                      dsimp only at c7
                      go_wp2_with fail
                      refine (rClean_s v _ (by have := HZ.out.2.2.2; omega)).mono ?_
                      rintro e w5 ⟨rfl, rfl⟩
                      rw [HCb.out]
                      cases bc
                      · go_wp2_with fail
                        go_ret
                        exact ⟨by rw [HE3.out]; rfl, hHeld.2.out.low⟩
                      · go_wp2_with fail
                        go_ret
                        exact ⟨by rw [HE3.out]; rfl, hHeld.2.out.low⟩
                  · rw [decide_eq_true (p := la ≠ a) hl] at l0
                    rw [decide_eq_false hl] at l1
                    have HE3 := Lib.hid (show rc = 5 from HE2.out.trans (if_pos (.inr hl)))
                    clear hl
                    rcases hE with e4 | ⟨e4, e5⟩
                    all_goals
                      go_wp2_with fail
                      have S0 := HSt.out _ HK.out.drew
                      clear c0 c1 c2 c3 c4 c5 c6 c7
                      refine wp_region_held_drew (S := fun V => V.cell? ⟨w.heap.size, 6, none⟩ = some (.string a) ∧ Hid (BxG w w.heap.size ⟨(t, s, r), o, i, n, a, v⟩ V)) (by kernel_rfl) (S0) (fun hS => ?_)
                      refine wpAnyH_take (i := 0) (oi := { dst := some 48, op := _, type := _, pos := _, after := _, guard := _ }) (v := ?_) rfl (by kernel_rfl) (by kernel_rfl) (by kernel_rfl) (fun _ _ _ h => h) (Or.inl ⟨by rfl, ?_⟩) (by assumption) ?_
                      rotate_left
                      · intro w hSw
                        try dsimp only at hSw
                        go_simp
                        try with_reducible rfl
                      try simp only [Act.put, List.setIfInBounds_toArray, List.set_cons_zero, List.set_cons_succ]
                      refine wpAnyH_take (i := 1) (oi := { dst := some 49, op := _, type := _, pos := _, after := _, guard := _ }) (v := ?_) rfl (by kernel_rfl) (by kernel_rfl) (by kernel_rfl) (fun _ _ _ h => h) (Or.inl ⟨by rfl, ?_⟩) (by assumption) ?_
                      rotate_left
                      · intro w hSw
                        try dsimp only at hSw
                        go_simp
                        try with_reducible rfl
                      try simp only [Act.put, List.setIfInBounds_toArray, List.set_cons_zero, List.set_cons_succ]
                      refine wpAnyH_ready (rs := [2]) (by kernel_rfl) (by simp) ?_
                      refine AllReadyH.cons rfl (fun K hK => ?_) AllReadyH.nil
                      go_simp
                      refine (rName_s a _ (by have := HZ.out.2.2.1; omega)).mono ?_
                      rintro e v1 ⟨rfl, rfl⟩
                      rw [HNb.out]
                      go_wp2_with fail
                      refine hK.out _ _ ?_ (fun hHeld => ?_)
                      · exact hS
                      clear hK K
                      try simp only [Act.put, List.setIfInBounds_toArray, List.set_cons_zero, List.set_cons_succ]
                      refine wpAnyH_take (i := 3) (oi := { dst := some 51, op := _, type := _, pos := _, after := _, guard := _ }) (v := ?_) rfl (by kernel_rfl) (by kernel_rfl) (by kernel_rfl) (fun _ _ _ h => h) (Or.inl ⟨by rfl, ?_⟩) (by assumption) ?_
                      rotate_left
                      · intro w hSw
                        try dsimp only at hSw
                        go_simp
                        try with_reducible rfl
                      try simp only [Act.put, List.setIfInBounds_toArray, List.set_cons_zero, List.set_cons_succ]
                      refine wpAnyH_take (i := 4) (oi := { dst := some 52, op := _, type := _, pos := _, after := _, guard := _ }) (v := ?_) rfl (by kernel_rfl) (by kernel_rfl) (by kernel_rfl) (fun _ _ _ h => h) (Or.inl ⟨by rfl, ?_⟩) (by assumption) ?_
                      rotate_left
                      · intro w hSw
                        try dsimp only at hSw
                        go_simp
                        try with_reducible rfl
                      try simp only [Act.put, List.setIfInBounds_toArray, List.set_cons_zero, List.set_cons_succ]
                      refine wpAnyH_take (i := 5) (oi := { dst := some 53, op := _, type := _, pos := _, after := _, guard := _ }) (v := ?_) rfl (by kernel_rfl) (by kernel_rfl) (by kernel_rfl) (fun _ _ _ h => h) (Or.inl ⟨by rfl, ?_⟩) (by assumption) ?_
                      rotate_left
                      · intro w hSw
                        try dsimp only at hSw
                        go_simp
                        try with_reducible rfl
                      try simp only [Act.put, List.setIfInBounds_toArray, List.set_cons_zero, List.set_cons_succ]
                      refine wpAnyH_take (i := 6) (oi := { dst := some 54, op := _, type := _, pos := _, after := _, guard := _ }) (v := ?_) rfl (by kernel_rfl) (by kernel_rfl) (by kernel_rfl) (fun _ _ _ h => h) (Or.inl ⟨by rfl, ?_⟩) (by assumption) ?_
                      rotate_left
                      · intro w hSw
                        try dsimp only at hSw
                        go_simp
                        try with_reducible rfl
                      try simp only [Act.put, List.setIfInBounds_toArray, List.set_cons_zero, List.set_cons_succ]
                      refine wpAnyH_take (i := 8) (oi := { dst := some 56, op := _, type := _, pos := _, after := _, guard := _ }) (v := ?_) rfl (by kernel_rfl) (by kernel_rfl) (by kernel_rfl) (fun _ _ _ h => h) (Or.inl ⟨by rfl, ?_⟩) (by assumption) ?_
                      rotate_left
                      · intro w hSw
                        try dsimp only at hSw
                        go_simp
                        try with_reducible rfl
                      try simp only [Act.put, List.setIfInBounds_toArray, List.set_cons_zero, List.set_cons_succ]
                      refine wpAnyH_take (i := 9) (oi := { dst := some 57, op := _, type := _, pos := _, after := _, guard := _ }) (v := ?_) rfl (by kernel_rfl) (by kernel_rfl) (by kernel_rfl) (fun _ _ _ h => h) (Or.inl ⟨by rfl, ?_⟩) (by assumption) ?_
                      rotate_left
                      · intro w hSw
                        try dsimp only at hSw
                        go_simp
                        try with_reducible rfl
                      try simp only [Act.put, List.setIfInBounds_toArray, List.set_cons_zero, List.set_cons_succ]
                      refine wpAnyH_ready (rs := [7]) (by kernel_rfl) (by simp) ?_
                      refine AllReadyH.cons rfl (fun K hK => ?_) AllReadyH.nil
                      go_simp
                      refine (rLower_s a _ (by have := HZ.out.2.2.1; omega)).mono ?_
                      rintro e v2 ⟨rfl, hb⟩
                      rw [HLa.out]
                      have HKp := Lib.hid (hHeld.2.out.step hb)
                      clear hb
                      go_wp2_with fail
                      refine hK.out _ _ ?_ (fun hHeld => ?_)
                      · exact HSt.out _ HKp.out
                      clear hK K
                      try simp only [Act.put, List.setIfInBounds_toArray, List.set_cons_zero, List.set_cons_succ]
                      refine wpAnyH_take (i := 10) (oi := { dst := some 58, op := _, type := _, pos := _, after := _, guard := _ }) (v := ?_) rfl (by kernel_rfl) (by kernel_rfl) (by kernel_rfl) (fun _ _ _ h => h) (Or.inl ⟨by rfl, ?_⟩) (by assumption) ?_
                      rotate_left
                      · intro w hSw
                        try dsimp only at hSw
                        go_simp
                        try with_reducible rfl
                      try simp only [Act.put, List.setIfInBounds_toArray, List.set_cons_zero, List.set_cons_succ]
                      refine wpAnyH_take (i := 11) (oi := { dst := some 59, op := _, type := _, pos := _, after := _, guard := _ }) (v := ?_) rfl (by kernel_rfl) (by kernel_rfl) (by kernel_rfl) (fun _ _ _ h => h) (Or.inl ⟨by rfl, ?_⟩) (by assumption) ?_
                      rotate_left
                      · intro w hSw
                        try dsimp only at hSw
                        go_simp
                        try with_reducible rfl
                      try simp only [Act.put, List.setIfInBounds_toArray, List.set_cons_zero, List.set_cons_succ]
                      refine wpAnyH_done (by kernel_rfl) ?_ _
                      go_wp2_with fail
                      go_ret
                      exact ⟨by rw [HE3.out]; rfl, hHeld.2.out.low⟩
            · have HE := Lib.hid (show rc = if n = nilS ∨ Nam.normB n = false then 5 else 0 from by rw [← hrc, chk_rest (g := ⟨(t, s, r), o, i, n, a, v⟩) hbv (show ¬ o < 1 by omega) (show ¬ 5 < o by omega) hbi hbu, if_pos hN])
              clear hrc hbv hbi hbu d1 d5 h1 h5 HU HR
              have e0 := nil_emp n
              have e1 := nil_eq n
              unfold useN at hN
              simp only [Bool.or_eq_true, decide_eq_true_eq] at hN
              by_cases hn : n = nilS
              · rw [decide_eq_true hn] at e0 e1
                have HE2 := Lib.hid (show rc = 5 from HE.out.trans (if_pos (.inl hn)))
                clear hn
                rcases hN with rfl | rfl
                all_goals
                  go_wp2_with fail
                  go_ret
                  exact ⟨by rw [HE2.out]; rfl, HK.out.low⟩
              · rw [decide_eq_false hn] at e0 e1
                obtain ⟨bn, hbn⟩ : ∃ x, Nam.normB n = x := ⟨_, rfl⟩
                have HNb := Lib.hid hbn
                have HE2 := Lib.hid (show rc = if bn = false then 5 else 0 from by rw [HE.out, hbn]; simp [hn])
                clear hn hbn
                rcases hN with rfl | rfl
                all_goals
                  go_wp2_with fail
                  refine (Nam.rvalid_s n _ (by have := HZ.out.2.1; omega)).mono ?_
                  rintro e w4 ⟨rfl, hb⟩
                  rw [HNb.out]
                  have HK := Lib.hid (HK.out.step hb)
                  clear hb
                  cases bn
                  · go_wp2_with fail
                    go_ret
                    exact ⟨by rw [HE2.out]; rfl, HK.out.low⟩
                  · clear c0 c1 c2 c4 c5 c6 c7
                    go_wp2_with fail
                    go_ret
                    exact ⟨by rw [HE2.out]; rfl, HK.out.low⟩
          · have HE := Lib.hid (show rc = 4 from by rw [← hrc]; exact chk_form hbv (show ¬ o < 1 by omega) (show ¬ 5 < o by omega) (.inr hbu))
            clear hrc hbv hbi hbu
            go_wp2_with fail
            go_ret
            exact ⟨by rw [HE.out]; rfl, HK.out.low⟩
        · have HE := Lib.hid (show rc = 4 from by rw [← hrc]; exact chk_form hbv (show ¬ o < 1 by omega) (show ¬ 5 < o by omega) (.inl (by rw [← HI.out]; exact decide_eq_false hp0)))
          have p0 : (pe != 0) = true := by simpa using hp0
          clear hrc hbv hp0
          go_wp2_with fail
          go_ret
          exact ⟨by rw [HE.out]; rfl, HK.out.low⟩
end Go.Proofs.YtbkignlbcneddaaGreatDoor
end
