/-
  Texts of the schema layer and of those beneath it, joined: ChgMr, ChgMap. Conditions stand at each contract.
-/
import Derived.DeepKeys4
import Derived.Test.YtbkignlbcneddaaGreatDoorM03
import Derived.Test.YtbkignlbcneddaaGreatDoorM14
import Derived.Test.YtbkignlbcneddaaGreatDoorM22
set_option linter.unusedVariables false
set_option linter.unusedSimpArgs false
set_option linter.unnecessarySimpa false

section
/-
  Contract of the reference's Merge. Condition: at most 10000 records a side, strings of at most 1000000 bytes.
-/
set_option maxRecDepth 100000
namespace Go.Proofs.YtbkignlbcneddaaGreatDoor
open Go.RowKit Go.PlainAid
open Csn (Cn cnV cnB KbC kbc_new box_below box_lt parEC parVC vldC fmtS TzOk ltC cmpC)
theorem insG_len (g : Chg) : ∀ l : List Chg, (insG l g).length ≤ l.length + 1
  | [] => by simp [insG]
  | x :: r => by
    have ih := insG_len g r
    unfold insG
    split
    · simp
    · split
      · simp
      · simp only [List.length_cons]; omega
theorem addG_len (g : Chg) (l : List Chg) : (addG l g).length ≤ l.length + 1 := by
  unfold addG
  split
  · exact insG_len g l
  · omega
theorem fold_len : ∀ (L m : List Chg), (L.foldl addG m).length ≤ m.length + L.length
  | [], m => by simp
  | g :: r, m => by
    rw [List.foldl_cons]
    have h1 := fold_len r (addG m g)
    have h2 := addG_len g m
    simp only [List.length_cons]
    omega
theorem fold_ok {L : List Chg} (hz : ∀ d ∈ L, SmG d) : AscG (L.foldl addG []) ∧ (∀ d ∈ L.foldl addG [], chkG d = 0) ∧ (∀ d ∈ L.foldl addG [], SmG d) ∧ (L.foldl addG []).length ≤ L.length := by
  have h := mrg_fold L
  refine ⟨h.asc, fun d hd => (best_mem ((h.mem d).1 hd)).2.1, fun d hd => hz d (best_mem ((h.mem d).1 hd)).1, ?_⟩
  have := fold_len L []
  simpa using this
/-- what the loops keep: the union so far -/
structure MgI (w : World) (L : List Chg) (v : Value) (W : World) : Prop where
  low : Below w.heap.size w W
  row : ∃ xo k xc, v = .slice xo k xc ∧ ChsAt W xo k xc (L.foldl addG [])
set_option maxHeartbeats 16000000 in
theorem rmerge_s (ao bo : Option Addr) (n m cap dap : Nat) (a b : List Chg) (w : World) (h : ChsAt w ao n cap a) (k : ChsAt w bo m dap b) (ha : ∀ d ∈ a, SmG d) (hb : ∀ d ∈ b, SmG d) (hn : n ≤ 10000) (hm : m ≤ 10000) (ho : MaxOk w) :
    Calls Tryz.prog 25 #[.slice ao n cap, .slice bo m dap] w fun e w' => ∃ xo k xc, e = .returned (.slice xo k xc) ∧ ChsAt w' xo k xc (mergeG a b) ∧ Below w.heap.size w w' := by
  have HLa := Lib.hid h
  have HLb := Lib.hid k
  have HNa := Lib.hid h.1
  have HNb := Lib.hid k.1
  have HZa := Lib.hid ha
  have HZb := Lib.hid hb
  have HSa := Lib.hid hn
  have HSb := Lib.hid hm
  have HM := Lib.hid ho
  clear h k ha hb hn hm ho
  have HI := Lib.hid (show MgI w (a.take 0) (.slice none 0 0) w from ⟨Below.refl _ _, none, 0, 0, rfl, chs_nil w⟩)
  go_enter Tryz.func25, Tryz.ntmps25
  go_wp2_with fail
  go_loopw [5, 6] (fun lv iv wr => ∃ i : Nat, i ≤ n ∧ iv = .int .i64 i ∧ Hid (MgI w (a.take i) lv wr)) (fun _ iv _ => n - (intOf iv).toNat)
  case atStart => exact ⟨0, Nat.zero_le _, rfl, HI⟩
  case round =>
    clear HI
    obtain ⟨i, hi, rfl, HI⟩ := hrel
    have hna := HSa.out
    have hnb := HSb.out
    by_cases hlt : i < n
    · have e1 : (i : Int) < (n : Int) := by omega
      have HD := Lib.hid (show ∀ d ∈ (a.take i), SmG d from fun d hd => by
        exact HZa.out d (List.mem_of_mem_take hd))
      have HF := Lib.hid (fold_ok HD.out)
      have HLl := Lib.hid (show ((a.take i)).length ≤ 20000 from by rw [List.length_take]; omega)
      obtain ⟨xo, xk, xc, hv, hat⟩ := HI.out.row
      subst hv
      have HAt := Lib.hid hat
      clear hat
      obtain ⟨bb, off, hao, hcs⟩ := HLa.out.2.2.2.1 (by omega)
      subst hao
      have HC := Lib.hid (show ∀ V, Below w.heap.size w V → At8 V bb (off + i * 8) (gA a i) from fun V hV => by
        obtain ⟨b', o', e', hc⟩ := (HLa.out.below hV).2.2.2.1 (by omega)
        cases e'
        exact hc.at8 (by rw [HNa.out]; exact hlt))
      have HNx := Lib.hid (show ((a.take (i + 1))).foldl addG [] = addG (((a.take i)).foldl addG []) (gA a i) from by rw [take_g a i (by rw [HNa.out]; exact hlt), List.foldl_append]; rfl)
      obtain ⟨g, hg⟩ : ∃ x, gA a i = x := ⟨_, rfl⟩
      have HGz := Lib.hid (show SmG g from by rw [← hg]; exact HZa.out _ (g_mem (by rw [HNa.out]; exact hlt)))
      rw [hg] at HC HNx
      clear hg hcs
      have HAd := Lib.hid (fun V (hV : ChsAt V xo xk xc (((a.take i)).foldl addG [])) (hM : MaxOk V) => added_s xo xk xc _ g V hV HF.out.2.2.1 HGz.out HF.out.2.1 (by have h1 := hV.1; have h2 := HF.out.2.2.2; have h3 := HLl.out; omega) HF.out.1 hM)
      obtain ⟨⟨t, s, q⟩, op, id, nm, ak, vl⟩ := g
      rw [chV_is] at HAd
      obtain ⟨c0, c1, c2, c3, c4, c5, c6, c7⟩ := HC.out _ HI.out.low
      dsimp only at c0 c1 c2 c3 c4 c5 c6 c7
      go_wp2_with fail
      refine (HAd.out _ HAt.out (HM.out.far HI.out.low)).mono ?_
      rintro e w2 ⟨yo, yk, yc, rfl, hat2, hbl⟩
      have HX := Lib.hid (show MgI w (a.take (i + 1)) (.slice yo yk yc) w2 from ⟨HI.out.low.trans (hbl.mono HI.out.low.size), yo, yk, yc, rfl, by rw [HNx.out]; exact hat2⟩)
      clear hat2 hbl c0 c1 c2 c3 c4 c5 c6 c7
      go_wp2_with fail
      go_roundw
      case rel => exact ⟨i + 1, by omega, by go_num, HX⟩
      case measure => simp [intOf]; omega
    · have e1 : ¬ (i : Int) < (n : Int) := by omega
      obtain rfl : i = n := by omega
      have HE := Lib.hid (show a.take i = a from List.take_of_length_le (by rw [HNa.out]; exact Nat.le_refl _))
      have HI := Lib.hid (show MgI w (a ++ b.take 0) _ _ from by have h := HI.out; rw [HE.out] at h; rw [List.take_zero, List.append_nil]; exact h)
      clear HE hlt hi e1
      go_wp2_with fail
      go_loopw [5, 7] (fun lv iv wr => ∃ i : Nat, i ≤ m ∧ iv = .int .i64 i ∧ Hid (MgI w (a ++ b.take i) lv wr)) (fun _ iv _ => m - (intOf iv).toNat)
      case atStart => exact ⟨0, Nat.zero_le _, rfl, HI⟩
      case round =>
        clear HI
        obtain ⟨i, hi, rfl, HI⟩ := hrel
        have hna := HSa.out
        have hnb := HSb.out
        by_cases hlt : i < m
        · have e1 : (i : Int) < (m : Int) := by omega
          have HD := Lib.hid (show ∀ d ∈ (a ++ b.take i), SmG d from fun d hd => by
            rcases List.mem_append.1 hd with k | k
            · exact HZa.out d k
            · exact HZb.out d (List.mem_of_mem_take k))
          have HF := Lib.hid (fold_ok HD.out)
          have HLl := Lib.hid (show ((a ++ b.take i)).length ≤ 20000 from by rw [List.length_append, List.length_take, HNa.out]; omega)
          obtain ⟨xo, xk, xc, hv, hat⟩ := HI.out.row
          subst hv
          have HAt := Lib.hid hat
          clear hat
          obtain ⟨bb, off, hao, hcs⟩ := HLb.out.2.2.2.1 (by omega)
          subst hao
          have HC := Lib.hid (show ∀ V, Below w.heap.size w V → At8 V bb (off + i * 8) (gA b i) from fun V hV => by
            obtain ⟨b', o', e', hc⟩ := (HLb.out.below hV).2.2.2.1 (by omega)
            cases e'
            exact hc.at8 (by rw [HNb.out]; exact hlt))
          have HNx := Lib.hid (show ((a ++ b.take (i + 1))).foldl addG [] = addG (((a ++ b.take i)).foldl addG []) (gA b i) from by rw [take_g b i (by rw [HNb.out]; exact hlt), ← List.append_assoc, List.foldl_append]; rfl)
          obtain ⟨g, hg⟩ : ∃ x, gA b i = x := ⟨_, rfl⟩
          have HGz := Lib.hid (show SmG g from by rw [← hg]; exact HZb.out _ (g_mem (by rw [HNb.out]; exact hlt)))
          rw [hg] at HC HNx
          clear hg hcs
          have HAd := Lib.hid (fun V (hV : ChsAt V xo xk xc (((a ++ b.take i)).foldl addG [])) (hM : MaxOk V) => added_s xo xk xc _ g V hV HF.out.2.2.1 HGz.out HF.out.2.1 (by have h1 := hV.1; have h2 := HF.out.2.2.2; have h3 := HLl.out; omega) HF.out.1 hM)
          obtain ⟨⟨t, s, q⟩, op, id, nm, ak, vl⟩ := g
          rw [chV_is] at HAd
          obtain ⟨c0, c1, c2, c3, c4, c5, c6, c7⟩ := HC.out _ HI.out.low
          dsimp only at c0 c1 c2 c3 c4 c5 c6 c7
          go_wp2_with fail
          refine (HAd.out _ HAt.out (HM.out.far HI.out.low)).mono ?_
          rintro e w2 ⟨yo, yk, yc, rfl, hat2, hbl⟩
          have HX := Lib.hid (show MgI w (a ++ b.take (i + 1)) (.slice yo yk yc) w2 from ⟨HI.out.low.trans (hbl.mono HI.out.low.size), yo, yk, yc, rfl, by rw [HNx.out]; exact hat2⟩)
          clear hat2 hbl c0 c1 c2 c3 c4 c5 c6 c7
          go_wp2_with fail
          go_roundw
          case rel => exact ⟨i + 1, by omega, by go_num, HX⟩
          case measure => simp [intOf]; omega
        · have e1 : ¬ (i : Int) < (m : Int) := by omega
          obtain rfl : i = m := by omega
          have HE := Lib.hid (show b.take i = b from List.take_of_length_le (by rw [HNb.out]; exact Nat.le_refl _))
          obtain ⟨xo, xk, xc, hv, hat⟩ := HI.out.row
          subst hv
          have HAt := Lib.hid (show ChsAt _ xo xk xc (mergeG a b) from by rw [HE.out] at hat; exact hat)
          clear hat
          go_wp2_with fail
          go_ret
          exact ⟨_, _, _, rfl, HAt.out, HI.out.low⟩
end Go.Proofs.YtbkignlbcneddaaGreatDoor
end

section
/-
  A map whose keys are structs, that a call has made, its elements held as they are: look-up, store; at change sequence numbers and at pairs. Condition: keys of the range of int, strings of a string's length, fewer than 2^62 entries.
-/
set_option maxRecDepth 100000
namespace Go.Proofs.YtbkignlbcneddaaGreatDoor
open Go.RowKit Go.PlainAid Go.Maps
open Csn (Cn cnV)
/-- the keys of a map: their values, what they read as, which of them may be stored -/
structure KeyK (κ : Type) (k : TypeId) where
  law : Keyed Tryz.prog k
  val : κ → Value
  lit : κ → Lit
  dom : κ → Prop
  inj : ∀ x y, val x = val y → x = y
  reads : ∀ x, dom x → keyOf Tryz.prog k (val x) = some (lit x)
theorem KeyK.one {κ : Type} {k : TypeId} (K : KeyK κ k) {x y : κ} (hx : K.dom x) (hy : K.dom y) (h : K.lit x = K.lit y) : x = y :=
  K.inj x y (K.law.inj (K.reads x hx) (h ▸ K.reads y hy))
def rawH (v : Value) : Option (DataW Value × List MemPlace) := some (.held v, [])
/-- block b is a map of at most n entries that holds f x at the key x -/
def KMap {κ : Type} {k : TypeId} (K : KeyK κ k) (w : World) (b n : Nat) (f : κ → Option Value) : Prop :=
  ∃ D, w.ownsMap Tryz.prog k rawH b n D ∧ (∀ x, K.dom x → Maps.has D (K.lit x) = (f x).isSome ∧ ∀ v, f x = some v → ∀ z, D.atKey (K.lit x) z = .held v) ∧ ∀ l, Maps.has D l = true → ∃ x, K.dom x ∧ l = K.lit x
section
variable {κ : Type} {k : TypeId} {K : KeyK κ k}
theorem kmap_made (w : World) : KMap K (w.alloc (.map #[] 0)) w.heap.size 0 fun _ => none :=
  ⟨.map [], World.ownsMap_made w _ _ _, fun k _ => ⟨rfl, fun v h => by cases h⟩, fun l h => by cases h⟩
theorem KMap.lt {w : World} {b n : Nat} {f : κ → Option Value} (h : KMap K w b n f) : b < w.heap.size := by
  obtain ⟨D, h, _⟩ := h; exact h.lt
theorem KMap.kept {w w' : World} {b n : Nat} {f : κ → Option Value} {row : Option Nat} (h : KMap K w b n f) (hg : w.grownBy w' row) (hne : some b ≠ row) : KMap K w' b n f := by
  obtain ⟨D, h, hf⟩ := h; exact ⟨D, h.kept hg hne, hf⟩
theorem KMap.below {w w' : World} {b n : Nat} {f : κ → Option Value} {B : Nat} (h : KMap K w b n f) (hb : Below B w w') (hB : b < B) : KMap K w' b n f := by
  obtain ⟨D, ⟨es, clock, he, h1, h2⟩, hf⟩ := h
  exact ⟨D, ⟨es, clock, by rw [hb.block b hB]; exact he, h1, h2⟩, hf⟩
theorem KMap.mono {w : World} {b n m : Nat} {f : κ → Option Value} (h : KMap K w b n f) (hm : n ≤ m) : KMap K w b m f := by
  obtain ⟨D, h, hf⟩ := h; exact ⟨D, h.mono hm, hf⟩
theorem KMap.look_ok {w : World} {b n : Nat} {f : κ → Option Value} {t e : TypeId} {z : Value} (h : KMap K w b n f) (ht : Tryz.prog.underlying t = some (.map k e)) (hz : (zeroValue e).run Tryz.prog w = .ok z w) (x : κ) (hx : K.dom x) :
    (Instr.lookup t (.map (some b)) (K.val x) true).run Tryz.prog w = .ok (.tuple #[(f x).getD z, .bool (f x).isSome]) w := by
  obtain ⟨D, hm, hf, _⟩ := h
  obtain ⟨v, ps, hrun, hv⟩ := hm.look_ok K.law ht hz (zd := .held z) rfl (K.reads x hx)
  rw [hrun, (hf x hx).1]
  have hv2 : DataW.held v = D.atKey (K.lit x) (.held z) := by
    unfold rawH at hv
    simp only [Option.some.injEq, Prod.mk.injEq] at hv
    exact hv.1
  cases hfk : f x with
  | none =>
    have h0 := (hf x hx).1
    rw [hfk] at h0
    rw [atKey_of_not_has h0] at hv2
    injection hv2 with hv2
    rw [hv2]; rfl
  | some u =>
    rw [(hf x hx).2 u hfk] at hv2
    injection hv2 with hv2
    rw [hv2]; rfl
theorem KMap.look {w : World} {b n : Nat} {f : κ → Option Value} {t e : TypeId} {z : Value} (h : KMap K w b n f) (ht : Tryz.prog.underlying t = some (.map k e)) (hz : (zeroValue e).run Tryz.prog w = .ok z w) (x : κ) (hx : K.dom x) :
    (Instr.lookup t (.map (some b)) (K.val x) false).run Tryz.prog w = .ok ((f x).getD z) w := by
  obtain ⟨D, hm, hf, _⟩ := h
  obtain ⟨v, ps, hrun, hv⟩ := hm.lookup K.law ht hz (zd := .held z) rfl (K.reads x hx)
  rw [hrun]
  have hv2 : DataW.held v = D.atKey (K.lit x) (.held z) := by
    unfold rawH at hv
    simp only [Option.some.injEq, Prod.mk.injEq] at hv
    exact hv.1
  cases hfk : f x with
  | none =>
    have h0 := (hf x hx).1
    rw [hfk] at h0
    rw [atKey_of_not_has h0] at hv2
    injection hv2 with hv2
    rw [hv2]; rfl
  | some u =>
    rw [(hf x hx).2 u hfk] at hv2
    injection hv2 with hv2
    rw [hv2]; rfl
def setF [DecidableEq κ] (f : κ → Option Value) (x : κ) (v : Value) (j : κ) : Option Value := if j = x then some v else f j
theorem KMap.store [DecidableEq κ] {w : World} {b n : Nat} {f : κ → Option Value} {t e : TypeId} (h : KMap K w b n f) (ht : Tryz.prog.underlying t = some (.map k e)) (hn : n < maxLen) (x : κ) (hx : K.dom x) (v : Value) :
    ∃ w', (Instr.mapUpdate t (.map (some b)) (K.val x) v).run Tryz.prog w = .ok () w' ∧ KMap K w' b (n + 1) (setF f x v) ∧ w.grownBy w' (some b) := by
  obtain ⟨D, hm, hf, hd⟩ := h
  have hk := K.law.key (K.reads x hx)
  obtain ⟨w', hrun, hm', hg⟩ := hm.update K.law ht hn (K.reads x hx) (val := v) (d := .held v) (ps := []) rfl
  refine ⟨w', hrun, ⟨_, hm', fun j hj => ?_, fun l hl => ?_⟩, hg⟩
  · unfold setF
    by_cases e : j = x
    · subst e
      rw [if_pos rfl]
      refine ⟨has_put_same hm.isMap hk _, fun u hu z => ?_⟩
      obtain rfl := Option.some.inj hu
      exact atKey_put_same hm.isMap hk _ _
    · rw [if_neg e]
      have hne : K.lit j ≠ K.lit x := fun h => e (K.one hj hx h)
      exact ⟨by rw [has_put_other hne]; exact (hf j hj).1, fun u hu z => by rw [atKey_put_other hne]; exact (hf j hj).2 u hu z⟩
  · by_cases e : l = K.lit x
    · exact ⟨x, hx, e⟩
    · rw [has_put_other e] at hl
      exact hd l hl
end
/-! ### change sequence numbers, pairs -/
theorem laid_ok : laidOutB Tryz.prog = true := by kernel_rfl
def InR (n : Int) : Prop := (Lit.int .i64 n).wf = true
def cnDom (c : Cn) : Prop := InR c.1 ∧ InR c.2.1 ∧ InR c.2.2
theorem cn_law : Keyed Tryz.prog 23 := Keyed.of_law (deep_law_laid laid_ok (m := 2) (by omega) (of_decide_eq_true (by kernel_rfl)) (by kernel_rfl) (by kernel_rfl))
theorem cn_reads (c : Cn) (h : cnDom c) : keyOf Tryz.prog 23 (cnV c) = some (.string (keyBytes [.int .i64 c.1, .int .i64 c.2.1, .int .i64 c.2.2])) := by
  obtain ⟨h1, h2, h3⟩ := h
  unfold InR at h1 h2 h3
  have hu := Tryz.underlying23
  have hi := Tryz.underlying3
  have hkt : Tryz.prog.keyType 23 = true := by kernel_rfl
  have hcs : Tryz.prog.cellsOf 23 = 3 := by kernel_rfl
  have hci : Tryz.prog.cellsOf 3 = 1 := by kernel_rfl
  obtain ⟨m, hm⟩ : ∃ m, Tryz.prog.types.size = m + 1 := ⟨Tryz.prog.types.size - 1, by have : 0 < Tryz.prog.types.size := of_decide_eq_true (by kernel_rfl); omega⟩
  have hf : (cnV c).formed Tryz.prog 23 = true := by simp [cnV, Value.formed, hu, hcs]
  unfold keyOf
  rw [hu]
  simp only [hkt, hf, Bool.and_self, if_true]
  have hl : Tryz.prog.keyLits (Tryz.prog.types.size + 1) 23 (cnV c).cells.toList = some [.int .i64 c.1, .int .i64 c.2.1, .int .i64 c.2.2] := by
    rw [hm]
    simp [Program.keyLits, hu, hi, hcs, hci, cnV, Value.cells, h1, h2, h3]
  rw [hl]; rfl
def cnK : KeyK Cn 23 where
  law := cn_law
  val := cnV
  lit c := .string (keyBytes [.int .i64 c.1, .int .i64 c.2.1, .int .i64 c.2.2])
  dom := cnDom
  inj x y h := by
    unfold cnV at h
    simp only [Value.agg.injEq, Array.mk.injEq, List.cons.injEq, Value.int.injEq, true_and, and_true] at h
    exact Csn.cn_ext h.1 h.2.1 h.2.2
  reads := cn_reads
abbrev Prs := ByteArray × ByteArray
def prV (p : Prs) : Value := .agg #[.string p.1, .string p.2]
def prDom (p : Prs) : Prop := p.1.size ≤ maxLen ∧ p.2.size ≤ maxLen
theorem pr_law : Keyed Tryz.prog 143 := Keyed.of_law (deep_law_laid laid_ok (m := 2) (by omega) (of_decide_eq_true (by kernel_rfl)) (by kernel_rfl) (by kernel_rfl))
theorem pr_reads (p : Prs) (h : prDom p) : keyOf Tryz.prog 143 (prV p) = some (.string (keyBytes [.string p.1.data.toList, .string p.2.data.toList])) := by
  obtain ⟨h1, h2⟩ := h
  have hu := Tryz.underlying143
  have hi := Tryz.underlying9
  have hkt : Tryz.prog.keyType 143 = true := by kernel_rfl
  have hcs : Tryz.prog.cellsOf 143 = 2 := by kernel_rfl
  have hci : Tryz.prog.cellsOf 9 = 1 := by kernel_rfl
  obtain ⟨m, hm⟩ : ∃ m, Tryz.prog.types.size = m + 1 := ⟨Tryz.prog.types.size - 1, by have : 0 < Tryz.prog.types.size := of_decide_eq_true (by kernel_rfl); omega⟩
  have hf : (prV p).formed Tryz.prog 143 = true := by simp [prV, Value.formed, hu, hcs]
  unfold keyOf
  rw [hu]
  simp only [hkt, hf, Bool.and_self, if_true]
  have hl : Tryz.prog.keyLits (Tryz.prog.types.size + 1) 143 (prV p).cells.toList = some [.string p.1.data.toList, .string p.2.data.toList] := by
    rw [hm]
    simp [Program.keyLits, hu, hi, hcs, hci, prV, Value.cells, h1, h2]
  rw [hl]; rfl
def prK : KeyK Prs 143 where
  law := pr_law
  val := prV
  lit p := .string (keyBytes [.string p.1.data.toList, .string p.2.data.toList])
  dom := prDom
  inj x y h := by
    unfold prV at h
    simp only [Value.agg.injEq, Array.mk.injEq, List.cons.injEq, Value.string.injEq, and_true] at h
    exact Prod.ext h.1 h.2
  reads := pr_reads
end Go.Proofs.YtbkignlbcneddaaGreatDoor
end
