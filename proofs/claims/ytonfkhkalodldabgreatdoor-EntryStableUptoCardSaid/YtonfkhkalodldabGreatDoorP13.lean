/-
  Texts of the schema layer and of those beneath it, joined: SchLin, SchAsc, SchMst, SchWrd, SchCln, SchTyF, SchTxt, SchTxF, SchRd, SchMay, SchFns, SchVl. Conditions stand at each contract.
-/
import Derived.Laws.OwnMore
import Derived.StillTailTactics
import Derived.Lib.Join
import Derived.Test.YtonfkhkalodldabGreatDoorP01
import Derived.Test.YtonfkhkalodldabGreatDoorP02
import Derived.Test.YtonfkhkalodldabGreatDoorP03
import Derived.Test.YtonfkhkalodldabGreatDoorP07
import Derived.Test.YtonfkhkalodldabGreatDoorP09
import Derived.Test.YtonfkhkalodldabGreatDoorP12
set_option linter.unusedVariables false
set_option linter.unusedSimpArgs false
set_option linter.unnecessarySimpa false

section
/-
  Contract of the table's lineage: the class and those above it, in a slice of the call's own. Condition: names of at most 1000000000 bytes.
-/
set_option maxRecDepth 100000
set_option maxRecDepth 100000
namespace Go.Proofs.YtonfkhkalodldabGreatDoor
open Go.RowKit Go.PlainAid
/-- the box of a class -/
def CB (W : World) (g : Nat) (a b c d : Value) : Prop :=
  (W.cell? ⟨g, 0, none⟩ = some a ∧ W.cell? ⟨g, 1, none⟩ = some b ∧ W.cell? ⟨g, 2, none⟩ = some c ∧ W.cell? ⟨g, 3, none⟩ = some d) ∧ W.frozen? ⟨g, 0, none⟩ = false ∧ W.frozen? ⟨g, 1, none⟩ = false ∧ W.frozen? ⟨g, 2, none⟩ = false ∧ W.frozen? ⟨g, 3, none⟩ = false
theorem cb_new (W : World) (a b c d : Value) (t : TypeId) : CB (W.alloc (.cells #[a, b, c, d] t)) W.heap.size a b c d := by
  have h : (W.alloc (.cells #[a, b, c, d] t)).heap[W.heap.size]? = some (.cells #[a, b, c, d] t (0, 0)) := heap_alloc_new W _
  exact ⟨⟨heap_cell h rfl, heap_cell h rfl, heap_cell h rfl, heap_cell h rfl⟩, heap_frozen h, heap_frozen h, heap_frozen h, heap_frozen h⟩
theorem CB.keep {W V : World} {g : Nat} {a b c d : Value} (h : CB W g a b c d) (e : V.heap[g]? = W.heap[g]?) : CB V g a b c d := by
  have k1 : ∀ i, V.cell? ⟨g, i, none⟩ = W.cell? ⟨g, i, none⟩ := fun i => World.cell?_of_block (a := ⟨g, i, none⟩) e
  have k2 : ∀ i, V.frozen? ⟨g, i, none⟩ = W.frozen? ⟨g, i, none⟩ := fun i => by unfold World.frozen?; rw [show V.heap[(⟨g, i, none⟩ : Addr).block]? = W.heap[(⟨g, i, none⟩ : Addr).block]? from e]
  unfold CB
  rw [k1, k1, k1, k1, k2, k2, k2, k2]; exact h
theorem CB.set {W : World} {g : Nat} {a b c d : Value} (h : CB W g a b c d) (x y z u : Value) : CB ((((W.setCell ⟨g, 0, none⟩ x).setCell ⟨g, 1, none⟩ y).setCell ⟨g, 2, none⟩ z).setCell ⟨g, 3, none⟩ u) g x y z u := by
  obtain ⟨⟨h0, h1, h2, h3⟩, f0, f1, f2, f3⟩ := h
  have ne : ∀ i j : Nat, i ≠ j → (⟨g, i, none⟩ : Addr) ≠ ⟨g, j, none⟩ := fun i j hij e => hij (by injection e)
  refine ⟨⟨?_, ?_, ?_, ?_⟩, ?_, ?_, ?_, ?_⟩
  · rw [World.cell?_setCell_other _ _ _ _ (ne 3 0 (by decide)), World.cell?_setCell_other _ _ _ _ (ne 2 0 (by decide)), World.cell?_setCell_other _ _ _ _ (ne 1 0 (by decide))]
    exact World.cell?_setCell_same _ _ _ h0
  · rw [World.cell?_setCell_other _ _ _ _ (ne 3 1 (by decide)), World.cell?_setCell_other _ _ _ _ (ne 2 1 (by decide))]
    exact World.cell?_setCell_same _ _ _ ((World.cell?_setCell_other _ _ _ _ (ne 0 1 (by decide))).trans h1)
  · rw [World.cell?_setCell_other _ _ _ _ (ne 3 2 (by decide))]
    exact World.cell?_setCell_same _ _ _ (((World.cell?_setCell_other _ _ _ _ (ne 1 2 (by decide))).trans (World.cell?_setCell_other _ _ _ _ (ne 0 2 (by decide)))).trans h2)
  · exact World.cell?_setCell_same _ _ _ ((((World.cell?_setCell_other _ _ _ _ (ne 2 3 (by decide))).trans (World.cell?_setCell_other _ _ _ _ (ne 1 3 (by decide)))).trans (World.cell?_setCell_other _ _ _ _ (ne 0 3 (by decide)))).trans h3)
  all_goals simp only [World.frozen?_setCell]; assumption
theorem grown_set4 (W : World) (g : Nat) (x y z u : Value) : W.grownBy ((((W.setCell ⟨g, 0, none⟩ x).setCell ⟨g, 1, none⟩ y).setCell ⟨g, 2, none⟩ z).setCell ⟨g, 3, none⟩ u) (some g) :=
  grown_two (grown_set W g 0 x) (grown_two (grown_set _ g 1 y) (grown_two (grown_set _ g 2 z) (grown_set _ g 3 u)))
def lenOf : Value → Nat | .slice _ n _ => n | _ => 0
/-- what the lineage's loop holds -/
structure LAt (w0 w W : World) (mt mc : Option Nat) (cs : List Cl) (n : ByteArray) (l : List Cv) (u : Value) (cur : ByteArray) (g : Nat) (c : Cl) (a1 : Option Addr) (p1 q1 : Nat) (a2 : Option Addr) (p2 q2 : Nat) (b : Bool) : Prop where
  own : W.ownsRow (w.heap.size + 1) 106 4 u l.length (ccells l)
  ok : ∀ d ∈ l, CvOk w0 d
  all : ccls l ++ lineS cs cur = lineS cs n
  got : ClGot w0 cs cur ⟨c, .slice a1 p1 q1, .slice a2 p2 q2⟩
  is : (clOf cs cur).isSome = b
  box : CB W g (.string c.name) (.string c.super) (.slice a1 p1 q1) (.slice a2 p2 q2)
  far : u.ownBlock ≠ some g
  high : w.heap.size + 1 ≤ g
  lt : g < W.heap.size
  m0 : W.cell? ⟨w.heap.size, 0, none⟩ = some (.map mt)
  m1 : W.cell? ⟨w.heap.size, 1, none⟩ = some (.map mc)
  low : Below w.heap.size w W
  big : w.heap.size < W.heap.size
theorem own_slc {w : World} {base n size : Nat} {e : TypeId} {v : Value} {xs : List Value} (h : w.ownsRow base e size v n xs) : ∃ ao cap, v = .slice ao n cap := by
  rcases h.2 with ⟨rfl, h0⟩ | ⟨g, cap, cur, rfl, _⟩
  · exact ⟨none, 0, by rw [h0]⟩
  · exact ⟨_, cap, rfl⟩
/-- a class's name and its superclass are small -/
theorem ClGot.small {w0 : World} {cs : List Cl} {n : ByteArray} {d : Cv} (h : ClGot w0 cs n d) (hz : SmC cs) : d.cl.super.size ≤ 1000000000 := by
  cases e : clOf cs n with
  | none => rw [h.1 e]; exact Nat.zero_le _
  | some c => rw [(h.2 c e).1]; exact (hz c (clOf_mem e)).2.1
theorem lat_box {w0 w W V : World} {mt mc : Option Nat} {cs : List Cl} {n cur : ByteArray} {l : List Cv} {u : Value} {g : Nat} {c : Cl} {a1 a2 : Option Addr} {p1 q1 p2 q2 : Nat} {b : Bool} {o : Obj} (h : LAt w0 w W mt mc cs n l u cur g c a1 p1 q1 a2 p2 q2 b) (hg : (W.alloc o).grownBy V u.ownBlock) :
    CB V g (.string c.name) (.string c.super) (.slice a1 p1 q1) (.slice a2 p2 q2) ∧ V.cell? ⟨w.heap.size, 0, none⟩ = some (.map mt) ∧ V.cell? ⟨w.heap.size, 1, none⟩ = some (.map mc) ∧ Below w.heap.size w V ∧ W.heap.size < V.heap.size := by
  have hal := (Below.refl W.heap.size W).alloc (Nat.le_refl _) o
  have hne : ∀ k, k ≤ w.heap.size → some k ≠ u.ownBlock := fun k hk e => by have := (h.own.lt k e.symm).1; omega
  refine ⟨h.box.keep ((hg.block g (by have := h.lt; simp; omega) (fun e => h.far e.symm)).trans (heap_old h.lt)), ?_, ?_, (h.low.trans (hal.mono (Nat.le_of_lt h.big))).grown hg (by have := h.big; simp; omega) (fun k e => by have := (h.own.lt k e).1; omega), by have := hg.size; simp at this; omega⟩
  · exact (hg.cell (cell_later hal h.m0) (fun e => hne _ (Nat.le_refl _) e))
  · exact (hg.cell (cell_later hal h.m1) (fun e => hne _ (Nat.le_refl _) e))
set_option maxHeartbeats 8000000 in
theorem lineage_s (mt mc : Option Nat) (w0 : World) (cs : List Cl) (n : ByteArray) (w : World) (h : CMap w0 w mc cs) (hS : SoundC cs) (hL : cs.length ≤ 1000) (hZ : SmC cs) (hn : n.size ≤ 1000000000) :
    Calls Tryz.prog 120 #[.agg #[.map mt, .map mc], .string n] w fun e w' => ∃ (u : Value) (l : List Cv), e = .returned u ∧ ccls l = lineS cs n ∧ (∀ d ∈ l, CvOk w0 d) ∧ w'.ownsRow (w.heap.size + 1) 106 4 u l.length (ccells l) ∧ Below w.heap.size w w' := by
  have HS := Lib.hid hS; have HZ := Lib.hid hZ
  have HC := Lib.hid (fun (n : ByteArray) (W : World) (hn : n.size ≤ 1000000000) (hW : Below w.heap.size w W) => class_s mt mc w0 cs n W (h.below hW) hn)
  clear h hS hZ
  have HB0 : Hid (Below w.heap.size w (w.alloc (.cells #[.map mt, .map mc] 88))) := Lib.hid ((Below.refl _ _).alloc (Nat.le_refl _) _)
  go_enter Tryz.func120, Tryz.ntmps120
  go_wp2_with fail
  refine (HC.out n _ hn HB0.out).mono ?_
  rintro e w1 ⟨⟨c, _, _⟩, a1, p1, q1, a2, p2, q2, rfl, rfl, hg, rfl, hb⟩
  dsimp only
  obtain ⟨ok, hok⟩ : ∃ b, (clOf cs n).isSome = b := ⟨_, rfl⟩
  rw [hok]
  have hs : w.heap.size < w1.heap.size := by have := hb.size; simp at this; omega
  have hal := (Below.refl w1.heap.size w1).alloc (Nat.le_refl _) (.cells #[.string c.name, .string c.super, .slice a1 p1 q1, .slice a2 p2 q2] 106)
  have L0 : Hid (LAt w0 w (w1.alloc (.cells #[.string c.name, .string c.super, .slice a1 p1 q1, .slice a2 p2 q2] 106)) mt mc cs n [] (.slice none 0 0) n w1.heap.size c a1 p1 q1 a2 p2 q2 ok) :=
    Lib.hid ⟨World.ownsRow_nil _ _ _ _, (fun d hd => by cases hd), rfl, hg, hok, cb_new w1 _ _ _ _ _, (by simp [Value.ownBlock]), hs, by simp, cell_later hal (cell_later hb (by go_simp)), cell_later hal (cell_later hb (by go_simp)), HB0.out.trans ((hb.trans (hal.mono hb.size)).mono (by simp)), by simp; omega⟩
  clear hb hg hok HB0 hal
  go_wp2_with fail
  go_loopw [5, 6, 7] (fun s5 s6 s7 wr => ∃ (l : List Cv) (ao : Option Addr) (cap : Nat) (cur : ByteArray) (g : Nat) (c : Cl) (a1 : Option Addr) (p1 q1 : Nat) (a2 : Option Addr) (p2 q2 : Nat) (b : Bool), s5 = .slice ao l.length cap ∧ s6 = .pointer (some ⟨g, 0, none⟩) ∧ s7 = .bool b ∧ Hid (LAt w0 w wr mt mc cs n l (.slice ao l.length cap) cur g c a1 p1 q1 a2 p2 q2 b)) (fun s5 _ _ _ => cs.length + 1 - lenOf s5)
  case atStart => exact ⟨[], none, 0, n, w1.heap.size, c, a1, p1, q1, a2, p2, q2, ok, rfl, rfl, rfl, L0⟩
  case round =>
    clear L0 hs
    obtain ⟨l, ao, cap, cur, g, c, a1, p1, q1, a2, p2, q2, b, rfl, rfl, rfl, HL⟩ := hrel
    cases b
    · go_wp2_with fail
      go_ret
      have hz : clOf cs cur = none := by
        have := HL.out.is
        cases e : clOf cs cur with
        | none => rfl
        | some x => rw [e] at this; cases this
      have hall := HL.out.all
      rw [lineS_none hz, List.append_nil] at hall
      exact ⟨_, l, rfl, hall, HL.out.ok, HL.out.own, HL.out.low⟩
    · obtain ⟨cc, hcc⟩ : ∃ cc, clOf cs cur = some cc := by
        have := HL.out.is
        cases e : clOf cs cur with
        | none => rw [e] at this; cases this
        | some x => exact ⟨x, rfl⟩
      obtain ⟨hcl, hok⟩ := HL.out.got.2 cc hcc
      simp only at hcl
      subst hcl
      have hstep := lineS_step HS.out hcc
      have hlen : l.length + 1 ≤ cs.length := by
        have h1 := lineS_small HS.out n
        rw [← HL.out.all, List.length_append, ccls_len, hstep, List.length_cons] at h1
        omega
      have hall : ccls (l ++ [⟨c, .slice a1 p1 q1, .slice a2 p2 q2⟩]) ++ lineS cs c.super = lineS cs n := by
        rw [ccls_snoc, List.append_assoc, ← HL.out.all, hstep]; rfl
      have hsz := (HZ.out c (clOf_mem hcc)).2.1
      have HOK := Lib.hid hok
      have HA := Lib.hid hall
      obtain ⟨⟨c0, c1, c2, c3⟩, f0, f1, f2, f3⟩ := HL.out.box
      have hown := HL.out.own
      have hglt := HL.out.lt
      have hbig := HL.out.big
      have m0 := HL.out.m0
      have m1 := HL.out.m1
      clear hok hall hstep f0 f1 f2 f3
      have HM := Lib.hid (And.intro m0 m1)
      clear m0 m1
      go_wp2_with (at_builtin; go_must (refine push_class wr hown (.tmp 22) (.tmp 24) ⟨c, .slice a1 p1 q1, .slice a2 p2 q2⟩ HOK.out ?_ ?_ ?_ ?_ ?_ ?_ ?_; exact rfl; exact rfl; exact rfl; exact rfl; omega; exact hbig; intro v3 w3 hown3 hg3 hl3; obtain ⟨⟨⟨k0, k1, k2, k3⟩, _⟩, m0, m1, hb3, hs3⟩ := lat_box HL.out hg3; have hs3b : w.heap.size < w3.heap.size := (by omega); have hs3c : g < w3.heap.size := (by omega); have HB3 := Lib.hid hb3; have HX3 := Lib.hid (And.intro hown3 (And.intro hg3 hl3)); clear hb3 hown3 hg3 hl3 c0 c1 c2 c3))
      have hX := (Below.refl w3.heap.size w3).alloc (Nat.le_refl _) (.cells #[.string c.name, .string c.super, .slice a1 p1 q1, .slice a2 p2 q2] 106)
      have HX := Lib.hid hX; clear hX
      have HM3 := Lib.hid (And.intro m0 m1)
      obtain ⟨ao3, cap3, rfl⟩ := own_slc HX3.out.1
      refine (HC.out c.super _ hsz (HB3.out.trans (HX.out.mono (Nat.le_of_lt hs3b)))).mono ?_
      rintro e w4 ⟨⟨c', _, _⟩, a1', p1', q1', a2', p2', q2', rfl, rfl, hg', rfl, hb⟩
      dsimp only
      obtain ⟨ok', hok'⟩ : ∃ b, (clOf cs c.super).isSome = b := ⟨_, rfl⟩
      rw [hok']
      have HCB := Lib.hid (show CB w4 w3.heap.size (.string c.name) (.string c.super) (.slice a1 p1 q1) (.slice a2 p2 q2) from (cb_new w3 _ _ _ _ _).keep (hb.block _ (by simp)))
      have HG := Lib.hid (And.intro hg' hok')
      have HX4 := Lib.hid (And.intro (own_below (own_below HX3.out.1 HX.out) hb) (And.intro (cell_later hb (cell_later HX.out HM3.out.1)) (And.intro (cell_later hb (cell_later HX.out HM3.out.2)) (HB3.out.trans ((HX.out.trans (hb.mono (by simp))).mono (Nat.le_of_lt hs3b))))))
      have hs4 : w3.heap.size < w4.heap.size := by have := hb.size; simp at this; omega
      clear hb hg' hok' m0 m1 k0 k1 k2 k3
      obtain ⟨⟨e0, e1, e2, e3⟩, f0, f1, f2, f3⟩ := HCB.out
      go_wp2_with fail
      go_roundw
      case rel =>
        have hfar : ∀ q, (Value.slice ao3 (l.length + 1) cap3).ownBlock = some q → q < w3.heap.size := fun q e => (HX3.out.1.lt q e).2
        have hG4 := grown_set4 w4 w3.heap.size (.string c'.name) (.string c'.super) (.slice a1' p1' q1') (.slice a2' p2' q2')
        have hne : (Value.slice ao3 (l.length + 1) cap3).ownBlock ≠ some w3.heap.size := fun e => by have := hfar _ e; omega
        have hlen2 : (l ++ [(⟨c, .slice a1 p1 q1, .slice a2 p2 q2⟩ : Cv)]).length = l.length + 1 := by rw [List.length_append]; rfl
        refine ⟨l ++ [⟨c, .slice a1 p1 q1, .slice a2 p2 q2⟩], ao3, cap3, c.super, w3.heap.size, c', a1', p1', q1', a2', p2', q2', ok', by rw [hlen2], rfl, rfl, Lib.hid ?_⟩
        rw [hlen2]
        refine ⟨?_, ?_, HA.out, HG.out.1, HG.out.2, HCB.out.set _ _ _ _, hne, by omega, by simp only [set_size]; omega, ?_, ?_, ?_, by simp only [set_size]; omega⟩
        · rw [hlen2, ccells_snoc]
          exact HX4.out.1.kept hG4 (by
            cases h : (Value.slice ao3 (l.length + 1) cap3).ownBlock with
            | none => exact .inl rfl
            | some q => exact .inr (fun e => by rw [h] at hne; exact hne e))
        · intro d hd
          rcases List.mem_append.1 hd with h | h
          · exact HL.out.ok d h
          · rw [List.mem_singleton.1 h]; exact HOK.out
        · exact cell_turned HX4.out.2.1 hG4 (by show w.heap.size ≠ w3.heap.size; omega)
        · exact cell_turned HX4.out.2.2.1 hG4 (by show w.heap.size ≠ w3.heap.size; omega)
        · exact HX4.out.2.2.2.grown hG4 (by omega) (fun k e => by have := Option.some.inj e; omega)
      case measure => simp [lenOf]; omega
end Go.Proofs.YtonfkhkalodldabGreatDoor
end

section
/-
  Contract of schema's ascending at a slice of the call's own: what is handed back holds the different names in lower case and in order, in the same row. Condition: at most 1100000 names of at most 1000000000 bytes.
-/
set_option maxRecDepth 100000
set_option maxRecDepth 100000
namespace Go.Proofs.YtonfkhkalodldabGreatDoor
open Go.RowKit Go.PlainAid Go.Sort Go.Lib
theorem map_set (l : List ByteArray) (k : Nat) (h : k < l.length) : (scells ((l.take k).map lowS ++ l.drop k)).set k (.string (lowS (partAt l k))) = scells ((l.take (k + 1)).map lowS ++ l.drop (k + 1)) := by
  apply List.ext_getElem?
  intro j
  unfold scells
  have hlen : (l.take k).length = k := by rw [List.length_take]; omega
  have hlen2 : (l.take (k + 1)).length = k + 1 := by rw [List.length_take]; omega
  rw [List.getElem?_set]
  by_cases hj : k = j
  · subst hj
    rw [if_pos rfl, if_pos (by simp; omega), List.getElem?_map, List.getElem?_append_left (by rw [List.length_map]; omega), List.getElem?_map, List.getElem?_take, if_pos (by omega), List.getElem?_eq_getElem h]
    unfold partAt
    rw [List.getD_eq_getElem?_getD, List.getElem?_eq_getElem h]; rfl
  · rw [if_neg hj, List.getElem?_map, List.getElem?_map]
    congr 1
    rcases Nat.lt_or_ge j k with h1 | h1
    · rw [List.getElem?_append_left (by rw [List.length_map]; omega), List.getElem?_append_left (by rw [List.length_map]; omega), List.getElem?_map, List.getElem?_map, List.getElem?_take, List.getElem?_take, if_pos h1, if_pos (by omega)]
    · rw [List.getElem?_append_right (by rw [List.length_map]; omega), List.getElem?_append_right (by rw [List.length_map]; omega), List.length_map, List.length_map, hlen, hlen2, List.getElem?_drop, List.getElem?_drop]
      congr 1; omega
set_option maxHeartbeats 1000000 in
theorem sortc {base g cap : Nat} {l : List ByteArray} {w : World} (hown : w.ownsRow base 9 1 (.slice (some ⟨g, 0, none⟩) l.length cap) l.length (scells l)) (hn : l.length ≤ 1100000) :
    ∃ ts : List (List UInt8), (Calls Tryz.prog 16 #[.slice (some ⟨g, 0, none⟩) l.length cap] w fun e w' => e = .returned (.tuple #[]) ∧ ∃ m os, w' = grow (putRow encStr (Sort.ahead w m) g 0 ts.toArray) os) ∧
      ∀ (m : Nat) (os : Array Obj), Calls Tryz.prog 75 #[.slice (some ⟨g, 0, none⟩) l.length cap] (grow (putRow encStr (Sort.ahead w m) g 0 ts.toArray) os) fun e w' =>
        e = .returned (.slice (some ⟨g, 0, none⟩) (sortU l).length cap) ∧ w'.ownsRow base 9 1 (.slice (some ⟨g, 0, none⟩) (sortU l).length cap) (sortU l).length (scells (sortU l)) ∧ w.grownBy w' (some g) := by
  rcases hown.2 with ⟨h2, _⟩ | ⟨g', cap', cur, h2, hg, hb, hc, hm, hcs, ht⟩
  · cases h2
  · simp only [Value.slice.injEq, Option.some.injEq, Addr.mk.injEq, and_true] at h2
    obtain ⟨rfl, _, rfl⟩ := h2
    obtain ⟨ss, hss⟩ : ∃ ss, (l.map fun s => s.data.toList) = ss := ⟨_, rfl⟩
    have hsl : ss.length = l.length := by rw [← hss, List.length_map]
    have hgl : g < w.heap.size := by
      rcases Nat.lt_or_ge g w.heap.size with h' | h'
      · exact h'
      · simp [Array.getElem?_eq_none h'] at hb
    have hH : Holds encStr w g 0 ss.toArray := holds_of_block hb (by rw [hsl, ← hss, ← cells_enc]; simpa using ht)
    obtain ⟨ts, hts⟩ : ∃ ts, (ss.mergeSort fun x y => decide (x ≤ y)) = ts := ⟨_, rfl⟩
    have htl : ts.length = ss.length := by rw [← hts]; exact sort_len ss
    obtain ⟨cs, hcs'⟩ : ∃ cs, compact ts = cs := ⟨_, rfl⟩
    have hcl : cs.length ≤ ts.length := by rw [← hcs']; exact comp_le ts
    have HE : cs.map toB = sortU l := (by rw [← hcs', ← hts, ← hss]; exact compact_sorted l)
    have hS := AnyM.slices_Sort_string Tryz.sort g 0 cap ss w hH hgl (by omega)
    rw [hsl, hts] at hS
    have hC : ∀ (m : Nat) (os : Array Obj), Calls Tryz.prog 75 #[.slice (some ⟨g, 0, none⟩) l.length cap] (grow (putRow encStr (Sort.ahead w m) g 0 ts.toArray) os) fun e w' =>
        e = .returned (.slice (some ⟨g, 0, none⟩) cs.length cap) ∧ w'.ownsRow base 9 1 (.slice (some ⟨g, 0, none⟩) cs.length cap) cs.length (scells (cs.map toB)) ∧ w.grownBy w' (some g) := by
      intro m os
      have ho1 := ownsRow_sorted (w := w) (n := m) (os := os) (ss := ss) (ts := ts) htl hg hb (by omega) hm (by omega)
      obtain ⟨_, h2⟩ := ho1
      rcases h2 with ⟨h2, _⟩ | ⟨g', cap', cur', h2, _, hb', _, _, hcs2, ht'⟩
      · cases h2
      · simp only [Value.slice.injEq, Option.some.injEq, Addr.mk.injEq, and_true] at h2
        obtain ⟨rfl, _, rfl⟩ := h2
        have hH2 := holds_of_block (ss := ts) hb' (by rw [htl]; simpa using ht')
        have h := AnyG.slices_Compact_string Tryz.compact g 0 cap ts _ hH2 (by omega) (by omega)
        rw [hcs', show ts.length = l.length by omega] at h
        refine h.mono ?_
        rintro e w' ⟨rfl, q, rfl⟩
        refine ⟨rfl, ?_, ?_⟩
        · obtain ⟨W1, hW1⟩ : ∃ W1, grow (putRow encStr (Sort.ahead w m) g 0 ts.toArray) os = W1 := ⟨_, rfl⟩
          rw [hW1] at hb' ⊢
          have ho2 := ownsRow_sorted (n := q) (os := #[]) (ss := ts) (ts := cs ++ List.replicate (l.length - cs.length) []) (by rw [List.length_append, List.length_replicate]; omega) hg hb' (by omega) hm (by omega)
          rw [grow_none] at ho2
          rcases ho2.2 with ⟨h2, _⟩ | ⟨g', cap', cur'', h2, _, hb'', _, _, hcs3, ht''⟩
          · cases h2
          · simp only [Value.slice.injEq, Option.some.injEq, Addr.mk.injEq, and_true] at h2
            obtain ⟨rfl, _, rfl⟩ := h2
            refine ⟨by simp [scells], .inr ⟨g, cap, cur'', rfl, hg, hb'', by omega, hm, hcs3, ?_⟩⟩
            rw [← enc_cells, Nat.mul_one]
            rw [Nat.mul_one] at ht''
            have h3 := congrArg (List.take cs.length) ht''
            rw [List.take_take, Nat.min_eq_left (by omega), List.map_append, List.take_append_of_le_length (by simp), ← List.map_take, List.take_length] at h3
            exact h3
        · have h1 := grownBy_sorted (w := w) (g := g) (n := m) (os := os) ts.toArray
          have h2 := grownBy_sorted (w := grow (putRow encStr (Sort.ahead w m) g 0 ts.toArray) os) (g := g) (n := q) (os := #[]) (cs ++ List.replicate (l.length - cs.length) []).toArray
          rw [grow_none] at h2
          exact grown_two h1 h2
    refine ⟨ts, hS, fun m os => (hC m os).mono ?_⟩
    rintro e w' ⟨rfl, h1, h3⟩
    have hcl2 : (sortU l).length = cs.length := by rw [← HE, List.length_map]
    rw [hcl2, ← HE]
    exact ⟨rfl, h1, h3⟩
set_option maxHeartbeats 4000000 in
theorem ascendingF_s (base n : Nat) (v : Value) (l : List ByteArray) (w : World) (hown : w.ownsRow base 9 1 v n (scells l)) (hl : l.length = n) (hn : n ≤ 1100000) (hz : ∀ s ∈ l, s.size ≤ 1000000000) (hbase : base ≤ w.heap.size) :
    Calls Tryz.prog 121 #[v] w fun e w' => ∃ u, e = .returned u ∧ w'.ownsRow base 9 1 u (sortU (l.map lowS)).length (scells (sortU (l.map lowS))) ∧ Below base w w' := by
  rcases hown.2 with ⟨rfl, h0⟩ | ⟨g, cap, cur, rfl, hg, hb, hc, hm, hcs, ht⟩
  · subst h0
    have hl0 : l = [] := List.length_eq_zero_iff.1 hl
    subst hl0
    go_enter Tryz.func121, Tryz.ntmps121
    go_wp2_with fail
    refine wp_loop_rounds 1 ?_
    rw [rounds_succ]
    go_wp2_with fail
    refine (AnyM.slices_Sort_string_none Tryz.sort none 0 _).mono ?_
    rintro e w1 ⟨rfl, rfl⟩
    go_wp2_with fail
    refine (AnyG.slices_Compact_string_empty Tryz.compact none 0 _).mono ?_
    rintro e w1 ⟨rfl, rfl⟩
    go_wp2_with fail
    go_ret
    exact ⟨_, rfl, World.ownsRow_nil _ _ _ _, Below.refl _ _⟩
  · subst hl
    have HZ := Lib.hid hz; clear hz
    have HO := Lib.hid hown
    clear hown hb hc hcs ht
    go_enter Tryz.func121, Tryz.ntmps121
    go_wp2
    go_loopw [3, 4, 7] (fun s3 s4 i wr => ∃ k : Nat, k ≤ l.length ∧ i = .int .i64 k ∧ Hid (wr.ownsRow base 9 1 (.slice (some ⟨g, 0, none⟩) l.length cap) l.length (scells ((l.take k).map lowS ++ l.drop k))) ∧ Hid (Below base w wr ∧ base ≤ wr.heap.size)) (fun _ _ i _ => l.length - (intOf i).toNat)
    case atStart => exact ⟨0, Nat.zero_le _, rfl, HO, Lib.hid ⟨Below.refl _ _, hbase⟩⟩
    case round =>
      obtain ⟨k, hk, rfl, HR, HB⟩ := hrel
      by_cases hlt : k < l.length
      · have d1 : (k : Int) < (l.length : Int) := by omega
        have c0 : wr.cell? ⟨g, k, none⟩ = some (.string (partAt l k)) := by
          have := HR.out.cells (g := g) rfl k (.string (partAt l k)) (by
            unfold scells
            have hlen : (l.take k).length = k := by rw [List.length_take]; omega
            rw [List.getElem?_map, List.getElem?_append_right (by rw [List.length_map]; omega), List.length_map, hlen, List.getElem?_drop, Nat.sub_self, Nat.add_zero, List.getElem?_eq_getElem hlt]
            unfold partAt
            rw [List.getD_eq_getElem?_getD, List.getElem?_eq_getElem hlt]; rfl)
          rwa [Go.WideShapes.add_plain, Nat.zero_add] at this
        have hps := HZ.out _ (part_mem l k hlt)
        have HM := Lib.hid (map_set l k hlt)
        obtain ⟨p, hp⟩ : ∃ p, partAt l k = p := ⟨_, rfl⟩
        rw [hp] at c0 hps HM
        clear hp
        go_wp2_with fail
        refine (lower_s p _ hps).mono ?_
        rintro e w1 ⟨rfl, hb⟩
        have c1 := cell_later hb c0
        have HR1 := Lib.hid (own_below HR.out hb)
        have f1 : w1.frozen? ⟨g, k, none⟩ = false := HR1.out.frozenAt _
        have HB1 := Lib.hid (show Below base w w1 ∧ base ≤ w1.heap.size from ⟨HB.out.1.trans (hb.mono HB.out.2), Nat.le_trans HB.out.2 hb.size⟩)
        clear hb c0
        go_wp2_with fail
        go_roundw
        case rel =>
          refine ⟨k + 1, by omega, by go_num, Lib.hid ?_, Lib.hid ⟨below_set1 HB1.out.1 g k hg _, by rw [set_size]; exact HB1.out.2⟩⟩
          rw [← HM.out]
          exact (HR1.out.stored k _).1
        case measure => simp [intOf]; omega
      · obtain rfl : k = l.length := by omega
        have d1 : ¬ (l.length : Int) < (l.length : Int) := by omega
        rw [List.take_length, List.drop_length, List.append_nil] at HR
        have hll : (l.map lowS).length = l.length := List.length_map _
        have hown2 := HR.out
        rw [← hll] at hown2
        obtain ⟨ts, hS, hC⟩ := sortc hown2 (by rw [hll]; omega)
        rw [hll] at hS hC
        have HS := Lib.hid hS
        have HC := Lib.hid hC
        clear hS hC hown2
        go_wp2_with fail
        refine HS.out.mono ?_
        rintro e w1 ⟨rfl, m, os, rfl⟩
        go_wp2_with fail
        refine (HC.out m os).mono ?_
        rintro e w1 ⟨rfl, ho, hg2⟩
        go_wp2_with fail
        go_ret
        exact ⟨_, rfl, ho, HB.out.1.grown hg2 HB.out.2 (fun q e => by have := Option.some.inj e; omega)⟩
end Go.Proofs.YtonfkhkalodldabGreatDoor
end

section
/-
  Contracts of the table's must and may. Condition: names of at most 1000000000 bytes, lists of at most 64 names.
-/
set_option maxRecDepth 100000
set_option maxRecDepth 100000
namespace Go.Proofs.YtonfkhkalodldabGreatDoor
open Go.RowKit Go.PlainAid
/-- the lists of the classes are short -/
def FewC (cs : List Cl) : Prop := ∀ c ∈ cs, c.must.length ≤ 64 ∧ c.may.length ≤ 64
theorem fewC_sound (ts : List Ty) (cs : List Cl) : FewC (soundC ts cs) := by
  intro c hc
  have hs : chkS ts cs = 0 := by
    unfold soundC at hc
    split at hc
    · assumption
    · cases hc
  have he : soundC ts cs = cs := if_pos hs
  rw [he] at hc
  obtain ⟨k, hk, rfl⟩ := mem_cl hc
  have h := hs
  unfold chkS at h
  split at h
  · cases h
  · split at h
    · exact absurd h ‹_›
    · split at h
      · exact absurd h ‹_›
      · rename_i h3
        have h0 := firstE_none (Classical.not_not.1 h3) k hk
        unfold errC at h0
        split at h0
        · cases h0
        · split at h0
          · cases h0
          · split at h0
            · cases h0
            · split at h0
              · cases h0
              · rename_i h4; omega
theorem smC_sound {ts : List Ty} {cs : List Cl} (h : SmC cs) : SmC (soundC ts cs) := by
  unfold soundC
  split
  · exact h
  · intro c hc; cases hc
def mustL (l : List Cl) : List ByteArray := l.flatMap fun c => c.must
def mayL (l : List Cl) : List ByteArray := l.flatMap fun c => c.may
theorem mustL_snoc (l : List Cl) (c : Cl) : mustL (l ++ [c]) = mustL l ++ c.must := by simp [mustL]
theorem mayL_snoc (l : List Cl) (c : Cl) : mayL (l ++ [c]) = mayL l ++ c.may := by simp [mayL]
theorem flat_few {f : Cl → List ByteArray} : ∀ {l : List Cl}, (∀ c ∈ l, (f c).length ≤ 64) → (l.flatMap f).length ≤ l.length * 64
  | [], _ => Nat.zero_le _
  | c :: l, h => by
    rw [List.flatMap_cons, List.length_append, List.length_cons]
    have h1 := h c (List.mem_cons_self ..)
    have h2 := flat_few (f := f) (l := l) (fun d hd => h d (List.mem_cons_of_mem _ hd))
    omega
/-- the cells of the class j of a slice of the call's own -/
theorem cls_at {w : World} {base n : Nat} {g cap : Nat} {l : List Cv} (h : w.ownsRow base 106 4 (.slice (some ⟨g, 0, none⟩) n cap) n (ccells l)) (j : Nat) (hj : j < l.length) :
    w.cell? ⟨g, j * 4, none⟩ = some (.string (l.getD j default).cl.name) ∧ w.cell? ⟨g, j * 4 + 1, none⟩ = some (.string (l.getD j default).cl.super) ∧ w.cell? ⟨g, j * 4 + 2, none⟩ = some (l.getD j default).hm ∧ w.cell? ⟨g, j * 4 + 3, none⟩ = some (l.getD j default).hy := by
  have key : ∀ i u, i < 4 → (cvC (l.getD j default))[i]? = some u → w.cell? ⟨g, j * 4 + i, none⟩ = some u := fun i u hi hu => by
    have := h.cells (g := g) rfl (j * 4 + i) u ((flat_at cvC 4 (fun _ => rfl) default l j i hj hi).trans hu)
    rwa [Go.WideShapes.add_plain, Nat.zero_add] at this
  exact ⟨key 0 _ (by omega) rfl, key 1 _ (by omega) rfl, key 2 _ (by omega) rfl, key 3 _ (by omega) rfl⟩
theorem cv_take (l : List Cv) (k : Nat) (h : k < l.length) : l.take (k + 1) = l.take k ++ [l.getD k default] := by
  rw [List.getD_eq_getElem?_getD, List.getElem?_eq_getElem h]; exact List.take_succ_eq_append_getElem h
theorem cv_mem (l : List Cv) (k : Nat) (h : k < l.length) : l.getD k default ∈ l := by
  rw [List.getD_eq_getElem?_getD, List.getElem?_eq_getElem h]; exact List.getElem_mem h
theorem own_loc {w : World} {base n size : Nat} {e : TypeId} {v : Value} {xs : List Value} (h : w.ownsRow base e size v n xs) (hn : 0 < n) : ∃ g cap, v = .slice (some ⟨g, 0, none⟩) n cap ∧ base ≤ g ∧ g < w.heap.size := by
  rcases h.2 with ⟨rfl, h0⟩ | ⟨g, cap, cur, rfl, _⟩
  · omega
  · exact ⟨g, cap, rfl, h.lt g rfl⟩
theorem scells_app (a b : List ByteArray) : scells (a ++ b) = scells a ++ scells b := List.map_append
set_option maxHeartbeats 8000000 in
theorem must_s (mt mc : Option Nat) (w0 : World) (cs : List Cl) (n : ByteArray) (w : World) (h0 : Below w0.heap.size w0 w) (h : CMap w0 w mc cs) (hS : SoundC cs) (hL : cs.length ≤ 1000) (hZ : SmC cs) (hF : FewC cs) (hn : n.size ≤ 1000000000) :
    Calls Tryz.prog 94 #[.agg #[.map mt, .map mc], .string n] w fun e w' => ∃ u : Value, e = .returned u ∧ w'.ownsRow (w.heap.size + 1) 9 1 u (mustS cs n).length (scells (mustS cs n)) ∧ Below w.heap.size w w' := by
  have HZ := Lib.hid hZ; have HF := Lib.hid hF; have H0 := Lib.hid h0
  have hB0 : Below w.heap.size w (w.alloc (.cells #[.map mt, .map mc] 88)) := (Below.refl _ _).alloc (Nat.le_refl _) _
  have HB0 := Lib.hid hB0
  have HC := Lib.hid (lineage_s mt mc w0 cs n _ (h.below hB0) hS hL hZ hn)
  have hlen := lineS_small hS n
  have HS := Lib.hid hS
  clear h hS hZ hF h0 hB0
  go_enter Tryz.func94, Tryz.ntmps94
  go_wp2_with fail
  refine HC.out.mono ?_
  rintro e w1 ⟨u, l, rfl, hl, hok, hown, hb⟩
  have HM := Lib.hid (show ∀ c ∈ l, c.cl ∈ cs from fun c hc => lineS_mem (n := n) (by rw [← hl]; exact List.mem_map_of_mem hc))
  have hll : l.length ≤ 1000 := by rw [← ccls_len, hl]; omega
  have HE := Lib.hid (show mustS cs n = sortU ((mustL (ccls l)).map lowS) by rw [mustS_eq, hl]; rfl)
  have HOK := Lib.hid hok
  have HB1 := Lib.hid (show Below w.heap.size w w1 ∧ w.heap.size + 1 ≤ w1.heap.size from ⟨HB0.out.trans (hb.mono (by simp)), by have := hb.size; simpa using this⟩)
  have HOW := Lib.hid hown
  obtain ⟨ao, cap, rfl⟩ := own_slc hown
  clear hb hok hl hown HB0 HC hlen HS
  go_wp2_with fail
  go_loopw [5, 7, 12] (fun s5 s7 i wr => ∃ (k : Nat), k ≤ l.length ∧ i = .int .i64 k ∧ Hid (wr.ownsRow w1.heap.size 9 1 s5 (mustL (ccls (l.take k))).length (scells (mustL (ccls (l.take k))))) ∧ Hid (Below w1.heap.size w1 wr)) (fun _ _ i _ => l.length - (intOf i).toNat)
  case atStart => exact ⟨0, Nat.zero_le _, rfl, Lib.hid (World.ownsRow_nil _ _ _ _), Lib.hid (Below.refl _ _)⟩
  case round =>
    obtain ⟨k, hk, rfl, HO, HB⟩ := hrel
    by_cases hlt : k < l.length
    · have d1 : (k : Int) < (l.length : Int) := by omega
      obtain ⟨g, cap', e, hg1, hg2⟩ := own_loc HOW.out (by omega)
      simp only [Value.slice.injEq] at e
      obtain ⟨rfl, _, rfl⟩ := e
      obtain ⟨c0, c1, c2, c3⟩ := cls_at HOW.out k hlt
      have hmem := cv_mem l k hlt
      have HT := Lib.hid (show mustL (ccls (l.take (k + 1))) = mustL (ccls (l.take k)) ++ (l.getD k default).cl.must by rw [cv_take l k hlt, ccls_snoc, mustL_snoc])
      have hcm := HM.out _ hmem
      have hfw := (HF.out _ hcm).1
      obtain ⟨hHm, hHy⟩ := HOK.out _ hmem
      have hlen : (mustL (ccls (l.take k))).length ≤ 64000 := by
        have h1 := flat_few (f := fun c => c.must) (l := ccls (l.take k)) (fun c hc => by
          obtain ⟨d, hd, rfl⟩ := List.mem_map.1 hc
          exact (HF.out _ (HM.out d (List.mem_of_mem_take hd))).1)
        have h2 : (ccls (l.take k)).length ≤ 1000 := by rw [ccls_len, List.length_take]; omega
        show ((ccls (l.take k)).flatMap fun c => c.must).length ≤ 64000
        omega
      obtain ⟨d, hd⟩ : ∃ d, l.getD k default = d := ⟨_, rfl⟩
      rw [hd] at c0 c1 c2 c3 HT hfw hHm hHy
      clear hd hmem hcm
      obtain ⟨vo, vn, vc, e1, hv⟩ := hHm
      obtain ⟨uo, un, uc, e2, hu⟩ := hHy
      rw [e1] at c2
      rw [e2] at c3
      clear e1 e2 hu
      have c0 := cell_later HB.out c0
      have c1 := cell_later HB.out c1
      have c2 := cell_later HB.out c2
      have c3 := cell_later HB.out c3
      have hvn := hv.1
      have hal := (Below.refl wr.heap.size wr).alloc (Nat.le_refl _) (.cells #[.string d.cl.name, .string d.cl.super, .slice vo vn vc, .slice uo un uc] 106)
      have HV := Lib.hid (show StrsAt (wr.alloc (.cells #[.string d.cl.name, .string d.cl.super, .slice vo vn vc, .slice uo un uc] 106)) vo vn vc d.cl.must from ((hv.below (H0.out.trans (HB1.out.1.mono H0.out.size))).below (HB.out.trans (hal.mono HB.out.size))))
      have hown1 := HO.out.alloc (.cells #[.string d.cl.name, .string d.cl.super, .slice vo vn vc, .slice uo un uc] 106)
      have hsz1 : w1.heap.size ≤ (wr.alloc (.cells #[.string d.cl.name, .string d.cl.super, .slice vo vn vc, .slice uo un uc] 106)).heap.size := by have := HB.out.size; simp; omega
      have HAL := Lib.hid (HB.out.trans (hal.mono HB.out.size))
      clear hv hal
      go_wp2_with (at_builtin; go_must (refine push_strs (wr.alloc (.cells #[.string d.cl.name, .string d.cl.super, .slice vo vn vc, .slice uo un uc] 106)) hown1 (.tmp 16) (.tmp 18) HV.out ?_ ?_ ?_ ?_ ?_ ?_ ?_; exact rfl; exact rfl; exact rfl; exact rfl; omega; exact hsz1; intro v3 w3 hown3 hg3 hl3))
      have HO3 := Lib.hid hown3
      have HB3 := Lib.hid (HAL.out.grown hg3 hsz1 (fun q e => (hown1.lt q e).1))
      clear hown3 hg3 hl3 hown1
      go_roundw
      case rel =>
        refine ⟨k + 1, by omega, by go_num, Lib.hid ?_, HB3⟩
        rw [HT.out, List.length_append, hvn, scells_app]
        exact HO3.out
      case measure => simp [intOf]; omega
    · obtain rfl : k = l.length := by omega
      have d1 : ¬ (l.length : Int) < (l.length : Int) := by omega
      rw [List.take_length] at HO
      have hlen : (mustL (ccls l)).length ≤ 64000 := by
        have h1 := flat_few (f := fun c => c.must) (l := ccls l) (fun c hc => by
          obtain ⟨d, hd, rfl⟩ := List.mem_map.1 hc
          exact (HF.out _ (HM.out d hd)).1)
        have h2 : (ccls l).length ≤ 1000 := by rw [ccls_len]; omega
        show ((ccls l).flatMap fun c => c.must).length ≤ 64000
        omega
      have HC := Lib.hid (ascendingF_s w1.heap.size _ _ (mustL (ccls l)) wr HO.out rfl (by omega) (fun s hs => by
        obtain ⟨c, hc, hsc⟩ := List.mem_flatMap.1 hs
        obtain ⟨d, hd, rfl⟩ := List.mem_map.1 hc
        exact (HZ.out _ (HM.out d hd)).2.2.1 s hsc) HB.out.size)
      go_wp2_with fail
      refine HC.out.mono ?_
      rintro e w3 ⟨u, rfl, ho, hb⟩
      have HO3 := Lib.hid ho
      have HB3 := Lib.hid (HB.out.trans hb)
      clear ho hb
      go_wp2_with fail
      go_ret
      exact ⟨_, rfl, by rw [HE.out]; exact HO3.out.mono HB1.out.2, HB1.out.1.trans (HB3.out.mono (by have := HB1.out.2; omega))⟩
end Go.Proofs.YtonfkhkalodldabGreatDoor
end

section
/-
  Contracts of schema's listWord, typeLine and classLine. Condition: names of at most 1000000000 bytes, lists of at most 1000 names; syntaxWords reads as its five words.
-/
set_option maxRecDepth 100000
set_option maxRecDepth 100000
namespace Go.Proofs.YtonfkhkalodldabGreatDoor
open Go.RowKit Go.PlainAid
/-- the words of the syntaxes -/
def synW (x : Int) : ByteArray := if x = 1 then ⟨#[116, 101, 120, 116]⟩ else if x = 2 then ⟨#[101, 120, 97, 99, 116]⟩ else if x = 3 then ⟨#[105, 110, 116]⟩ else if x = 4 then ⟨#[110, 97, 109, 101]⟩ else ⟨#[98, 111, 111, 108]⟩
def singleN : ByteArray := ⟨#[115, 105, 110, 103, 108, 101]⟩
end Go.Proofs.YtonfkhkalodldabGreatDoor
end

section
/-
  Contract of schema's classLine. Condition: names of at most 100000 bytes, lists of at most 1000 names.
-/
set_option maxRecDepth 100000
set_option maxRecDepth 100000
namespace Go.Proofs.YtonfkhkalodldabGreatDoor
open Go.RowKit Go.PlainAid
def dashN : ByteArray := ⟨#[45]⟩
end Go.Proofs.YtonfkhkalodldabGreatDoor
end

section
/-
  Contracts of schema's Check and Type. Condition: names of at most 1000000000 bytes.
-/
set_option maxRecDepth 100000
set_option maxRecDepth 100000
namespace Go.Proofs.YtonfkhkalodldabGreatDoor
open Go.RowKit Go.PlainAid
set_option maxHeartbeats 4000000 in
theorem typeF_s (v : Value) (ts : List Ty) (cs : List Cl) (n : ByteArray) (w : World) (h : SchV w v ts cs) (hn : n.size ≤ 1000000000) :
    Calls Tryz.prog 55 #[v, .string n] w fun e w' => e = .returned (.tuple #[tyV ((tyOf (soundT ts cs) n).getD zeroTy), .bool (tyOf (soundT ts cs) n).isSome]) ∧ Below w.heap.size w w' := by
  have h' := h
  obtain ⟨ao, k, cap, bo, m, dap, rfl, _⟩ := h'
  have hb0 : Below w.heap.size w ((w.alloc (.cells #[.slice ao k cap, .slice bo m dap] 25)).alloc (.cells #[.string ⟨#[]⟩, .int .i64 0, .bool false] 104)) := ((Below.refl _ _).alloc (Nat.le_refl _) _).alloc (by simp) _
  have HB0 := Lib.hid hb0
  have HC := Lib.hid (accepted_s _ ts cs _ (h.below hb0))
  clear h hb0
  obtain ⟨u, hu⟩ : ∃ u, (tyOf (soundT ts cs) n).getD zeroTy = u := ⟨_, rfl⟩
  obtain ⟨ok, hok⟩ : ∃ b, (tyOf (soundT ts cs) n).isSome = b := ⟨_, rfl⟩
  have HU := Lib.hid (And.intro hu hok)
  rw [hu, hok]
  unfold tyV
  clear hu hok
  go_enter Tryz.func55, Tryz.ntmps55
  go_wp2_with fail
  refine HC.out.mono ?_
  rintro e w1 ⟨tv, rfl, ⟨m1, m2, rfl, hT, _⟩, hb⟩
  have HB1 := Lib.hid (HB0.out.trans (hb.mono (by simp; omega)))
  have HC2 := typeOf_s m1 m2 (soundT ts cs) n w1 hT hn
  rw [HU.out.1, HU.out.2] at HC2
  unfold tyV at HC2
  have HC3 := Lib.hid HC2
  have r0 : w1.cell? ⟨w.heap.size + 1, 0, none⟩ = some (.string ⟨#[]⟩) := cell_later hb (by go_simp)
  have r1 : w1.cell? ⟨w.heap.size + 1, 1, none⟩ = some (.int .i64 0) := cell_later hb (by go_simp)
  have r2 : w1.cell? ⟨w.heap.size + 1, 2, none⟩ = some (.bool false) := cell_later hb (by go_simp)
  have f0 := frozen_later (i := 0) hb (b := w.heap.size + 1) (by simp) (by go_simp)
  have f1 := frozen_later (i := 1) hb (b := w.heap.size + 1) (by simp) (by go_simp)
  have f2 := frozen_later (i := 2) hb (b := w.heap.size + 1) (by simp) (by go_simp)
  have hs1 : w.heap.size + 1 < w1.heap.size := by have := hb.size; simp at this; omega
  have HR := Lib.hid (And.intro r0 (And.intro r1 (And.intro r2 (And.intro f0 (And.intro f1 f2)))))
  clear hb hT HC HB0 HC2 r0 r1 r2 f0 f1 f2
  go_wp2_with fail
  refine HC3.out.mono ?_
  rintro e w2 ⟨rfl, hb⟩
  have r0 := cell_later hb HR.out.1
  have r1 := cell_later hb HR.out.2.1
  have r2 := cell_later hb HR.out.2.2.1
  have f0 := frozen_later hb hs1 HR.out.2.2.2.1
  have f1 := frozen_later hb hs1 HR.out.2.2.2.2.1
  have f2 := frozen_later hb hs1 HR.out.2.2.2.2.2
  have HB2 := Lib.hid (HB1.out.trans (hb.mono HB1.out.size))
  have hs0 : w.heap.size ≤ w.heap.size + 1 := Nat.le_succ _
  clear hb HC3 HR
  go_wp2_with fail
  refine bodyPost_ret (v := .tuple #[.agg #[.string u.name, .int .i64 u.syn, .bool u.single], .bool ok]) (by simp only [results, Tryz.results55]; go_simp) rfl ?_
  exact ⟨rfl, below_set1 (below_set1 (below_set1 HB2.out (w.heap.size + 1) 0 hs0 _) (w.heap.size + 1) 1 hs0 _) (w.heap.size + 1) 2 hs0 _⟩
end Go.Proofs.YtonfkhkalodldabGreatDoor
end

section
/-
  Contract of schema's Text. Condition: names of at most 1000000000 bytes; syntaxWords reads as its five words.
-/
set_option maxRecDepth 100000
set_option maxRecDepth 100000
namespace Go.Proofs.YtonfkhkalodldabGreatDoor
open Go.RowKit Go.PlainAid
end Go.Proofs.YtonfkhkalodldabGreatDoor
end

section
/-
  Contract of schema's Text. Condition: names of at most 1000000000 bytes; syntaxWords reads as its five words.
-/
set_option maxRecDepth 100000
set_option maxRecDepth 100000
namespace Go.Proofs.YtonfkhkalodldabGreatDoor
open Go.RowKit Go.PlainAid
end Go.Proofs.YtonfkhkalodldabGreatDoor
end

section
/-
  Contracts of schema's readSuper, readSyntax and readList. Condition: words of at most 1100000 bytes; syntaxWords reads as its five words.
-/
set_option maxRecDepth 100000
set_option maxRecDepth 100000
namespace Go.Proofs.YtonfkhkalodldabGreatDoor
open Go.RowKit Go.PlainAid
/-- the syntax of a word, 0 if there is none -/
def rdSyn (s : ByteArray) : Int := if s = synW 1 then 1 else if s = synW 2 then 2 else if s = synW 3 then 3 else if s = synW 4 then 4 else if s = synW 5 then 5 else 0
def rdOk (s : ByteArray) : Bool := decide (rdSyn s ≠ 0)
end Go.Proofs.YtonfkhkalodldabGreatDoor
end

section
/-
  Contract of the table's may. Condition: names of at most 1000000000 bytes, lists of at most 64 names.
-/
set_option maxRecDepth 100000
set_option maxRecDepth 100000
namespace Go.Proofs.YtonfkhkalodldabGreatDoor
open Go.RowKit Go.PlainAid
theorem mustL_few {cs : List Cl} (hF : FewC cs) {l : List Cl} (hl : ∀ c ∈ l, c ∈ cs) (hn : l.length ≤ 1000) : (mustL l).length ≤ 64000 := by
  have := flat_few (f := fun c => c.must) (l := l) (fun c hc => (hF c (hl c hc)).1)
  show (l.flatMap fun c => c.must).length ≤ 64000
  omega
theorem mayL_few {cs : List Cl} (hF : FewC cs) {l : List Cl} (hl : ∀ c ∈ l, c ∈ cs) (hn : l.length ≤ 1000) : (mayL l).length ≤ 64000 := by
  have := flat_few (f := fun c => c.may) (l := l) (fun c hc => (hF c (hl c hc)).2)
  show (l.flatMap fun c => c.may).length ≤ 64000
  omega
theorem mustS_few {cs : List Cl} (hS : SoundC cs) (hL : cs.length ≤ 1000) (hF : FewC cs) (n : ByteArray) : (mustS cs n).length ≤ 64000 := by
  rw [mustS_eq]
  refine Nat.le_trans (sortU_len _) ?_
  rw [List.length_map]
  exact mustL_few hF (fun c hc => lineS_mem hc) (Nat.le_trans (lineS_small hS n) hL)
theorem mustS_small {cs : List Cl} (hZ : SmC cs) {n s : ByteArray} (h : s ∈ mustS cs n) : s.size ≤ 1000000000 := by
  rw [mustS_eq, sortU_mem] at h
  obtain ⟨t, ht, rfl⟩ := List.mem_map.1 h
  obtain ⟨c, hc, hs⟩ := List.mem_flatMap.1 ht
  rw [lowS_size]
  exact (hZ c (lineS_mem hc)).2.2.1 t hs
set_option maxHeartbeats 8000000 in
theorem may_s (mt mc : Option Nat) (w0 : World) (cs : List Cl) (n : ByteArray) (w : World) (h0 : Below w0.heap.size w0 w) (h : CMap w0 w mc cs) (hS : SoundC cs) (hL : cs.length ≤ 1000) (hZ : SmC cs) (hF : FewC cs) (hn : n.size ≤ 1000000000) :
    Calls Tryz.prog 95 #[.agg #[.map mt, .map mc], .string n] w fun e w' => ∃ u : Value, e = .returned u ∧ w'.ownsRow (w.heap.size + 1) 9 1 u (mayS cs n).length (scells (mayS cs n)) ∧ Below w.heap.size w w' := by
  have HZ := Lib.hid hZ; have HF := Lib.hid hF; have H0 := Lib.hid h0
  have hB0 : Below w.heap.size w (w.alloc (.cells #[.map mt, .map mc] 88)) := (Below.refl _ _).alloc (Nat.le_refl _) _
  have HB0 := Lib.hid hB0
  have HC0 := Lib.hid (must_s mt mc w0 cs n _ (h0.trans (hB0.mono h0.size)) (h.below hB0) hS hL hZ hF hn)
  have HC := Lib.hid (fun (W : World) (hW : Below w.heap.size w W) => lineage_s mt mc w0 cs n W (h.below hW) hS hL hZ hn)
  have hlen := lineS_small hS n
  have hms := mustS_few hS hL hF n
  have HS := Lib.hid (fun s (hs : s ∈ mustS cs n) => mustS_small hZ hs)
  clear h hS hZ hF h0 hB0
  go_enter Tryz.func95, Tryz.ntmps95
  go_wp2_with fail
  refine HC0.out.mono ?_
  rintro e w1 ⟨u0, rfl, hown0, hb⟩
  have m0 : w1.cell? ⟨w.heap.size, 0, none⟩ = some (.map mt) := cell_later hb (by go_simp)
  have m1 : w1.cell? ⟨w.heap.size, 1, none⟩ = some (.map mc) := cell_later hb (by go_simp)
  have HB1 := Lib.hid (show Below w.heap.size w w1 ∧ w.heap.size + 1 ≤ w1.heap.size from ⟨HB0.out.trans (hb.mono (by simp)), by have := hb.size; simpa using this⟩)
  have HO0 := Lib.hid (hown0.mono (base' := w.heap.size + 1) (by simp))
  clear hb HC0 HB0 hown0
  go_wp2_with fail
  refine (HC.out w1 HB1.out.1).mono ?_
  rintro e w2 ⟨u, l, rfl, hl, hok, hown, hb⟩
  have HM := Lib.hid (show ∀ c ∈ l, c.cl ∈ cs from fun c hc => lineS_mem (n := n) (by rw [← hl]; exact List.mem_map_of_mem hc))
  have hll : l.length ≤ 1000 := by rw [← ccls_len, hl]; omega
  have HE := Lib.hid (show mayS cs n = sortU ((mustS cs n ++ mayL (ccls l)).map lowS) by rw [mayS_eq, hl]; rfl)
  have HOK := Lib.hid hok
  obtain ⟨ao, cap, rfl⟩ := own_slc hown
  have HN := Lib.hid (show (Value.slice ao l.length cap).ownBlock = none ∨ (Value.slice ao l.length cap).ownBlock ≠ u0.ownBlock by
    cases e : (Value.slice ao l.length cap).ownBlock with
    | none => exact .inl rfl
    | some q =>
      refine .inr fun e2 => ?_
      have h1 := (hown.lt q e).1
      have h2 := (HO0.out.lt q e2.symm).2
      omega)
  have HOW := Lib.hid (hown.mono (base' := w.heap.size + 1) (by have := HB1.out.2; omega))
  have HO2 := Lib.hid (own_below HO0.out hb)
  have HB2 := Lib.hid (show Below w.heap.size w w2 ∧ w.heap.size + 1 ≤ w2.heap.size from ⟨HB1.out.1.trans (hb.mono HB1.out.1.size), Nat.le_trans HB1.out.2 hb.size⟩)
  clear hb hok hl hown HC HO0 HB1 hlen m0 m1
  obtain ⟨ms, hmse⟩ : ∃ ms, mustS cs n = ms := ⟨_, rfl⟩
  rw [hmse] at HE HS HO2 hms
  clear hmse
  go_wp2_with fail
  go_loopw [5, 7, 15] (fun s5 s7 i wr => ∃ (k : Nat), k ≤ l.length ∧ i = .int .i64 k ∧ Hid (wr.ownsRow (w.heap.size + 1) 9 1 s5 (ms ++ mayL (ccls (l.take k))).length (scells (ms ++ mayL (ccls (l.take k))))) ∧ Hid (wr.ownsRow (w.heap.size + 1) 106 4 (.slice ao l.length cap) l.length (ccells l)) ∧ Hid ((Value.slice ao l.length cap).ownBlock = none ∨ (Value.slice ao l.length cap).ownBlock ≠ s5.ownBlock) ∧ Hid (Below w.heap.size w wr ∧ w.heap.size + 1 ≤ wr.heap.size)) (fun _ _ i _ => l.length - (intOf i).toNat)
  case atStart => exact ⟨0, Nat.zero_le _, rfl, Lib.hid (by simpa [mayL, ccls] using HO2.out), HOW, HN, HB2⟩
  case round =>
    clear HO2 HOW HN HB2
    obtain ⟨k, hk, rfl, HO, HOW, HN, HB⟩ := hrel
    have hlen : (mayL (ccls (l.take k))).length ≤ 64000 := mayL_few HF.out (fun c hc => by
      obtain ⟨d, hd, rfl⟩ := List.mem_map.1 hc
      exact HM.out d (List.mem_of_mem_take hd)) (by rw [ccls_len, List.length_take]; omega)
    have hlen2 : (ms ++ mayL (ccls (l.take k))).length ≤ 128000 := by rw [List.length_append]; omega
    by_cases hlt : k < l.length
    · have d1 : (k : Int) < (l.length : Int) := by omega
      obtain ⟨g, cap', e, hg1, hg2⟩ := own_loc HOW.out (by omega)
      simp only [Value.slice.injEq] at e
      obtain ⟨rfl, _, rfl⟩ := e
      obtain ⟨c0, c1, c2, c3⟩ := cls_at HOW.out k hlt
      have hmem := cv_mem l k hlt
      have HT := Lib.hid (show ms ++ mayL (ccls (l.take (k + 1))) = (ms ++ mayL (ccls (l.take k))) ++ (l.getD k default).cl.may by rw [cv_take l k hlt, ccls_snoc, mayL_snoc, List.append_assoc])
      have hcm := HM.out _ hmem
      have hfw := (HF.out _ hcm).2
      obtain ⟨hHm, hHy⟩ := HOK.out _ hmem
      obtain ⟨d, hd⟩ : ∃ d, l.getD k default = d := ⟨_, rfl⟩
      rw [hd] at c0 c1 c2 c3 HT hfw hHm hHy
      clear hd hmem hcm
      obtain ⟨vo, vn, vc, e1, hv⟩ := hHy
      obtain ⟨uo, un, uc, e2, hu⟩ := hHm
      rw [e1] at c3
      rw [e2] at c2
      clear e1 e2 hu
      have hvn := hv.1
      have hal := (Below.refl wr.heap.size wr).alloc (Nat.le_refl _) (.cells #[.string d.cl.name, .string d.cl.super, .slice uo un uc, .slice vo vn vc] 106)
      have HV := Lib.hid (show StrsAt (wr.alloc (.cells #[.string d.cl.name, .string d.cl.super, .slice uo un uc, .slice vo vn vc] 106)) vo vn vc d.cl.may from ((hv.below (H0.out.trans (HB.out.1.mono H0.out.size))).below hal))
      have hown1 := HO.out.alloc (.cells #[.string d.cl.name, .string d.cl.super, .slice uo un uc, .slice vo vn vc] 106)
      have HW1 := Lib.hid (HOW.out.alloc (.cells #[.string d.cl.name, .string d.cl.super, .slice uo un uc, .slice vo vn vc] 106))
      have hsz1 : w.heap.size + 1 ≤ (wr.alloc (.cells #[.string d.cl.name, .string d.cl.super, .slice uo un uc, .slice vo vn vc] 106)).heap.size := by have := HB.out.2; simp; omega
      have HAL := Lib.hid (HB.out.1.trans (hal.mono (by have := HB.out.2; omega)))
      clear hv hal
      go_wp2_with (at_builtin; go_must (refine push_strs (wr.alloc (.cells #[.string d.cl.name, .string d.cl.super, .slice uo un uc, .slice vo vn vc] 106)) hown1 (.tmp 19) (.tmp 21) HV.out ?_ ?_ ?_ ?_ ?_ ?_ ?_; exact rfl; exact rfl; exact rfl; exact rfl; omega; exact hsz1; intro v3 w3 hown3 hg3 hl3))
      have HO3 := Lib.hid hown3
      have HB3 := Lib.hid (show Below w.heap.size w w3 ∧ w.heap.size + 1 ≤ w3.heap.size from ⟨HAL.out.grown hg3 (by omega) (fun q e => by have := (hown1.lt q e).1; omega), Nat.le_trans hsz1 hg3.size⟩)
      have HW3 := Lib.hid (HW1.out.kept hg3 HN.out)
      have HN3 := Lib.hid (show (Value.slice (some ⟨g, 0, none⟩) l.length cap).ownBlock = none ∨ (Value.slice (some ⟨g, 0, none⟩) l.length cap).ownBlock ≠ v3.ownBlock by
        rcases hl3 with h1 | h1
        · rw [h1]; exact HN.out
        · refine .inr fun e2 => ?_
          rw [h1] at e2
          have := (HOW.out.lt _ e2).2
          simp at this
          omega)
      clear hown3 hg3 hl3 hown1
      go_roundw
      case rel =>
        refine ⟨k + 1, by omega, by go_num, Lib.hid ?_, HW3, HN3, HB3⟩
        rw [HT.out, List.length_append, hvn, scells_app]
        exact HO3.out
      case measure => simp [intOf]; omega
    · obtain rfl : k = l.length := by omega
      have d1 : ¬ (l.length : Int) < (l.length : Int) := by omega
      rw [List.take_length] at HO hlen hlen2
      have HC := Lib.hid (ascendingF_s (w.heap.size + 1) _ _ (ms ++ mayL (ccls l)) wr HO.out rfl (by omega) (fun s hs => by
        rcases List.mem_append.1 hs with h | h
        · exact HS.out s h
        · obtain ⟨c, hc, hsc⟩ := List.mem_flatMap.1 h
          obtain ⟨d, hd, rfl⟩ := List.mem_map.1 hc
          exact (HZ.out _ (HM.out d hd)).2.2.2 s hsc) HB.out.2)
      go_wp2_with fail
      refine HC.out.mono ?_
      rintro e w3 ⟨u, rfl, ho, hb⟩
      have HO3 := Lib.hid ho
      have HB3 := Lib.hid (HB.out.1.trans (hb.mono (Nat.le_succ _)))
      clear ho hb
      go_wp2_with fail
      go_ret
      exact ⟨_, rfl, by rw [HE.out]; exact HO3.out, HB3.out⟩
end Go.Proofs.YtonfkhkalodldabGreatDoor
end

section
/-
  Contracts of schema's Lineage, Must, May. Condition: names of at most 1000000000 bytes.
-/
set_option maxRecDepth 100000
set_option maxRecDepth 100000
namespace Go.Proofs.YtonfkhkalodldabGreatDoor
open Go.RowKit Go.PlainAid
/-- a slice of strings as a value -/
def StrsV (w : World) (v : Value) (l : List ByteArray) : Prop := ∃ ao n cap, v = .slice ao n cap ∧ StrsAt w ao n cap l
theorem StrsV.below {w w' : World} {v : Value} {l : List ByteArray} (h : StrsV w v l) (hb : Below w.heap.size w w') : StrsV w' v l := by
  obtain ⟨ao, n, cap, e, h⟩ := h; exact ⟨ao, n, cap, e, h.below hb⟩
end Go.Proofs.YtonfkhkalodldabGreatDoor
end

section
/-
  The normal form of a value, as a pure value: of numbers with leading zeros, of truths, of each syntax. No condition.
-/
set_option maxRecDepth 100000
set_option maxRecDepth 100000
namespace Go.Proofs.YtonfkhkalodldabGreatDoor
open Go.RowKit Go.PlainAid
/-- digits, at least one -/
def digS (l : List UInt8) : Bool := !l.isEmpty && l.all digB
theorem mag_all {l : List UInt8} (h : digS l = true) : Fair (Lib.parseMag l) := by
  cases l with
  | nil => cases h
  | cons c r =>
    unfold digS at h
    rw [Bool.and_eq_true] at h
    unfold Lib.parseMag
    rw [if_neg (by simp)]
    exact parse_digits _ _ h.2
theorem digS_atoi {l : List UInt8} (h : digS (stripL l) = true) : Fair (Lib.atoiAll l) := by
  cases l with
  | nil => cases h
  | cons c r =>
    by_cases hc : c = 45
    · subst hc
      rw [strip_minus] at h
      rw [Lib.atoiAll_minus]
      exact signed_fair (mag_all h)
    · rw [strip_plain c r hc] at h
      have hd : digB c = true := by
        unfold digS at h
        simp only [Bool.and_eq_true, List.all_cons] at h
        exact h.2.1
      have h2 : 48 ≤ c.toNat ∧ c.toNat ≤ 57 := by simpa [digB] using hd
      rw [Lib.atoiAll_plain c r (by omega) (by omega)]
      exact signless_fair (mag_all h)
/-- the number with these digits -/
def numS (s : ByteArray) : Option Int := if digS (stripL s.data.toList) then (match Lib.atoiAll s.data.toList with
  | .ok v => some v
  | _ => none) else none
def trueS : ByteArray := ⟨#[116, 114, 117, 101]⟩
def falseS : ByteArray := ⟨#[102, 97, 108, 115, 101]⟩
def truthS (s : ByteArray) : Option ByteArray := if lowS s = trueS then some ⟨#[84, 82, 85, 69]⟩ else if lowS s = falseS then some ⟨#[70, 65, 76, 83, 69]⟩ else none
/-- the form of a value that has the syntax -/
def formS (x : Int) (v : ByteArray) : Option ByteArray :=
  if x = 1 then some (foldS v)
  else if x = 2 then some v
  else if x = 3 then (numS v).map fun n => ofL (Lib.itoa n)
  else if x = 4 then (if Nam.cleanE v = 0 then some (Nam.cleanV v) else none)
  else truthS v
def normS (x : Int) (v : ByteArray) : Option ByteArray := (formS x v).bind fun f => if cleanB v = true ∧ cleanB f = true then some f else none
end Go.Proofs.YtonfkhkalodldabGreatDoor
end
