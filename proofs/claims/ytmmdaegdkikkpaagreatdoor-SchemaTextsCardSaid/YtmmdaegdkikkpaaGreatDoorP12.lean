/-
  Texts of the schema layer and of those beneath it, joined: SchLin, SchAsc, SchMst, ShelfS, SchWrd. Conditions stand at each contract.
-/
import Derived.Laws.OwnMore
import Derived.Shelf.Strings.Builder1
import Derived.Shelf.Strings.OnBuilder
import Derived.Shelf.Strings.Split
import Derived.Ground.SlgnProg
import Derived.Ground.SlgfProg
import Derived.Ground.SlgmProg
import Derived.StillTailTactics
import Derived.Test.YtmmdaegdkikkpaaGreatDoorProg
import Derived.Test.YtmmdaegdkikkpaaGreatDoorP01
import Derived.Test.YtmmdaegdkikkpaaGreatDoorP03
import Derived.Test.YtmmdaegdkikkpaaGreatDoorP11
set_option linter.unusedVariables false
set_option linter.unusedSimpArgs false
set_option linter.unnecessarySimpa false

section
/-
  Contract of the table's lineage: the class and those above it, in a slice of the call's own. Condition: names of at most 1000000000 bytes.
-/
set_option maxRecDepth 100000
namespace Go.Proofs.YtmmdaegdkikkpaaGreatDoor
open Go.RowKit Go.PlainAid
/-- the box of a class -/
def CB (W : World) (g : Nat) (a b c d : Value) : Prop :=
  (W.cell? ⟨g, 0, none⟩ = some a ∧ W.cell? ⟨g, 1, none⟩ = some b ∧ W.cell? ⟨g, 2, none⟩ = some c ∧ W.cell? ⟨g, 3, none⟩ = some d) ∧ W.frozen? ⟨g, 0, none⟩ = false ∧ W.frozen? ⟨g, 1, none⟩ = false ∧ W.frozen? ⟨g, 2, none⟩ = false ∧ W.frozen? ⟨g, 3, none⟩ = false
theorem cb_new (W : World) (a b c d : Value) (t : TypeId) : CB (W.alloc (.cells #[a, b, c, d] t)) W.heap.size a b c d := by
  have h : (W.alloc (.cells #[a, b, c, d] t)).heap[W.heap.size]? = some (.cells #[a, b, c, d] t (0, 0)) := heap_alloc_new W _
  exact ⟨⟨heap_cell h rfl, heap_cell h rfl, heap_cell h rfl, heap_cell h rfl⟩, heap_frozen h, heap_frozen h, heap_frozen h, heap_frozen h⟩
theorem CB.keep {W V : World} {g : Nat} {a b c d : Value} (h : CB W g a b c d) (e : V.heap[g]? = W.heap[g]?) : CB V g a b c d := by
  have k1 : ∀ i, V.cell? ⟨g, i, none⟩ = W.cell? ⟨g, i, none⟩ := fun i => World.cell?_of_block (a := ⟨g, i, none⟩) e
  have k2 : ∀ i, V.frozen? ⟨g, i, none⟩ = W.frozen? ⟨g, i, none⟩ := fun i => by unfold World.frozen?; rw [show V.heap[(⟨g, i, none⟩ : Addr).block]? = W.heap[(⟨g, i, none⟩ : Addr).block]? from e]
  unfold CB
  rw [k1, k1, k1, k1, k2, k2, k2, k2]; exact h
theorem CB.set {W : World} {g : Nat} {a b c d : Value} (h : CB W g a b c d) (x y z u : Value) : CB ((((W.setCell ⟨g, 0, none⟩ x).setCell ⟨g, 1, none⟩ y).setCell ⟨g, 2, none⟩ z).setCell ⟨g, 3, none⟩ u) g x y z u := by
  obtain ⟨⟨h0, h1, h2, h3⟩, f0, f1, f2, f3⟩ := h
  have ne : ∀ i j : Nat, i ≠ j → (⟨g, i, none⟩ : Addr) ≠ ⟨g, j, none⟩ := fun i j hij e => hij (by injection e)
  refine ⟨⟨?_, ?_, ?_, ?_⟩, ?_, ?_, ?_, ?_⟩
  · rw [World.cell?_setCell_other _ _ _ _ (ne 3 0 (by decide)), World.cell?_setCell_other _ _ _ _ (ne 2 0 (by decide)), World.cell?_setCell_other _ _ _ _ (ne 1 0 (by decide))]
    exact World.cell?_setCell_same _ _ _ h0
  · rw [World.cell?_setCell_other _ _ _ _ (ne 3 1 (by decide)), World.cell?_setCell_other _ _ _ _ (ne 2 1 (by decide))]
    exact World.cell?_setCell_same _ _ _ ((World.cell?_setCell_other _ _ _ _ (ne 0 1 (by decide))).trans h1)
  · rw [World.cell?_setCell_other _ _ _ _ (ne 3 2 (by decide))]
    exact World.cell?_setCell_same _ _ _ (((World.cell?_setCell_other _ _ _ _ (ne 1 2 (by decide))).trans (World.cell?_setCell_other _ _ _ _ (ne 0 2 (by decide)))).trans h2)
  · exact World.cell?_setCell_same _ _ _ ((((World.cell?_setCell_other _ _ _ _ (ne 2 3 (by decide))).trans (World.cell?_setCell_other _ _ _ _ (ne 1 3 (by decide)))).trans (World.cell?_setCell_other _ _ _ _ (ne 0 3 (by decide)))).trans h3)
  all_goals simp only [World.frozen?_setCell]; assumption
theorem grown_set4 (W : World) (g : Nat) (x y z u : Value) : W.grownBy ((((W.setCell ⟨g, 0, none⟩ x).setCell ⟨g, 1, none⟩ y).setCell ⟨g, 2, none⟩ z).setCell ⟨g, 3, none⟩ u) (some g) :=
  grown_two (grown_setN W g 0 x) (grown_two (grown_setN _ g 1 y) (grown_two (grown_setN _ g 2 z) (grown_setN _ g 3 u)))
def lenOf : Value → Nat | .slice _ n _ => n | _ => 0
/-- what the lineage's loop holds -/
structure LAt (w0 w W : World) (mt mc : Option Nat) (cs : List Cl) (n : ByteArray) (l : List Cv) (u : Value) (cur : ByteArray) (g : Nat) (c : Cl) (a1 : Option Addr) (p1 q1 : Nat) (a2 : Option Addr) (p2 q2 : Nat) (b : Bool) : Prop where
  own : W.ownsRow (w.heap.size + 1) 64 4 u l.length (ccells l)
  ok : ∀ d ∈ l, CvOk w0 d
  all : ccls l ++ lineS cs cur = lineS cs n
  got : ClGot w0 cs cur ⟨c, .slice a1 p1 q1, .slice a2 p2 q2⟩
  is : (clOf cs cur).isSome = b
  box : CB W g (.string c.name) (.string c.super) (.slice a1 p1 q1) (.slice a2 p2 q2)
  far : u.ownBlock ≠ some g
  high : w.heap.size + 1 ≤ g
  lt : g < W.heap.size
  m0 : W.cell? ⟨w.heap.size, 0, none⟩ = some (.map mt)
  m1 : W.cell? ⟨w.heap.size, 1, none⟩ = some (.map mc)
  low : Below w.heap.size w W
  big : w.heap.size < W.heap.size
theorem own_slc {w : World} {base n size : Nat} {e : TypeId} {v : Value} {xs : List Value} (h : w.ownsRow base e size v n xs) : ∃ ao cap, v = .slice ao n cap := by
  rcases h.2 with ⟨rfl, h0⟩ | ⟨g, cap, cur, rfl, _⟩
  · exact ⟨none, 0, by rw [h0]⟩
  · exact ⟨_, cap, rfl⟩
/-- a class's name and its superclass are small -/
theorem ClGot.small {w0 : World} {cs : List Cl} {n : ByteArray} {d : Cv} (h : ClGot w0 cs n d) (hz : SmC cs) : d.cl.super.size ≤ 1000000000 := by
  cases e : clOf cs n with
  | none => rw [h.1 e]; exact Nat.zero_le _
  | some c => rw [(h.2 c e).1]; exact (hz c (clOf_mem e)).2.1
theorem lat_box {w0 w W V : World} {mt mc : Option Nat} {cs : List Cl} {n cur : ByteArray} {l : List Cv} {u : Value} {g : Nat} {c : Cl} {a1 a2 : Option Addr} {p1 q1 p2 q2 : Nat} {b : Bool} {o : Obj} (h : LAt w0 w W mt mc cs n l u cur g c a1 p1 q1 a2 p2 q2 b) (hg : (W.alloc o).grownBy V u.ownBlock) :
    CB V g (.string c.name) (.string c.super) (.slice a1 p1 q1) (.slice a2 p2 q2) ∧ V.cell? ⟨w.heap.size, 0, none⟩ = some (.map mt) ∧ V.cell? ⟨w.heap.size, 1, none⟩ = some (.map mc) ∧ Below w.heap.size w V ∧ W.heap.size < V.heap.size := by
  have hal := (Below.refl W.heap.size W).alloc (Nat.le_refl _) o
  have hne : ∀ k, k ≤ w.heap.size → some k ≠ u.ownBlock := fun k hk e => by have := (h.own.lt k e.symm).1; omega
  refine ⟨h.box.keep ((hg.block g (by have := h.lt; simp; omega) (fun e => h.far e.symm)).trans (heap_old h.lt)), ?_, ?_, (h.low.trans (hal.mono (Nat.le_of_lt h.big))).grown hg (by have := h.big; simp; omega) (fun k e => by have := (h.own.lt k e).1; omega), by have := hg.size; simp at this; omega⟩
  · exact (hg.cell (cell_later hal h.m0) (fun e => hne _ (Nat.le_refl _) e))
  · exact (hg.cell (cell_later hal h.m1) (fun e => hne _ (Nat.le_refl _) e))
set_option maxHeartbeats 8000000 in
theorem lineage_s (mt mc : Option Nat) (w0 : World) (cs : List Cl) (n : ByteArray) (w : World) (h : CMap w0 w mc cs) (hS : SoundC cs) (hL : cs.length ≤ 1000) (hZ : SmC cs) (hn : n.size ≤ 1000000000) :
    Calls Tryz.prog 112 #[.agg #[.map mt, .map mc], .string n] w fun e w' => ∃ (u : Value) (l : List Cv), e = .returned u ∧ ccls l = lineS cs n ∧ (∀ d ∈ l, CvOk w0 d) ∧ w'.ownsRow (w.heap.size + 1) 64 4 u l.length (ccells l) ∧ Below w.heap.size w w' := by
  have HS := Lib.hid hS; have HZ := Lib.hid hZ
  have HC := Lib.hid (fun (n : ByteArray) (W : World) (hn : n.size ≤ 1000000000) (hW : Below w.heap.size w W) => class_s mt mc w0 cs n W (h.below hW) hn)
  clear h hS hZ
  have HB0 : Hid (Below w.heap.size w (w.alloc (.cells #[.map mt, .map mc] 130))) := Lib.hid ((Below.refl _ _).alloc (Nat.le_refl _) _)
  go_enter Tryz.func112, Tryz.ntmps112
  go_wp2_with fail
  refine (HC.out n _ hn HB0.out).mono ?_
  rintro e w1 ⟨⟨c, _, _⟩, a1, p1, q1, a2, p2, q2, rfl, rfl, hg, rfl, hb⟩
  dsimp only
  obtain ⟨ok, hok⟩ : ∃ b, (clOf cs n).isSome = b := ⟨_, rfl⟩
  rw [hok]
  have hs : w.heap.size < w1.heap.size := by have := hb.size; simp at this; omega
  have hal := (Below.refl w1.heap.size w1).alloc (Nat.le_refl _) (.cells #[.string c.name, .string c.super, .slice a1 p1 q1, .slice a2 p2 q2] 64)
  have L0 : Hid (LAt w0 w (w1.alloc (.cells #[.string c.name, .string c.super, .slice a1 p1 q1, .slice a2 p2 q2] 64)) mt mc cs n [] (.slice none 0 0) n w1.heap.size c a1 p1 q1 a2 p2 q2 ok) :=
    Lib.hid ⟨World.ownsRow_nil _ _ _ _, (fun d hd => by cases hd), rfl, hg, hok, cb_new w1 _ _ _ _ _, (by simp [Value.ownBlock]), hs, by simp, cell_later hal (cell_later hb (by go_simp)), cell_later hal (cell_later hb (by go_simp)), HB0.out.trans ((hb.trans (hal.mono hb.size)).mono (by simp)), by simp; omega⟩
  clear hb hg hok HB0 hal
  go_wp2_with fail
  go_loopw [5, 6, 7] (fun s5 s6 s7 wr => ∃ (l : List Cv) (ao : Option Addr) (cap : Nat) (cur : ByteArray) (g : Nat) (c : Cl) (a1 : Option Addr) (p1 q1 : Nat) (a2 : Option Addr) (p2 q2 : Nat) (b : Bool), s5 = .slice ao l.length cap ∧ s6 = .pointer (some ⟨g, 0, none⟩) ∧ s7 = .bool b ∧ Hid (LAt w0 w wr mt mc cs n l (.slice ao l.length cap) cur g c a1 p1 q1 a2 p2 q2 b)) (fun s5 _ _ _ => cs.length + 1 - lenOf s5)
  case atStart => exact ⟨[], none, 0, n, w1.heap.size, c, a1, p1, q1, a2, p2, q2, ok, rfl, rfl, rfl, L0⟩
  case round =>
    clear L0 hs
    obtain ⟨l, ao, cap, cur, g, c, a1, p1, q1, a2, p2, q2, b, rfl, rfl, rfl, HL⟩ := hrel
    cases b
    · go_wp2_with fail
      go_ret
      have hz : clOf cs cur = none := by
        have := HL.out.is
        cases e : clOf cs cur with
        | none => rfl
        | some x => rw [e] at this; cases this
      have hall := HL.out.all
      rw [lineS_none hz, List.append_nil] at hall
      exact ⟨_, l, rfl, hall, HL.out.ok, HL.out.own, HL.out.low⟩
    · obtain ⟨cc, hcc⟩ : ∃ cc, clOf cs cur = some cc := by
        have := HL.out.is
        cases e : clOf cs cur with
        | none => rw [e] at this; cases this
        | some x => exact ⟨x, rfl⟩
      obtain ⟨hcl, hok⟩ := HL.out.got.2 cc hcc
      simp only at hcl
      subst hcl
      have hstep := lineS_step HS.out hcc
      have hlen : l.length + 1 ≤ cs.length := by
        have h1 := lineS_small HS.out n
        rw [← HL.out.all, List.length_append, ccls_len, hstep, List.length_cons] at h1
        omega
      have hall : ccls (l ++ [⟨c, .slice a1 p1 q1, .slice a2 p2 q2⟩]) ++ lineS cs c.super = lineS cs n := by
        rw [ccls_snoc, List.append_assoc, ← HL.out.all, hstep]; rfl
      have hsz := (HZ.out c (clOf_mem hcc)).2.1
      have HOK := Lib.hid hok
      have HA := Lib.hid hall
      obtain ⟨⟨c0, c1, c2, c3⟩, f0, f1, f2, f3⟩ := HL.out.box
      have hown := HL.out.own
      have hglt := HL.out.lt
      have hbig := HL.out.big
      have m0 := HL.out.m0
      have m1 := HL.out.m1
      clear hok hall hstep f0 f1 f2 f3
      have HM := Lib.hid (And.intro m0 m1)
      clear m0 m1
      go_wp2_with (at_builtin; go_must (refine push_class wr hown (.tmp 22) (.tmp 24) ⟨c, .slice a1 p1 q1, .slice a2 p2 q2⟩ HOK.out ?_ ?_ ?_ ?_ ?_ ?_ ?_; exact rfl; exact rfl; exact rfl; exact rfl; omega; exact hbig; intro v3 w3 hown3 hg3 hl3; obtain ⟨⟨⟨k0, k1, k2, k3⟩, _⟩, m0, m1, hb3, hs3⟩ := lat_box HL.out hg3; have hs3b : w.heap.size < w3.heap.size := (by omega); have hs3c : g < w3.heap.size := (by omega); have HB3 := Lib.hid hb3; have HX3 := Lib.hid (And.intro hown3 (And.intro hg3 hl3)); clear hb3 hown3 hg3 hl3 c0 c1 c2 c3))
      have hX := (Below.refl w3.heap.size w3).alloc (Nat.le_refl _) (.cells #[.string c.name, .string c.super, .slice a1 p1 q1, .slice a2 p2 q2] 64)
      have HX := Lib.hid hX; clear hX
      have HM3 := Lib.hid (And.intro m0 m1)
      obtain ⟨ao3, cap3, rfl⟩ := own_slc HX3.out.1
      refine (HC.out c.super _ hsz (HB3.out.trans (HX.out.mono (Nat.le_of_lt hs3b)))).mono ?_
      rintro e w4 ⟨⟨c', _, _⟩, a1', p1', q1', a2', p2', q2', rfl, rfl, hg', rfl, hb⟩
      dsimp only
      obtain ⟨ok', hok'⟩ : ∃ b, (clOf cs c.super).isSome = b := ⟨_, rfl⟩
      rw [hok']
      have HCB := Lib.hid (show CB w4 w3.heap.size (.string c.name) (.string c.super) (.slice a1 p1 q1) (.slice a2 p2 q2) from (cb_new w3 _ _ _ _ _).keep (hb.block _ (by simp)))
      have HG := Lib.hid (And.intro hg' hok')
      have HX4 := Lib.hid (And.intro (own_below (own_below HX3.out.1 HX.out) hb) (And.intro (cell_later hb (cell_later HX.out HM3.out.1)) (And.intro (cell_later hb (cell_later HX.out HM3.out.2)) (HB3.out.trans ((HX.out.trans (hb.mono (by simp))).mono (Nat.le_of_lt hs3b))))))
      have hs4 : w3.heap.size < w4.heap.size := by have := hb.size; simp at this; omega
      clear hb hg' hok' m0 m1 k0 k1 k2 k3
      obtain ⟨⟨e0, e1, e2, e3⟩, f0, f1, f2, f3⟩ := HCB.out
      go_wp2_with fail
      go_roundw
      case rel =>
        have hfar : ∀ q, (Value.slice ao3 (l.length + 1) cap3).ownBlock = some q → q < w3.heap.size := fun q e => (HX3.out.1.lt q e).2
        have hG4 := grown_set4 w4 w3.heap.size (.string c'.name) (.string c'.super) (.slice a1' p1' q1') (.slice a2' p2' q2')
        have hne : (Value.slice ao3 (l.length + 1) cap3).ownBlock ≠ some w3.heap.size := fun e => by have := hfar _ e; omega
        have hlen2 : (l ++ [(⟨c, .slice a1 p1 q1, .slice a2 p2 q2⟩ : Cv)]).length = l.length + 1 := by rw [List.length_append]; rfl
        refine ⟨l ++ [⟨c, .slice a1 p1 q1, .slice a2 p2 q2⟩], ao3, cap3, c.super, w3.heap.size, c', a1', p1', q1', a2', p2', q2', ok', by rw [hlen2], rfl, rfl, Lib.hid ?_⟩
        rw [hlen2]
        refine ⟨?_, ?_, HA.out, HG.out.1, HG.out.2, HCB.out.set _ _ _ _, hne, by omega, by simp only [set_size]; omega, ?_, ?_, ?_, by simp only [set_size]; omega⟩
        · rw [hlen2, ccells_snoc]
          exact HX4.out.1.kept hG4 (by
            cases h : (Value.slice ao3 (l.length + 1) cap3).ownBlock with
            | none => exact .inl rfl
            | some q => exact .inr (fun e => by rw [h] at hne; exact hne e))
        · intro d hd
          rcases List.mem_append.1 hd with h | h
          · exact HL.out.ok d h
          · rw [List.mem_singleton.1 h]; exact HOK.out
        · exact cell_turned HX4.out.2.1 hG4 (by show w.heap.size ≠ w3.heap.size; omega)
        · exact cell_turned HX4.out.2.2.1 hG4 (by show w.heap.size ≠ w3.heap.size; omega)
        · exact HX4.out.2.2.2.grown hG4 (by omega) (fun k e => by have := Option.some.inj e; omega)
      case measure => simp [lenOf]; omega
end Go.Proofs.YtmmdaegdkikkpaaGreatDoor
end

section
/-
  Contract of schema's ascending at a slice of the call's own: what is handed back holds the different names in lower case and in order, in the same row. Condition: at most 1000000 names of at most 1000000000 bytes.
-/
set_option maxRecDepth 100000
namespace Go.Proofs.YtmmdaegdkikkpaaGreatDoor
open Go.RowKit Go.PlainAid Go.Sort Go.Lib
theorem map_set (l : List ByteArray) (k : Nat) (h : k < l.length) : (scells ((l.take k).map lowS ++ l.drop k)).set k (.string (lowS (partAt l k))) = scells ((l.take (k + 1)).map lowS ++ l.drop (k + 1)) := by
  apply List.ext_getElem?
  intro j
  unfold scells
  have hlen : (l.take k).length = k := by rw [List.length_take]; omega
  have hlen2 : (l.take (k + 1)).length = k + 1 := by rw [List.length_take]; omega
  rw [List.getElem?_set]
  by_cases hj : k = j
  · subst hj
    rw [if_pos rfl, if_pos (by simp; omega), List.getElem?_map, List.getElem?_append_left (by rw [List.length_map]; omega), List.getElem?_map, List.getElem?_take, if_pos (by omega), List.getElem?_eq_getElem h]
    unfold partAt
    rw [List.getD_eq_getElem?_getD, List.getElem?_eq_getElem h]; rfl
  · rw [if_neg hj, List.getElem?_map, List.getElem?_map]
    congr 1
    rcases Nat.lt_or_ge j k with h1 | h1
    · rw [List.getElem?_append_left (by rw [List.length_map]; omega), List.getElem?_append_left (by rw [List.length_map]; omega), List.getElem?_map, List.getElem?_map, List.getElem?_take, List.getElem?_take, if_pos h1, if_pos (by omega)]
    · rw [List.getElem?_append_right (by rw [List.length_map]; omega), List.getElem?_append_right (by rw [List.length_map]; omega), List.length_map, List.length_map, hlen, hlen2, List.getElem?_drop, List.getElem?_drop]
      congr 1; omega
set_option maxHeartbeats 1000000 in
theorem sortc {base g cap : Nat} {l : List ByteArray} {w : World} (hown : w.ownsRow base 9 1 (.slice (some ⟨g, 0, none⟩) l.length cap) l.length (scells l)) (hn : l.length ≤ 1000000) :
    ∃ ts : List (List UInt8), (Calls Tryz.prog 78 #[.slice (some ⟨g, 0, none⟩) l.length cap] w fun e w' => e = .returned (.tuple #[]) ∧ ∃ m os, w' = grow (putRow encStr (Sort.ahead w m) g 0 ts.toArray) os) ∧
      ∀ (m : Nat) (os : Array Obj), Calls Tryz.prog 164 #[.slice (some ⟨g, 0, none⟩) l.length cap] (grow (putRow encStr (Sort.ahead w m) g 0 ts.toArray) os) fun e w' =>
        e = .returned (.slice (some ⟨g, 0, none⟩) (sortU l).length cap) ∧ w'.ownsRow base 9 1 (.slice (some ⟨g, 0, none⟩) (sortU l).length cap) (sortU l).length (scells (sortU l)) ∧ w.grownBy w' (some g) := by
  rcases hown.2 with ⟨h2, _⟩ | ⟨g', cap', cur, h2, hg, hb, hc, hm, hcs, ht⟩
  · cases h2
  · simp only [Value.slice.injEq, Option.some.injEq, Addr.mk.injEq, and_true] at h2
    obtain ⟨rfl, _, rfl⟩ := h2
    obtain ⟨ss, hss⟩ : ∃ ss, (l.map fun s => s.data.toList) = ss := ⟨_, rfl⟩
    have hsl : ss.length = l.length := by rw [← hss, List.length_map]
    have hgl : g < w.heap.size := by
      rcases Nat.lt_or_ge g w.heap.size with h' | h'
      · exact h'
      · simp [Array.getElem?_eq_none h'] at hb
    have hH : Holds encStr w g 0 ss.toArray := holds_of_block hb (by rw [hsl, ← hss, ← cells_enc]; simpa using ht)
    obtain ⟨ts, hts⟩ : ∃ ts, (ss.mergeSort fun x y => decide (x ≤ y)) = ts := ⟨_, rfl⟩
    have htl : ts.length = ss.length := by rw [← hts]; exact sort_len ss
    obtain ⟨cs, hcs'⟩ : ∃ cs, compact ts = cs := ⟨_, rfl⟩
    have hcl : cs.length ≤ ts.length := by rw [← hcs']; exact comp_le ts
    have HE : cs.map toB = sortU l := (by rw [← hcs', ← hts, ← hss]; exact compact_sorted l)
    have hS := AnyM.slices_Sort_string Tryz.sort g 0 cap ss w hH hgl (by omega)
    rw [hsl, hts] at hS
    have hC : ∀ (m : Nat) (os : Array Obj), Calls Tryz.prog 164 #[.slice (some ⟨g, 0, none⟩) l.length cap] (grow (putRow encStr (Sort.ahead w m) g 0 ts.toArray) os) fun e w' =>
        e = .returned (.slice (some ⟨g, 0, none⟩) cs.length cap) ∧ w'.ownsRow base 9 1 (.slice (some ⟨g, 0, none⟩) cs.length cap) cs.length (scells (cs.map toB)) ∧ w.grownBy w' (some g) := by
      intro m os
      have ho1 := ownsRow_sorted (w := w) (n := m) (os := os) (ss := ss) (ts := ts) htl hg hb (by omega) hm (by omega)
      obtain ⟨_, h2⟩ := ho1
      rcases h2 with ⟨h2, _⟩ | ⟨g', cap', cur', h2, _, hb', _, _, hcs2, ht'⟩
      · cases h2
      · simp only [Value.slice.injEq, Option.some.injEq, Addr.mk.injEq, and_true] at h2
        obtain ⟨rfl, _, rfl⟩ := h2
        have hH2 := holds_of_block (ss := ts) hb' (by rw [htl]; simpa using ht')
        have h := AnyG.slices_Compact_string Tryz.compact g 0 cap ts _ hH2 (by omega) (by omega)
        rw [hcs', show ts.length = l.length by omega] at h
        refine h.mono ?_
        rintro e w' ⟨rfl, q, rfl⟩
        refine ⟨rfl, ?_, ?_⟩
        · obtain ⟨W1, hW1⟩ : ∃ W1, grow (putRow encStr (Sort.ahead w m) g 0 ts.toArray) os = W1 := ⟨_, rfl⟩
          rw [hW1] at hb' ⊢
          have ho2 := ownsRow_sorted (n := q) (os := #[]) (ss := ts) (ts := cs ++ List.replicate (l.length - cs.length) []) (by rw [List.length_append, List.length_replicate]; omega) hg hb' (by omega) hm (by omega)
          rw [grow_none] at ho2
          rcases ho2.2 with ⟨h2, _⟩ | ⟨g', cap', cur'', h2, _, hb'', _, _, hcs3, ht''⟩
          · cases h2
          · simp only [Value.slice.injEq, Option.some.injEq, Addr.mk.injEq, and_true] at h2
            obtain ⟨rfl, _, rfl⟩ := h2
            refine ⟨by simp [scells], .inr ⟨g, cap, cur'', rfl, hg, hb'', by omega, hm, hcs3, ?_⟩⟩
            rw [← enc_cells, Nat.mul_one]
            rw [Nat.mul_one] at ht''
            have h3 := congrArg (List.take cs.length) ht''
            rw [List.take_take, Nat.min_eq_left (by omega), List.map_append, List.take_append_of_le_length (by simp), ← List.map_take, List.take_length] at h3
            exact h3
        · have h1 := grownBy_sorted (w := w) (g := g) (n := m) (os := os) ts.toArray
          have h2 := grownBy_sorted (w := grow (putRow encStr (Sort.ahead w m) g 0 ts.toArray) os) (g := g) (n := q) (os := #[]) (cs ++ List.replicate (l.length - cs.length) []).toArray
          rw [grow_none] at h2
          exact grown_two h1 h2
    refine ⟨ts, hS, fun m os => (hC m os).mono ?_⟩
    rintro e w' ⟨rfl, h1, h3⟩
    have hcl2 : (sortU l).length = cs.length := by rw [← HE, List.length_map]
    rw [hcl2, ← HE]
    exact ⟨rfl, h1, h3⟩
set_option maxHeartbeats 4000000 in
theorem ascendingF_s (base n : Nat) (v : Value) (l : List ByteArray) (w : World) (hown : w.ownsRow base 9 1 v n (scells l)) (hl : l.length = n) (hn : n ≤ 1000000) (hz : ∀ s ∈ l, s.size ≤ 1000000000) (hbase : base ≤ w.heap.size) :
    Calls Tryz.prog 179 #[v] w fun e w' => ∃ u, e = .returned u ∧ w'.ownsRow base 9 1 u (sortU (l.map lowS)).length (scells (sortU (l.map lowS))) ∧ Below base w w' := by
  rcases hown.2 with ⟨rfl, h0⟩ | ⟨g, cap, cur, rfl, hg, hb, hc, hm, hcs, ht⟩
  · subst h0
    have hl0 : l = [] := List.length_eq_zero_iff.1 hl
    subst hl0
    go_enter Tryz.func179, Tryz.ntmps179
    go_wp2_with fail
    refine wp_loop_rounds 1 ?_
    rw [rounds_succ]
    go_wp2_with fail
    refine (AnyM.slices_Sort_string_none Tryz.sort none 0 _).mono ?_
    rintro e w1 ⟨rfl, rfl⟩
    go_wp2_with fail
    refine (AnyG.slices_Compact_string_empty Tryz.compact none 0 _).mono ?_
    rintro e w1 ⟨rfl, rfl⟩
    go_wp2_with fail
    go_ret
    exact ⟨_, rfl, World.ownsRow_nil _ _ _ _, Below.refl _ _⟩
  · subst hl
    have HZ := Lib.hid hz; clear hz
    have HO := Lib.hid hown
    clear hown hb hc hcs ht
    go_enter Tryz.func179, Tryz.ntmps179
    go_wp2
    go_loopw [3, 4, 7] (fun s3 s4 i wr => ∃ k : Nat, k ≤ l.length ∧ i = .int .i64 k ∧ Hid (wr.ownsRow base 9 1 (.slice (some ⟨g, 0, none⟩) l.length cap) l.length (scells ((l.take k).map lowS ++ l.drop k))) ∧ Hid (Below base w wr ∧ base ≤ wr.heap.size)) (fun _ _ i _ => l.length - (intOf i).toNat)
    case atStart => exact ⟨0, Nat.zero_le _, rfl, HO, Lib.hid ⟨Below.refl _ _, hbase⟩⟩
    case round =>
      obtain ⟨k, hk, rfl, HR, HB⟩ := hrel
      by_cases hlt : k < l.length
      · have d1 : (k : Int) < (l.length : Int) := by omega
        have c0 : wr.cell? ⟨g, k, none⟩ = some (.string (partAt l k)) := by
          have := HR.out.cells (g := g) rfl k (.string (partAt l k)) (by
            unfold scells
            have hlen : (l.take k).length = k := by rw [List.length_take]; omega
            rw [List.getElem?_map, List.getElem?_append_right (by rw [List.length_map]; omega), List.length_map, hlen, List.getElem?_drop, Nat.sub_self, Nat.add_zero, List.getElem?_eq_getElem hlt]
            unfold partAt
            rw [List.getD_eq_getElem?_getD, List.getElem?_eq_getElem hlt]; rfl)
          rwa [Go.WideShapes.add_plain, Nat.zero_add] at this
        have hps := HZ.out _ (part_mem l k hlt)
        have HM := Lib.hid (map_set l k hlt)
        obtain ⟨p, hp⟩ : ∃ p, partAt l k = p := ⟨_, rfl⟩
        rw [hp] at c0 hps HM
        clear hp
        go_wp2_with fail
        refine (lower_s p _ hps).mono ?_
        rintro e w1 ⟨rfl, hb⟩
        have c1 := cell_later hb c0
        have HR1 := Lib.hid (own_below HR.out hb)
        have f1 : w1.frozen? ⟨g, k, none⟩ = false := HR1.out.frozenAt _
        have HB1 := Lib.hid (show Below base w w1 ∧ base ≤ w1.heap.size from ⟨HB.out.1.trans (hb.mono HB.out.2), Nat.le_trans HB.out.2 hb.size⟩)
        clear hb c0
        go_wp2_with fail
        go_roundw
        case rel =>
          refine ⟨k + 1, by omega, by go_num, Lib.hid ?_, Lib.hid ⟨below_set1 HB1.out.1 g k hg _, by rw [set_size]; exact HB1.out.2⟩⟩
          rw [← HM.out]
          exact (HR1.out.stored k _).1
        case measure => simp [intOf]; omega
      · obtain rfl : k = l.length := by omega
        have d1 : ¬ (l.length : Int) < (l.length : Int) := by omega
        rw [List.take_length, List.drop_length, List.append_nil] at HR
        have hll : (l.map lowS).length = l.length := List.length_map _
        have hown2 := HR.out
        rw [← hll] at hown2
        obtain ⟨ts, hS, hC⟩ := sortc hown2 (by rw [hll]; omega)
        rw [hll] at hS hC
        have HS := Lib.hid hS
        have HC := Lib.hid hC
        clear hS hC hown2
        go_wp2_with fail
        refine HS.out.mono ?_
        rintro e w1 ⟨rfl, m, os, rfl⟩
        go_wp2_with fail
        refine (HC.out m os).mono ?_
        rintro e w1 ⟨rfl, ho, hg2⟩
        go_wp2_with fail
        go_ret
        exact ⟨_, rfl, ho, HB.out.1.grown hg2 HB.out.2 (fun q e => by have := Option.some.inj e; omega)⟩
end Go.Proofs.YtmmdaegdkikkpaaGreatDoor
end

section
/-
  Contracts of the table's must and may. Condition: names of at most 1000000000 bytes, lists of at most 64 names.
-/
set_option maxRecDepth 100000
namespace Go.Proofs.YtmmdaegdkikkpaaGreatDoor
open Go.RowKit Go.PlainAid
/-- the lists of the classes are short -/
def FewC (cs : List Cl) : Prop := ∀ c ∈ cs, c.must.length ≤ 64 ∧ c.may.length ≤ 64
theorem fewC_sound (ts : List Ty) (cs : List Cl) : FewC (soundC ts cs) := by
  intro c hc
  have hs : chkS ts cs = 0 := by
    unfold soundC at hc
    split at hc
    · assumption
    · cases hc
  have he : soundC ts cs = cs := if_pos hs
  rw [he] at hc
  obtain ⟨k, hk, rfl⟩ := mem_cl hc
  have h := hs
  unfold chkS at h
  split at h
  · cases h
  · split at h
    · exact absurd h ‹_›
    · split at h
      · exact absurd h ‹_›
      · rename_i h3
        have h0 := firstE_none (Classical.not_not.1 h3) k hk
        unfold errC at h0
        split at h0
        · cases h0
        · split at h0
          · cases h0
          · split at h0
            · cases h0
            · split at h0
              · cases h0
              · rename_i h4; omega
theorem smC_sound {ts : List Ty} {cs : List Cl} (h : SmC cs) : SmC (soundC ts cs) := by
  unfold soundC
  split
  · exact h
  · intro c hc; cases hc
def mustL (l : List Cl) : List ByteArray := l.flatMap fun c => c.must
def mayL (l : List Cl) : List ByteArray := l.flatMap fun c => c.may
theorem mustL_snoc (l : List Cl) (c : Cl) : mustL (l ++ [c]) = mustL l ++ c.must := by simp [mustL]
theorem mayL_snoc (l : List Cl) (c : Cl) : mayL (l ++ [c]) = mayL l ++ c.may := by simp [mayL]
theorem flat_few {f : Cl → List ByteArray} : ∀ {l : List Cl}, (∀ c ∈ l, (f c).length ≤ 64) → (l.flatMap f).length ≤ l.length * 64
  | [], _ => Nat.zero_le _
  | c :: l, h => by
    rw [List.flatMap_cons, List.length_append, List.length_cons]
    have h1 := h c (List.mem_cons_self ..)
    have h2 := flat_few (f := f) (l := l) (fun d hd => h d (List.mem_cons_of_mem _ hd))
    omega
/-- the cells of the class j of a slice of the call's own -/
theorem cls_at {w : World} {base n : Nat} {g cap : Nat} {l : List Cv} (h : w.ownsRow base 64 4 (.slice (some ⟨g, 0, none⟩) n cap) n (ccells l)) (j : Nat) (hj : j < l.length) :
    w.cell? ⟨g, j * 4, none⟩ = some (.string (l.getD j default).cl.name) ∧ w.cell? ⟨g, j * 4 + 1, none⟩ = some (.string (l.getD j default).cl.super) ∧ w.cell? ⟨g, j * 4 + 2, none⟩ = some (l.getD j default).hm ∧ w.cell? ⟨g, j * 4 + 3, none⟩ = some (l.getD j default).hy := by
  have key : ∀ i u, i < 4 → (cvC (l.getD j default))[i]? = some u → w.cell? ⟨g, j * 4 + i, none⟩ = some u := fun i u hi hu => by
    have := h.cells (g := g) rfl (j * 4 + i) u ((flat_at cvC 4 (fun _ => rfl) default l j i hj hi).trans hu)
    rwa [Go.WideShapes.add_plain, Nat.zero_add] at this
  exact ⟨key 0 _ (by omega) rfl, key 1 _ (by omega) rfl, key 2 _ (by omega) rfl, key 3 _ (by omega) rfl⟩
theorem cv_take (l : List Cv) (k : Nat) (h : k < l.length) : l.take (k + 1) = l.take k ++ [l.getD k default] := by
  rw [List.getD_eq_getElem?_getD, List.getElem?_eq_getElem h]; exact List.take_succ_eq_append_getElem h
theorem cv_mem (l : List Cv) (k : Nat) (h : k < l.length) : l.getD k default ∈ l := by
  rw [List.getD_eq_getElem?_getD, List.getElem?_eq_getElem h]; exact List.getElem_mem h
theorem own_loc {w : World} {base n size : Nat} {e : TypeId} {v : Value} {xs : List Value} (h : w.ownsRow base e size v n xs) (hn : 0 < n) : ∃ g cap, v = .slice (some ⟨g, 0, none⟩) n cap ∧ base ≤ g ∧ g < w.heap.size := by
  rcases h.2 with ⟨rfl, h0⟩ | ⟨g, cap, cur, rfl, _⟩
  · omega
  · exact ⟨g, cap, rfl, h.lt g rfl⟩
theorem scells_app (a b : List ByteArray) : scells (a ++ b) = scells a ++ scells b := List.map_append
set_option maxHeartbeats 8000000 in
theorem must_s (mt mc : Option Nat) (w0 : World) (cs : List Cl) (n : ByteArray) (w : World) (h0 : Below w0.heap.size w0 w) (h : CMap w0 w mc cs) (hS : SoundC cs) (hL : cs.length ≤ 1000) (hZ : SmC cs) (hF : FewC cs) (hn : n.size ≤ 1000000000) :
    Calls Tryz.prog 113 #[.agg #[.map mt, .map mc], .string n] w fun e w' => ∃ u : Value, e = .returned u ∧ w'.ownsRow (w.heap.size + 1) 9 1 u (mustS cs n).length (scells (mustS cs n)) ∧ Below w.heap.size w w' := by
  have HZ := Lib.hid hZ; have HF := Lib.hid hF; have H0 := Lib.hid h0
  have hB0 : Below w.heap.size w (w.alloc (.cells #[.map mt, .map mc] 130)) := (Below.refl _ _).alloc (Nat.le_refl _) _
  have HB0 := Lib.hid hB0
  have HC := Lib.hid (lineage_s mt mc w0 cs n _ (h.below hB0) hS hL hZ hn)
  have hlen := lineS_small hS n
  have HS := Lib.hid hS
  clear h hS hZ hF h0 hB0
  go_enter Tryz.func113, Tryz.ntmps113
  go_wp2_with fail
  refine HC.out.mono ?_
  rintro e w1 ⟨u, l, rfl, hl, hok, hown, hb⟩
  have HM := Lib.hid (show ∀ c ∈ l, c.cl ∈ cs from fun c hc => lineS_mem (n := n) (by rw [← hl]; exact List.mem_map_of_mem hc))
  have hll : l.length ≤ 1000 := by rw [← ccls_len, hl]; omega
  have HE := Lib.hid (show mustS cs n = sortU ((mustL (ccls l)).map lowS) by rw [mustS_eq, hl]; rfl)
  have HOK := Lib.hid hok
  have HB1 := Lib.hid (show Below w.heap.size w w1 ∧ w.heap.size + 1 ≤ w1.heap.size from ⟨HB0.out.trans (hb.mono (by simp)), by have := hb.size; simpa using this⟩)
  have HOW := Lib.hid hown
  obtain ⟨ao, cap, rfl⟩ := own_slc hown
  clear hb hok hl hown HB0 HC hlen HS
  go_wp2_with fail
  go_loopw [5, 7, 12] (fun s5 s7 i wr => ∃ (k : Nat), k ≤ l.length ∧ i = .int .i64 k ∧ Hid (wr.ownsRow w1.heap.size 9 1 s5 (mustL (ccls (l.take k))).length (scells (mustL (ccls (l.take k))))) ∧ Hid (Below w1.heap.size w1 wr)) (fun _ _ i _ => l.length - (intOf i).toNat)
  case atStart => exact ⟨0, Nat.zero_le _, rfl, Lib.hid (World.ownsRow_nil _ _ _ _), Lib.hid (Below.refl _ _)⟩
  case round =>
    obtain ⟨k, hk, rfl, HO, HB⟩ := hrel
    by_cases hlt : k < l.length
    · have d1 : (k : Int) < (l.length : Int) := by omega
      obtain ⟨g, cap', e, hg1, hg2⟩ := own_loc HOW.out (by omega)
      simp only [Value.slice.injEq] at e
      obtain ⟨rfl, _, rfl⟩ := e
      obtain ⟨c0, c1, c2, c3⟩ := cls_at HOW.out k hlt
      have hmem := cv_mem l k hlt
      have HT := Lib.hid (show mustL (ccls (l.take (k + 1))) = mustL (ccls (l.take k)) ++ (l.getD k default).cl.must by rw [cv_take l k hlt, ccls_snoc, mustL_snoc])
      have hcm := HM.out _ hmem
      have hfw := (HF.out _ hcm).1
      obtain ⟨hHm, hHy⟩ := HOK.out _ hmem
      have hlen : (mustL (ccls (l.take k))).length ≤ 64000 := by
        have h1 := flat_few (f := fun c => c.must) (l := ccls (l.take k)) (fun c hc => by
          obtain ⟨d, hd, rfl⟩ := List.mem_map.1 hc
          exact (HF.out _ (HM.out d (List.mem_of_mem_take hd))).1)
        have h2 : (ccls (l.take k)).length ≤ 1000 := by rw [ccls_len, List.length_take]; omega
        show ((ccls (l.take k)).flatMap fun c => c.must).length ≤ 64000
        omega
      obtain ⟨d, hd⟩ : ∃ d, l.getD k default = d := ⟨_, rfl⟩
      rw [hd] at c0 c1 c2 c3 HT hfw hHm hHy
      clear hd hmem hcm
      obtain ⟨vo, vn, vc, e1, hv⟩ := hHm
      obtain ⟨uo, un, uc, e2, hu⟩ := hHy
      rw [e1] at c2
      rw [e2] at c3
      clear e1 e2 hu
      have c0 := cell_later HB.out c0
      have c1 := cell_later HB.out c1
      have c2 := cell_later HB.out c2
      have c3 := cell_later HB.out c3
      have hvn := hv.1
      have hal := (Below.refl wr.heap.size wr).alloc (Nat.le_refl _) (.cells #[.string d.cl.name, .string d.cl.super, .slice vo vn vc, .slice uo un uc] 64)
      have HV := Lib.hid (show StrsAt (wr.alloc (.cells #[.string d.cl.name, .string d.cl.super, .slice vo vn vc, .slice uo un uc] 64)) vo vn vc d.cl.must from ((hv.below (H0.out.trans (HB1.out.1.mono H0.out.size))).below (HB.out.trans (hal.mono HB.out.size))))
      have hown1 := HO.out.alloc (.cells #[.string d.cl.name, .string d.cl.super, .slice vo vn vc, .slice uo un uc] 64)
      have hsz1 : w1.heap.size ≤ (wr.alloc (.cells #[.string d.cl.name, .string d.cl.super, .slice vo vn vc, .slice uo un uc] 64)).heap.size := by have := HB.out.size; simp; omega
      have HAL := Lib.hid (HB.out.trans (hal.mono HB.out.size))
      clear hv hal
      go_wp2_with (at_builtin; go_must (refine push_strs (wr.alloc (.cells #[.string d.cl.name, .string d.cl.super, .slice vo vn vc, .slice uo un uc] 64)) hown1 (.tmp 16) (.tmp 18) HV.out ?_ ?_ ?_ ?_ ?_ ?_ ?_; exact rfl; exact rfl; exact rfl; exact rfl; omega; exact hsz1; intro v3 w3 hown3 hg3 hl3))
      have HO3 := Lib.hid hown3
      have HB3 := Lib.hid (HAL.out.grown hg3 hsz1 (fun q e => (hown1.lt q e).1))
      clear hown3 hg3 hl3 hown1
      go_roundw
      case rel =>
        refine ⟨k + 1, by omega, by go_num, Lib.hid ?_, HB3⟩
        rw [HT.out, List.length_append, hvn, scells_app]
        exact HO3.out
      case measure => simp [intOf]; omega
    · obtain rfl : k = l.length := by omega
      have d1 : ¬ (l.length : Int) < (l.length : Int) := by omega
      rw [List.take_length] at HO
      have hlen : (mustL (ccls l)).length ≤ 64000 := by
        have h1 := flat_few (f := fun c => c.must) (l := ccls l) (fun c hc => by
          obtain ⟨d, hd, rfl⟩ := List.mem_map.1 hc
          exact (HF.out _ (HM.out d hd)).1)
        have h2 : (ccls l).length ≤ 1000 := by rw [ccls_len]; omega
        show ((ccls l).flatMap fun c => c.must).length ≤ 64000
        omega
      have HC := Lib.hid (ascendingF_s w1.heap.size _ _ (mustL (ccls l)) wr HO.out rfl (by omega) (fun s hs => by
        obtain ⟨c, hc, hsc⟩ := List.mem_flatMap.1 hs
        obtain ⟨d, hd, rfl⟩ := List.mem_map.1 hc
        exact (HZ.out _ (HM.out d hd)).2.2.1 s hsc) HB.out.size)
      go_wp2_with fail
      refine HC.out.mono ?_
      rintro e w3 ⟨u, rfl, ho, hb⟩
      have HO3 := Lib.hid ho
      have HB3 := Lib.hid (HB.out.trans hb)
      clear ho hb
      go_wp2_with fail
      go_ret
      exact ⟨_, rfl, by rw [HE.out]; exact HO3.out.mono HB1.out.2, HB1.out.1.trans (HB3.out.mono (by have := HB1.out.2; omega))⟩
end Go.Proofs.YtmmdaegdkikkpaaGreatDoor
end

section
/-
  DERIVED: THE SHELF's CONTRACTS AT THIS DUMP, IN PLAIN WORDS (tools/lay-plain.mjs out of 'TryzShelfSSrc.lean', which tools/lay-shelf.mjs wrote): THE SAME DECLARATIONS UNDER THE SAME NAMES: 'import', 'namespace', 'open', 'def', 'theorem' AND NOTHING ELSE: no command of the shelf's: FOR A HAND-IN. Each laying: the table of numbers ('.._ren') and one theorem, a field a fact of the dump's own or the kernel's comparison; each contract: ONE APPLICATION.
-/
namespace Go.Proofs
open Go.Shelf
def Tryz.lays170_ren : Go.Shelf.Ren := ⟨fun | 170 => 58 | n => n, fun | 70 => 76 | 3 => 3 | 0 => 0 | 72 => 79 | 37 => 77 | 5 => 5 | n => n, fun | n => n⟩
theorem Tryz.lays170 : Go.Proofs.Lays.n170 Tryz.prog Tryz.lays170_ren := {
  mixed := by kernel_rfl
  f170 := Tryz.func58.trans (congrArg some (by kernel_rfl))
  t0 := Tryz.underlying0
  a0 := Tryz.isAgg0
  z0 := Tryz.sizeOf0
  v0 := Tryz.zeroValue0
  t3 := Tryz.underlying3
  a3 := Tryz.isAgg3
  z3 := Tryz.sizeOf3
  v3 := Tryz.zeroValue3
  t37 := Tryz.underlying77
  a37 := Tryz.isAgg77
  z37 := Tryz.sizeOf77
  v37 := Tryz.zeroValue77
  t70 := Tryz.underlying76
  a70 := Tryz.isAgg76
  z70 := Tryz.sizeOf76
  v70 := Tryz.zeroValue76
  t72 := Tryz.underlying79
  a72 := Tryz.isAgg79
  z72 := Tryz.sizeOf79
  v72 := Tryz.zeroValue79 }
open Go.RowKit in
/-- (*strings.Builder).Len: "Len returns the number of accumulated bytes; b.Len() == len(b.String()).": the world is as it was. (LAID: no walk: one application.) -/
theorem Tryz.Builder_Len (B b : Nat) (bs : List Value) (w : World) (h : Lib.IsBuilder 79 5 B b bs w) :
    Calls Tryz.prog 58 #[.pointer (some ⟨b, 0, none⟩)] w fun e w' => e = .returned (.int .i64 bs.length) ∧ w' = w := Any.Builder_Len Tryz.lays170 B b bs w h
def Tryz.lays156_ren : Go.Shelf.Ren := ⟨fun | 156 => 116 | 165 => 181 | 166 => 55 | 169 => 59 | 240 => 115 | 241 => 244 | 276 => 180 | 277 => 276 | n => n, fun | 31 => 55 | 9 => 9 | 3 => 3 | 4 => 4 | 0 => 0 | 20 => 20 | 72 => 79 | 76 => 82 | 70 => 76 | 37 => 77 | 75 => 81 | 127 => 141 | 164 => 180 | 5 => 5 | 80 => 87 | n => n, fun | n => n⟩
theorem Tryz.lays156 : Go.Proofs.Lays.n156 Tryz.prog Tryz.lays156_ren := {
  mixed := by kernel_rfl
  f156 := Tryz.func116.trans (congrArg some (by kernel_rfl))
  f165 := Tryz.func181.trans (congrArg some (by kernel_rfl))
  f166 := Tryz.func55.trans (congrArg some (by kernel_rfl))
  f169 := Tryz.func59.trans (congrArg some (by kernel_rfl))
  f240 := Tryz.func115.trans (congrArg some (by kernel_rfl))
  f241 := Tryz.func244.trans (congrArg some (by kernel_rfl))
  f276 := Tryz.func180.trans (congrArg some (by kernel_rfl))
  f277 := Tryz.func276.trans (congrArg some (by kernel_rfl))
  t0 := Tryz.underlying0
  a0 := Tryz.isAgg0
  z0 := Tryz.sizeOf0
  v0 := Tryz.zeroValue0
  t3 := Tryz.underlying3
  a3 := Tryz.isAgg3
  z3 := Tryz.sizeOf3
  v3 := Tryz.zeroValue3
  t4 := Tryz.underlying4
  a4 := Tryz.isAgg4
  z4 := Tryz.sizeOf4
  v4 := Tryz.zeroValue4
  t9 := Tryz.underlying9
  a9 := Tryz.isAgg9
  z9 := Tryz.sizeOf9
  v9 := Tryz.zeroValue9
  t20 := Tryz.underlying20
  a20 := Tryz.isAgg20
  z20 := Tryz.sizeOf20
  v20 := Tryz.zeroValue20
  t31 := Tryz.underlying55
  a31 := Tryz.isAgg55
  z31 := Tryz.sizeOf55
  v31 := Tryz.zeroValue55
  t37 := Tryz.underlying77
  a37 := Tryz.isAgg77
  z37 := Tryz.sizeOf77
  v37 := Tryz.zeroValue77
  t70 := Tryz.underlying76
  a70 := Tryz.isAgg76
  z70 := Tryz.sizeOf76
  v70 := Tryz.zeroValue76
  t72 := Tryz.underlying79
  a72 := Tryz.isAgg79
  z72 := Tryz.sizeOf79
  v72 := Tryz.zeroValue79
  t75 := Tryz.underlying81
  a75 := Tryz.isAgg81
  z75 := Tryz.sizeOf81
  v75 := Tryz.zeroValue81
  t76 := Tryz.underlying82
  a76 := Tryz.isAgg82
  z76 := Tryz.sizeOf82
  v76 := Tryz.zeroValue82
  t127 := Tryz.underlying141
  a127 := Tryz.isAgg141
  z127 := Tryz.sizeOf141
  v127 := Tryz.zeroValue141
  t164 := Tryz.underlying180
  a164 := Tryz.isAgg180
  z164 := Tryz.sizeOf180
  v164 := Tryz.zeroValue180 }
theorem Tryz.Builder_Extra_156 : Builder.Extra Tryz.prog Tryz.lays156_ren := {
  sizeBuilder := by kernel_rfl
  liesBuilder := by kernel_rfl
  t5 := Tryz.underlying5
  a5 := Tryz.isAgg5
  z5 := Tryz.sizeOf5
  v5 := Tryz.zeroValue5
  infoByte := by kernel_rfl
  cellsByte := by kernel_rfl
  sizeByte := by kernel_rfl
  neB5 := by decide }
open Go.RowKit in
/-- strings.Join: "Join concatenates the elements of its first argument to create a single string. The separator string sep is placed between elements in the resulting string.": HOWEVER MANY ELEMENTS. Below the heap's end the world is as it was. (LAID: no walk: one application.) -/
theorem Tryz.strings_Join (bk o c : Nat) (xs : List ByteArray) (sep : ByteArray) (w : World) (hcells : ∀ (j : Nat) x, xs[j]? = some x → w.cell? ⟨bk, o + j, none⟩ = some (.string x)) (hbk : bk < w.heap.size) (hN : xs.length ≤ 140737488355328) (hcap : xs.length ≤ c) (hlen : (Lib.join (xs.map (·.data.toList)) sep.data.toList).length ≤ 140737488355328) :
    Calls Tryz.prog 116 #[.slice (some ⟨bk, o, none⟩) xs.length c, .string sep] w fun e w' => e = .returned (.string ⟨(Lib.join (xs.map (·.data.toList)) sep.data.toList).toArray⟩) ∧ Below w.heap.size w w' := Any.strings_Join Tryz.lays156 Tryz.Builder_Extra_156 bk o c xs sep w hcells hbk hN hcap hlen
def Tryz.lays146_ren : Go.Shelf.Ren := ⟨fun | 146 => 122 | 221 => 187 | 268 => 249 | 138 => 250 | 143 => 251 | 195 => 279 | 197 => 280 | 218 => 281 | 219 => 186 | 260 => 299 | 217 => 245 | 225 => 246 | 224 => 247 | 267 => 248 | 266 => 277 | 314 => 278 | n => n, fun | 9 => 9 | 31 => 55 | 3 => 3 | 4 => 4 | 0 => 0 | 105 => 244 | 21 => 21 | 5 => 5 | 46 => 158 | 119 => 270 | 139 => 273 | 138 => 272 | 146 => 241 | 51 => 206 | n => n, fun | 1 => 1 | 3 => 4 | 4 => 5 | n => n⟩
theorem Tryz.lays146 : Go.Proofs.Lays.n146 Tryz.prog Tryz.lays146_ren := {
  mixed := by kernel_rfl
  f138 := Tryz.func250.trans (congrArg some (by kernel_rfl))
  f143 := Tryz.func251.trans (congrArg some (by kernel_rfl))
  f146 := Tryz.func122.trans (congrArg some (by kernel_rfl))
  f195 := Tryz.func279.trans (congrArg some (by kernel_rfl))
  f197 := Tryz.func280.trans (congrArg some (by kernel_rfl))
  f217 := Tryz.func245.trans (congrArg some (by kernel_rfl))
  f218 := Tryz.func281.trans (congrArg some (by kernel_rfl))
  f219 := Tryz.func186.trans (congrArg some (by kernel_rfl))
  f221 := Tryz.func187.trans (congrArg some (by kernel_rfl))
  f224 := Tryz.func247.trans (congrArg some (by kernel_rfl))
  f225 := Tryz.func246.trans (congrArg some (by kernel_rfl))
  f260 := Tryz.func299.trans (congrArg some (by kernel_rfl))
  f266 := Tryz.func277.trans (congrArg some (by kernel_rfl))
  f267 := Tryz.func248.trans (congrArg some (by kernel_rfl))
  f268 := Tryz.func249.trans (congrArg some (by kernel_rfl))
  f314 := Tryz.func278.trans (congrArg some (by kernel_rfl))
  t0 := Tryz.underlying0
  a0 := Tryz.isAgg0
  z0 := Tryz.sizeOf0
  v0 := Tryz.zeroValue0
  t3 := Tryz.underlying3
  a3 := Tryz.isAgg3
  z3 := Tryz.sizeOf3
  v3 := Tryz.zeroValue3
  t4 := Tryz.underlying4
  a4 := Tryz.isAgg4
  z4 := Tryz.sizeOf4
  v4 := Tryz.zeroValue4
  t5 := Tryz.underlying5
  a5 := Tryz.isAgg5
  z5 := Tryz.sizeOf5
  v5 := Tryz.zeroValue5
  t9 := Tryz.underlying9
  a9 := Tryz.isAgg9
  z9 := Tryz.sizeOf9
  v9 := Tryz.zeroValue9
  t21 := Tryz.underlying21
  a21 := Tryz.isAgg21
  z21 := Tryz.sizeOf21
  v21 := Tryz.zeroValue21
  t31 := Tryz.underlying55
  a31 := Tryz.isAgg55
  z31 := Tryz.sizeOf55
  v31 := Tryz.zeroValue55
  t46 := Tryz.underlying158
  a46 := Tryz.isAgg158
  z46 := Tryz.sizeOf158
  v46 := Tryz.zeroValue158
  t51 := Tryz.underlying206
  a51 := Tryz.isAgg206
  z51 := Tryz.sizeOf206
  v51 := Tryz.zeroValue206
  t105 := Tryz.underlying244
  a105 := Tryz.isAgg244
  z105 := Tryz.sizeOf244
  v105 := Tryz.zeroValue244
  t119 := Tryz.underlying270
  a119 := Tryz.isAgg270
  z119 := Tryz.sizeOf270
  t138 := Tryz.underlying272
  a138 := Tryz.isAgg272
  z138 := Tryz.sizeOf272
  v138 := Tryz.zeroValue272
  t139 := Tryz.underlying273
  a139 := Tryz.isAgg273
  z139 := Tryz.sizeOf273
  v139 := Tryz.zeroValue273
  t146 := Tryz.underlying241
  a146 := Tryz.isAgg241
  z146 := Tryz.sizeOf241
  v146 := Tryz.zeroValue241
  g1 := by kernel_rfl
  g3 := by kernel_rfl
  g4 := by kernel_rfl }
open Go.RowKit Go.Lib in
/-- strings.Split. (LAID: no walk: one application.) -/
theorem Tryz.strings_Split (s sep : ByteArray) (m : Int) (w : World) (hs : s.size < 4294967281) (hm : w.cell? ⟨1, 0, none⟩ = some (.int .i64 m)) (h1 : 1 ≤ sep.size) :
    Calls Tryz.prog 122 #[.string s, .string sep] w fun e w' =>
      e = .returned (.slice (some ⟨w.heap.size, 0, none⟩) (Lib.countB s sep + 1) (Lib.countB s sep + 1)) ∧ w' = w.alloc (.cells ((Lib.splitB sep 0 (Lib.countB s sep) s).map Value.string).toArray 9) := Any.strings_Split Tryz.lays146 (by kernel_rfl) s sep m w hs hm h1
end Go.Proofs
end

section
/-
  Contracts of schema's listWord, typeLine and classLine. Condition: names of at most 1000000000 bytes, lists of at most 1000 names; syntaxWords reads as its five words.
-/
set_option maxRecDepth 100000
namespace Go.Proofs.YtmmdaegdkikkpaaGreatDoor
open Go.RowKit Go.PlainAid
def joinB (sep : UInt8) (l : List ByteArray) : ByteArray := ⟨(Lib.join (l.map (·.data.toList)) [sep]).toArray⟩
theorem join_le (sep : UInt8) (M : Nat) : ∀ l : List (List UInt8), (∀ x ∈ l, x.length ≤ M) → (Lib.join l [sep]).length ≤ l.length * (M + 1)
  | [], _ => by simp [Lib.join]
  | [x], h => by
    have := h x (List.mem_singleton.2 rfl)
    simp [Lib.join]; omega
  | x :: y :: r, h => by
    have h1 := h x (List.mem_cons_self ..)
    have ih := join_le sep M (y :: r) (fun z hz => h z (List.mem_cons_of_mem _ hz))
    have e : Lib.join (x :: y :: r) [sep] = x ++ [sep] ++ Lib.join (y :: r) [sep] := by simp [Lib.join]
    have e2 : (x :: y :: r).length * (M + 1) = (y :: r).length * (M + 1) + (M + 1) := by rw [List.length_cons, Nat.succ_mul]
    rw [e, List.length_append, List.length_append, e2]
    show x.length + 1 + (Lib.join (y :: r) [sep]).length ≤ _
    omega
theorem joinF_s (sep : UInt8) (ao : Option Addr) (n cap : Nat) (l : List ByteArray) (w : World) (h : StrsAt w ao n cap l) (hn : 0 < n) (hl : n ≤ 1000) (hz : ∀ s ∈ l, s.size ≤ 1000000000) :
    Calls Tryz.prog 116 #[.slice ao n cap, .string ⟨#[sep]⟩] w fun e w' => e = .returned (.string (joinB sep l)) ∧ Below w.heap.size w w' := by
  obtain ⟨h1, h2, h3, h4⟩ := h
  subst h1
  obtain ⟨b, off, rfl, hb, hc⟩ := h4 hn
  refine Tryz.strings_Join b off cap l ⟨#[sep]⟩ w (fun j x hj => ?_) hb (by omega) h2 ?_
  · obtain ⟨hj1, hj2⟩ := List.getElem?_eq_some_iff.1 hj
    have := hc j hj1
    unfold partAt at this
    rw [List.getD_eq_getElem?_getD, List.getElem?_eq_getElem hj1, hj2] at this
    exact this
  · have := join_le sep 1000000000 (l.map (·.data.toList)) (fun x hx => by
      obtain ⟨s, hs, rfl⟩ := List.mem_map.1 hx
      have := hz s hs
      rw [← Lib.size_eq]; exact this)
    rw [List.length_map] at this
    have h5 : l.length * (1000000000 + 1) ≤ 1000 * 1000000001 := Nat.mul_le_mul_right _ hl
    show (Lib.join (l.map (·.data.toList)) [sep]).length ≤ 140737488355328
    omega
theorem joinB_size {sep : UInt8} {l : List ByteArray} (hl : l.length ≤ 1000) (hz : ∀ s ∈ l, s.size ≤ 1000000000) : (joinB sep l).size ≤ 1000000001000 := by
  have := join_le sep 1000000000 (l.map (·.data.toList)) (fun x hx => by
    obtain ⟨s, hs, rfl⟩ := List.mem_map.1 hx
    have := hz s hs
    rw [← Lib.size_eq]; exact this)
  rw [List.length_map] at this
  have h5 : l.length * (1000000000 + 1) ≤ 1000 * 1000000001 := Nat.mul_le_mul_right _ hl
  unfold joinB
  rw [Lib.size_mk]; omega
def listW (l : List ByteArray) : ByteArray := if l.length = 0 then ⟨#[45]⟩ else joinB 44 l
theorem listWord_s (ao : Option Addr) (n cap : Nat) (l : List ByteArray) (w : World) (h : StrsAt w ao n cap l) (hl : n ≤ 1000) (hz : ∀ s ∈ l, s.size ≤ 1000000000) :
    Calls Tryz.prog 117 #[.slice ao n cap] w fun e w' => e = .returned (.string (listW l)) ∧ Below w.heap.size w w' := by
  by_cases hn : n = 0
  · subst hn
    have HE := Lib.hid (show listW l = ⟨#[45]⟩ by unfold listW; rw [h.1]; rfl)
    go_enter Tryz.func117, Tryz.ntmps117
    go_wp2_with fail
    go_ret
    exact ⟨by rw [HE.out]; rfl, Below.refl _ _⟩
  · have HE := Lib.hid (show listW l = joinB 44 l by unfold listW; rw [h.1, if_neg hn])
    have HC := Lib.hid (joinF_s 44 ao n cap l w h (by omega) hl hz)
    have d1 : ((n : Int) == 0) = false := by simp; omega
    clear h
    go_enter Tryz.func117, Tryz.ntmps117
    go_wp2_with fail
    refine HC.out.mono ?_
    rintro e w1 ⟨rfl, hb⟩
    have HB := Lib.hid hb; clear hb
    go_wp2_with fail
    go_ret
    exact ⟨by rw [HE.out]; rfl, HB.out⟩
/-- the words of the syntaxes -/
def synW (x : Int) : ByteArray := if x = 1 then ⟨#[116, 101, 120, 116]⟩ else if x = 2 then ⟨#[101, 120, 97, 99, 116]⟩ else if x = 3 then ⟨#[105, 110, 116]⟩ else if x = 4 then ⟨#[110, 97, 109, 101]⟩ else ⟨#[98, 111, 111, 108]⟩
def SynOk (w : World) : Prop := ∀ k : Nat, k < 5 → w.cell? ⟨0, k, none⟩ = some (.string (synW ((k : Int) + 1)))
theorem SynOk.lt {w : World} (h : SynOk w) : 0 < w.heap.size := by
  have := h 0 (by decide)
  unfold World.cell? at this
  rcases Nat.lt_or_ge 0 w.heap.size with k | k
  · exact k
  · simp [Array.getElem?_eq_none k] at this
theorem SynOk.below {w w' : World} (h : SynOk w) (hb : Below w.heap.size w w') : SynOk w' := fun k hk => cell_later hb (h k hk)
def typeN : ByteArray := ⟨#[116, 121, 112, 101]⟩
def singleN : ByteArray := ⟨#[115, 105, 110, 103, 108, 101]⟩
def typeLn (t : Ty) : ByteArray := joinB 32 ([typeN, t.name, synW t.syn] ++ if t.single then [singleN] else []) ++ ⟨#[10]⟩
theorem own_three (w : World) (x y z : ByteArray) : (w.alloc (.cells #[.string x, .string y, .string z] 9)).ownsRow w.heap.size 9 1 (.slice (some ⟨w.heap.size, 0, none⟩) 3 3) 3 (scells [x, y, z]) :=
  ⟨rfl, .inr ⟨w.heap.size, 3, _, rfl, Nat.le_refl _, heap_alloc_new w _, Nat.le_refl _, by unfold maxLen; omega, rfl, rfl⟩⟩
set_option maxHeartbeats 4000000 in
theorem typeLine_s (t : Ty) (w : World) (hz : t.name.size ≤ 1000000000) (h1 : 1 ≤ t.syn) (h5 : t.syn ≤ 5) (ho : SynOk w) :
    Calls Tryz.prog 56 #[.agg #[.string t.name, .int .i64 t.syn, .bool t.single]] w fun e w' => e = .returned (.string (typeLn t)) ∧ Below w.heap.size w w' := by
  obtain ⟨nm, syn, sg⟩ := t
  simp only at hz h1 h5 ⊢
  obtain ⟨k, hk, rfl⟩ : ∃ k : Nat, k < 5 ∧ syn = (k : Int) + 1 := ⟨(syn - 1).toNat, by omega, by omega⟩
  have hX := (Below.refl w.heap.size w).alloc (Nat.le_refl _) (.cells #[.string nm, .int .i64 ((k : Int) + 1), .bool sg] 62)
  have hcell := (ho.below hX) k hk
  have hlt := ho.lt
  obtain ⟨sw, hsw⟩ : ∃ s, synW ((k : Int) + 1) = s := ⟨_, rfl⟩
  rw [hsw] at hcell
  have HSW := Lib.hid hsw
  have HX := Lib.hid hX
  clear ho hX hsw
  go_enter Tryz.func56, Tryz.ntmps56
  go_wp2_with fail
  refine wp_region_still_tail 7 (by kernel_rfl) (by kernel_rfl) ?_
  simp only [List.take_succ_cons, List.take_zero, List.drop_succ_cons, List.drop_zero]
  change wpStill _ _ (World.drew _) _ _ _
  still_step
  still_step
  still_step
  still_step
  still_step
  have e0 : IntKind.i64.wrap (k : Int) = (k : Int) := by simp [IntKind.wrap, IntKind.bits, IntKind.signed]; omega
  have d1 : (0 : Int) ≤ (k : Int) := by omega
  have d2 : (k : Int) < 5 := by omega
  still_step
  still_step
  refine wpStill_nil ?_
  change wpList _ _ _ _ _ (World.drew _)
  have hown := own_below (own_three (w.alloc (.cells #[.string nm, .int .i64 ((k : Int) + 1), .bool sg] 62)) typeN nm sw) (Below.refl _ _).drew
  rw [World.size_alloc] at hown
  have HBd := Lib.hid (show Below w.heap.size w (((w.alloc (.cells #[.string nm, .int .i64 ((k : Int) + 1), .bool sg] 62)).alloc (.cells #[.string typeN, .string nm, .string sw] 9)).drew) from (HX.out.alloc (by simp) _).drew)
  have hsws : sw.size ≤ 1000000000 := by rw [← HSW.out]; unfold synW; repeat (split <;> try decide)
  have HZS := Lib.hid (show ∀ s ∈ [typeN, nm, sw, singleN], s.size ≤ 1000000000 by
    intro s hs
    simp only [List.mem_cons, List.not_mem_nil, or_false] at hs
    rcases hs with rfl | rfl | rfl | rfl
    · decide
    · exact hz
    · exact hsws
    · decide)
  cases sg
  · have HE := Lib.hid (show typeLn ⟨nm, (k : Int) + 1, false⟩ = joinB 32 [typeN, nm, sw] ++ ⟨#[10]⟩ by unfold typeLn; simp only; rw [HSW.out]; rfl)
    obtain ⟨ao, cap, e, hS⟩ := strs_own hown rfl
    simp only [Value.slice.injEq] at e
    obtain ⟨rfl, _, rfl⟩ := e
    have HC := Lib.hid (joinF_s 32 _ 3 3 _ _ hS (by decide) (by decide) (fun s hs => HZS.out s (by simp only [List.mem_cons, List.not_mem_nil, or_false] at hs ⊢; rcases hs with h | h | h <;> simp [h])))
    clear hown hS
    unfold typeN at HC HBd
    go_wp2_with fail
    refine HC.out.mono ?_
    rintro e w1 ⟨rfl, hb⟩
    have HB := Lib.hid (HBd.out.trans (hb.mono HBd.out.size)); clear hb
    have hjz := joinB_size (sep := 32) (l := [typeN, nm, sw]) (by simp) (fun s hs => HZS.out s (by simp only [List.mem_cons, List.not_mem_nil, or_false] at hs ⊢; rcases hs with h | h | h <;> simp [h]))
    unfold typeN at hjz HE
    obtain ⟨js, hjs⟩ : ∃ s, joinB 32 [⟨#[116, 121, 112, 101]⟩, nm, sw] = s := ⟨_, rfl⟩
    rw [hjs] at hjz HE ⊢
    clear hjs
    have hj1 : ¬ (9223372036854775807 < js.size + 1) := by omega
    go_wp2_with fail
    go_ret
    exact ⟨by rw [HE.out]; rfl, HB.out⟩
  · have HE := Lib.hid (show typeLn ⟨nm, (k : Int) + 1, true⟩ = joinB 32 [typeN, nm, sw, singleN] ++ ⟨#[10]⟩ by unfold typeLn; simp only; rw [HSW.out]; rfl)
    have hsz : w.heap.size + 1 ≤ (((w.alloc (.cells #[.string nm, .int .i64 ((k : Int) + 1), .bool true] 62)).alloc (.cells #[.string typeN, .string nm, .string sw] 9)).drew).heap.size := by simp
    unfold typeN at hown HBd hsz
    go_wp2_with (at_builtin; go_must (refine push_str _ hown (.tmp 14) (.tmp 15) singleN ?_ ?_ ?_ ?_ ?_ ?_ ?_; exact rfl; exact rfl; exact rfl; (rw [show ∀ W : World, W.drew.heap.size = W.heap.size from fun _ => rfl, World.size_alloc, World.size_alloc]; exact rfl); omega; exact hsz; intro v3 w3 hown3 hb3))
    obtain ⟨ao, cap, rfl, hS⟩ := strs_own hown3 (l := [typeN, nm, sw, singleN]) rfl
    have HC := Lib.hid (joinF_s 32 _ 4 _ _ _ hS (by decide) (by decide) HZS.out)
    have HB3 := Lib.hid (HBd.out.trans (hb3.mono (Nat.le_succ _)))
    clear hown hown3 hS hb3
    refine HC.out.mono ?_
    rintro e w1 ⟨rfl, hb⟩
    have HB := Lib.hid (HB3.out.trans (hb.mono HB3.out.size)); clear hb
    have hjz := joinB_size (sep := 32) (l := [typeN, nm, sw, singleN]) (by simp) HZS.out
    obtain ⟨js, hjs⟩ : ∃ s, joinB 32 [typeN, nm, sw, singleN] = s := ⟨_, rfl⟩
    rw [hjs] at hjz HE ⊢
    clear hjs
    have hj1 : ¬ (9223372036854775807 < js.size + 1) := by omega
    go_wp2_with fail
    go_ret
    exact ⟨by rw [HE.out]; rfl, HB.out⟩
end Go.Proofs.YtmmdaegdkikkpaaGreatDoor
end
