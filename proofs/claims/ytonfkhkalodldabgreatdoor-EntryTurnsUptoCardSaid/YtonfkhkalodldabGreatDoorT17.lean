/-
  Texts of the schema layer and of those beneath it, joined: EntDv, EntDf, EntDfW, EntSt, EntDfP. Conditions stand at each contract.
-/
import Derived.Test.YtonfkhkalodldabGreatDoorT16
set_option linter.unusedVariables false
set_option linter.unusedSimpArgs false
set_option linter.unnecessarySimpa false

section
set_option maxRecDepth 100000
namespace Go.Proofs.YtonfkhkalodldabGreatDoor
open Go.RowKit Go.PlainAid
structure DvI (w : World) (v : Value) (T : List Mv) (W : World) : Prop where
 row : W.ownsRow w.heap.size 57 3 v T.length (mcells T)
 own : MOwn W w.heap.size v T
 low : Below w.heap.size w W
theorem DvI.nil {w W : World} (h : Below w.heap.size w W) : DvI w (.slice none 0 0) [] W := ⟨World.ownsRow_nil _ _ _ _, (fun t ht => by cases ht), h⟩
theorem DvI.below {w W V : World} {v : Value} {T : List Mv} (h : DvI w v T W) (hb : Below W.heap.size W V) : DvI w v T V := ⟨own_below h.row hb, h.own.below hb, h.low.trans (hb.mono h.low.size)⟩
theorem DvI.push {w W w' : World} {v v' : Value} {T : List Mv} (h : DvI w v T W) {op : Int} {nm : ByteArray} {vs : List ByteArray} {hd : Value} (hh : W.ownsRow w.heap.size 9 1 hd vs.length (scells vs)) (hne : hd.ownBlock = none ∨ hd.ownBlock ≠ v.ownBlock) (o : Obj)
  (hown : w'.ownsRow w.heap.size 57 3 v' (T.length + 1) (mcells T ++ [.int .i64 op, .string nm, hd])) (hg : (W.alloc o).grownBy w' v.ownBlock) (hl : v'.ownBlock = v.ownBlock ∨ ∃ g, v'.ownBlock = some g ∧ W.heap.size < g) : DvI w v' (T ++ [⟨⟨op, nm, vs⟩, hd⟩]) w' := by
 have hal := below_al W o
 have hl' : v'.ownBlock = v.ownBlock ∨ ∃ g, v'.ownBlock = some g ∧ (W.alloc o).heap.size ≤ g := hl.imp id fun ⟨g, e, q⟩ => ⟨g, e, by simp; omega⟩
 refine ⟨?_, ((h.own.below hal).grown hg hl').app fun t ht => ?_, (h.low.trans (hal.mono h.low.size)).grown hg (by have := h.low.size; simp; omega) (fun k hk => (h.row.lt k hk).1)⟩
 ·rw [List.length_append]
  unfold mcells
  rw [List.flatMap_append, List.flatMap_cons, List.flatMap_nil, List.append_nil]
  exact hown
 ·rw [List.mem_singleton.1 ht]
  refine ⟨(own_below hh hal).kept hg hne, ?_⟩
  show hd.ownBlock = none ∨ hd.ownBlock ≠ v'.ownBlock
  cases hk : hd.ownBlock with
  | none => exact .inl rfl
  | some k =>
   refine .inr fun e => ?_
   have hlt := (hh.lt k hk).2
   rcases hl with q | ⟨g, q, hq⟩
   ·rw [hk] at hne
    rcases hne with c | c
    ·cases c
    ·exact c (e.trans q)
   ·have := Option.some.inj (e.trans q); omega
theorem ob_em (v : Value) : v.ownBlock = none ∨ v.ownBlock ≠ (Value.slice none 0 0).ownBlock := by
 cases h : v.ownBlock with
 | none => exact .inl rfl
 | some k => exact .inr (fun e => by cases e)
theorem DvI.two {w W w' : World} {v : Value} {n : Nat} {xs : List Value} {vs : List ByteArray} {hd : Value} (hh : W.ownsRow w.heap.size 9 1 hd vs.length (scells vs)) (o : Obj) (hown : w'.ownsRow w.heap.size 57 3 v n xs) (hg : (W.alloc o).grownBy w' (Value.slice none 0 0).ownBlock) (hl : v.ownBlock = (Value.slice none 0 0).ownBlock ∨ ∃ g, v.ownBlock = some g ∧ W.heap.size < g) :
  w'.ownsRow w.heap.size 9 1 hd vs.length (scells vs) ∧ (hd.ownBlock = none ∨ hd.ownBlock ≠ v.ownBlock) := by
 refine ⟨(own_below hh (below_al W o)).kept hg (ob_em hd), ?_⟩
 cases hk : hd.ownBlock with
 | none => exact .inl rfl
 | some k =>
  refine .inr fun e => ?_
  have hlt := (hh.lt k hk).2
  rcases hl with q | ⟨g, q, hq⟩
  ·rw [q] at e; cases e
  ·have := Option.some.inj (e.trans q); omega
def DvP (ms : List Md) (w : World) (e : Ending) (w' : World) : Prop := ∃ v T, e = .returned v ∧ mmds T = ms ∧ DvI w v T w'
set_option maxHeartbeats 16000000 in
theorem diffValues_s (nm : ByteArray) (bo ao : Option Addr) (bn an bc ac : Nat) (bf af : List ByteArray) (w : World) (h : StrsAt w bo bn bc bf) (k : StrsAt w ao an ac af) (hb : bn ≤ 1100000) (ha : an ≤ 1100000) :
  Calls Tryz.prog 32 #[.string nm, .slice bo bn bc, .slice ao an ac] w fun e w' => DvP (dif1 nm bf af) w e w' := by
 have HL := Lib.hid (And.intro h.1 k.1)
 have HG := Lib.hid (without_s bo ao bn an bc ac bf af w h k (by omega))
 have HD := Lib.hid (fun (V : World) (hV : Below w.heap.size w V) => without_s ao bo an bn ac bc af bf V (k.below hV) (h.below hV) (by omega))
 have hgl := minus_len bf af
 have hal := minus_len af bf
 rw [h.1] at hgl
 rw [k.1] at hal
 have HR := Lib.hid (show dif1 nm bf af = if an = 0 then [⟨2, nm, []⟩] else if 0 < bn ∧ (minusL bf af).length = bn then [⟨3, nm, minusL af bf⟩] else if 0 < (minusL bf af).length then ⟨2, nm, minusL bf af⟩ :: (if (minusL af bf).length = 0 then [] else [⟨1, nm, minusL af bf⟩]) else if 0 < (minusL af bf).length then [⟨1, nm, minusL af bf⟩] else [] by unfold dif1; rw [h.1, k.1])
 obtain ⟨ge, hge⟩ : ∃ x, minusL bf af = x := ⟨_, rfl⟩
 obtain ⟨de, hde⟩ : ∃ x, minusL af bf = x := ⟨_, rfl⟩
 rw [hge] at hgl HG HR
 rw [hde] at hal HD HR
 clear hge hde h k
 obtain ⟨gl, hgle⟩ : ∃ x, ge.length = x := ⟨_, rfl⟩
 obtain ⟨dl, hdle⟩ : ∃ x, de.length = x := ⟨_, rfl⟩
 rw [hgle] at hgl HG HR
 rw [hdle] at hal HD HR
 have HGl := Lib.hid hgle
 have HDl := Lib.hid hdle
 clear hgle hdle
 go_enter Tryz.func32, Tryz.ntmps32
 go_wp2_with fail
 refine HG.out.mono ?_
 rintro e w1 ⟨_, rfl, hg1, hb1⟩
 obtain ⟨go, gc, rfl⟩ := row_slice hg1
 have HB1 := Lib.hid hb1
 have HG1 := Lib.hid hg1
 clear hb1 hg1
 go_wp2_with fail
 refine (HD.out w1 HB1.out).mono ?_
 rintro e w2 ⟨_, rfl, hd2, hb2⟩
 obtain ⟨dO, dc, rfl⟩ := row_slice hd2
 have HB2 := Lib.hid (HB1.out.trans (hb2.mono HB1.out.size))
 have HG2 := Lib.hid (show w2.ownsRow w.heap.size 9 1 (.slice go gl gc) ge.length (scells ge) by rw [HGl.out]; exact own_below HG1.out hb2)
 have HD2 := Lib.hid (show w2.ownsRow w.heap.size 9 1 (.slice dO dl dc) de.length (scells de) by rw [HDl.out]; exact row_lower hd2 HB1.out.size)
 have HI := Lib.hid (DvI.nil HB2.out)
 have hown0 : w2.ownsRow w.heap.size 57 3 (.slice none 0 0) 0 [] := World.ownsRow_nil _ _ _ _
 have hsz := HB2.out.size
 clear hb2 hd2 HG HD
 by_cases h0 : an = 0
 ·have d1 : ((an : Int) == 0) = true := by simp; omega
  have d1' : (an : Int) = 0 := by omega
  have HE := Lib.hid (HR.out.trans (if_pos h0))
  go_wp2_with (at_builtin; go_must (refine push_mod w2 hown0 (.tmp 39) (.tmp 42) 2 nm (.slice none 0 0) rfl ?_ ?_ ?_ ?_ ?_ ?_ ?_; exact rfl; exact rfl; exact rfl; exact rfl; omega; exact hsz; intro v3 w3 g1 g2 g3; obtain ⟨vo3, vc3, rfl⟩ := row_slice g1; have HI3 := Lib.hid (HI.out.push (vs := []) (World.ownsRow_nil _ _ _ _) (.inl rfl) _ g1 g2 g3); clear g1 g2 g3))
  go_ret
  exact ⟨_, _, rfl, by rw [HE.out]; rfl, HI3.out⟩
 ·have d1 : ((an : Int) == 0) = false := by simp; omega
  have d1' : ¬ (an : Int) = 0 := by omega
  have HE0 := Lib.hid (HR.out.trans (if_neg h0))
  clear h0 HR
  by_cases h1 : 0 < bn ∧ gl = bn
  ·have d2 : decide (0 < (bn : Int)) = true := decide_eq_true (by omega)
   have d2' : (bn : Int) > 0 := by omega
   have d3 : ((gl : Int) == (bn : Int)) = true := by simp; omega
   have d3' : (gl : Int) = (bn : Int) := by omega
   have HE := Lib.hid (HE0.out.trans (if_pos h1))
   clear h1
   go_wp2_with (at_builtin; go_must (refine push_mod w2 hown0 (.tmp 44) (.tmp 48) 3 nm (.slice dO dl dc) rfl ?_ ?_ ?_ ?_ ?_ ?_ ?_; exact rfl; exact rfl; exact rfl; exact rfl; omega; exact hsz; intro v3 w3 g1 g2 g3; obtain ⟨vo3, vc3, rfl⟩ := row_slice g1; have HI3 := Lib.hid (HI.out.push HD2.out (ob_em _) _ g1 g2 g3); clear g1 g2 g3))
   go_ret
   exact ⟨_, _, rfl, by rw [HE.out]; rfl, HI3.out⟩
  ·have HE1 := Lib.hid (HE0.out.trans (if_neg h1))
   by_cases h2 : 0 < gl
   ·have HE2 := Lib.hid (HE1.out.trans (if_pos h2))
    have d2 : decide (0 < (bn : Int)) = true := decide_eq_true (by omega)
    have d2' : (bn : Int) > 0 := by omega
    have d3 : ((gl : Int) == (bn : Int)) = false := by simp; omega
    have d3' : ¬ (gl : Int) = (bn : Int) := by omega
    have d4 : decide (0 < (gl : Int)) = true := decide_eq_true (by omega)
    have d4' : (gl : Int) > 0 := by omega
    clear h1 HE0 HE1
    by_cases h3 : dl = 0
    ·have d5 : ((dl : Int) == 0) = true := by simp; omega
     have d5' : (dl : Int) = 0 := by omega
     have HE := Lib.hid (show dif1 nm bf af = [⟨2, nm, ge⟩] by rw [HE2.out, if_pos h3])
     clear h3
     go_wp2_with (at_builtin; go_must (refine push_mod w2 hown0 (.tmp 50) (.tmp 54) 2 nm (.slice go gl gc) rfl ?_ ?_ ?_ ?_ ?_ ?_ ?_; exact rfl; exact rfl; exact rfl; exact rfl; omega; exact hsz; intro v3 w3 g1 g2 g3; obtain ⟨vo3, vc3, rfl⟩ := row_slice g1; have HI3 := Lib.hid (HI.out.push HG2.out (ob_em _) _ g1 g2 g3); clear g1 g2 g3))
     go_ret
     exact ⟨_, _, rfl, by rw [HE.out]; rfl, HI3.out⟩
    ·have d5 : ((dl : Int) == 0) = false := by simp; omega
     have d5' : ¬ (dl : Int) = 0 := by omega
     have HE := Lib.hid (show dif1 nm bf af = [⟨2, nm, ge⟩, ⟨1, nm, de⟩] by rw [HE2.out, if_neg h3])
     clear h3
     go_wp2_with (first | (at_builtin; refine push_mod w2 hown0 (.tmp 50) (.tmp 54) 2 nm (.slice go gl gc) rfl ?_ ?_ ?_ ?_ ?_ ?_ ?_; exact rfl; exact rfl; exact rfl; exact rfl; omega; exact hsz; intro v3 w3 g1 g2 g3; obtain ⟨vo3, vc3, rfl⟩ := row_slice g1; have HI3 := Lib.hid (show DvI w (.slice vo3 1 vc3) [⟨⟨2, nm, ge⟩, .slice go gl gc⟩] w3 from HI.out.push HG2.out (ob_em _) _ g1 g2 g3); have HD3 := Lib.hid (DvI.two HD2.out _ g1 g2 g3); have hown3 : w3.ownsRow w.heap.size 57 3 (.slice vo3 1 vc3) 1 (mcells [⟨⟨2, nm, ge⟩, .slice go gl gc⟩]) := HI3.out.row; have hsz3 := HI3.out.low.size; clear g1 g2 g3) | (at_builtin; go_loud (refine push_mod w3 hown3 (.tmp 59) (.tmp 63) 1 nm (.slice dO dl dc) rfl ?_ ?_ ?_ ?_ ?_ ?_ ?_; exact rfl; exact rfl; exact rfl; exact rfl; decide; exact hsz3; intro v4 w4 g1 g2 g3; obtain ⟨vo4, vc4, rfl⟩ := row_slice g1; have HI4 := Lib.hid (HI3.out.push HD3.out.1 HD3.out.2 _ g1 g2 g3); clear g1 g2 g3)))
     go_ret
     exact ⟨_, _, rfl, by rw [HE.out]; rfl, HI4.out⟩
   ·have HE2 := Lib.hid (HE1.out.trans (if_neg h2))
    have d4 : decide (0 < (gl : Int)) = false := decide_eq_false (by omega)
    have d4' : ¬ (gl : Int) > 0 := by omega
    have hgz : gl = 0 := by omega
    have d3 : decide (0 < (bn : Int)) = decide (0 < bn) := by by_cases q : 0 < bn <;> simp [q]
    by_cases h4 : 0 < dl
    ·have d5 : decide (0 < (dl : Int)) = true := decide_eq_true (by omega)
     have d5' : (dl : Int) > 0 := by omega
     have HE := Lib.hid (HE2.out.trans (if_pos h4))
     by_cases h5 : 0 < bn
     ·have d6 : decide (0 < (bn : Int)) = true := decide_eq_true (by omega)
      have d6' : (bn : Int) > 0 := by omega
      have d7 : ((gl : Int) == (bn : Int)) = false := by simp; omega
      clear h1 h2 h4 h5 hgz d3
      go_wp2_with (at_builtin; go_must (refine push_mod w2 hown0 (.tmp 59) (.tmp 63) 1 nm (.slice dO dl dc) rfl ?_ ?_ ?_ ?_ ?_ ?_ ?_; exact rfl; exact rfl; exact rfl; exact rfl; omega; exact hsz; intro v3 w3 g1 g2 g3; obtain ⟨vo3, vc3, rfl⟩ := row_slice g1; have HI3 := Lib.hid (HI.out.push HD2.out (ob_em _) _ g1 g2 g3); clear g1 g2 g3))
      go_ret
      exact ⟨_, _, rfl, by rw [HE.out]; rfl, HI3.out⟩
     ·have d6 : decide (0 < (bn : Int)) = false := decide_eq_false (by omega)
      have d6' : ¬ (bn : Int) > 0 := by omega
      clear h1 h2 h4 h5 hgz d3
      go_wp2_with (at_builtin; go_must (refine push_mod w2 hown0 (.tmp 59) (.tmp 63) 1 nm (.slice dO dl dc) rfl ?_ ?_ ?_ ?_ ?_ ?_ ?_; exact rfl; exact rfl; exact rfl; exact rfl; omega; exact hsz; intro v3 w3 g1 g2 g3; obtain ⟨vo3, vc3, rfl⟩ := row_slice g1; have HI3 := Lib.hid (HI.out.push HD2.out (ob_em _) _ g1 g2 g3); clear g1 g2 g3))
      go_ret
      exact ⟨_, _, rfl, by rw [HE.out]; rfl, HI3.out⟩
    ·have d5 : decide (0 < (dl : Int)) = false := decide_eq_false (by omega)
     have d5' : ¬ (dl : Int) > 0 := by omega
     have HE := Lib.hid (HE2.out.trans (if_neg h4))
     by_cases h5 : 0 < bn
     ·have d6 : decide (0 < (bn : Int)) = true := decide_eq_true (by omega)
      have d6' : (bn : Int) > 0 := by omega
      have d7 : ((gl : Int) == (bn : Int)) = false := by simp; omega
      clear h1 h2 h4 h5 hgz d3
      go_wp2_with fail
      go_ret
      exact ⟨_, [], rfl, by rw [HE.out]; rfl, HI.out⟩
     ·have d6 : decide (0 < (bn : Int)) = false := decide_eq_false (by omega)
      have d6' : ¬ (bn : Int) > 0 := by omega
      clear h1 h2 h4 h5 hgz d3
      go_wp2_with fail
      go_ret
      exact ⟨_, [], rfl, by rw [HE.out]; rfl, HI.out⟩
end Go.Proofs.YtonfkhkalodldabGreatDoor
end

section
set_option maxRecDepth 100000
namespace Go.Proofs.YtonfkhkalodldabGreatDoor
open Go.RowKit Go.PlainAid Go.Maps
theorem has_merge {D1 D2 : DataW Value} {w : World} {b1 n1 b2 n2 : Nat} (h1 : w.ownsMap Tryz.prog 9 rawE b1 n1 D1) (h2 : w.ownsMap Tryz.prog 9 rawE b2 n2 D2) (k : Lit) : Maps.has (Lib.mergeD D1 D2) k = (Maps.has D1 k || Maps.has D2 k) := by
 obtain ⟨es, rfl, _, ks⟩ := h2.canonK (string_keyed Tryz.underlying9)
 show Maps.has (es.foldl (fun D p => D.put p.1 p.2) D1) k = _
 rw [has_foldPut k es D1 h1.isMap (fun p hp => (string_keyed Tryz.underlying9).one.key (ks p hp))]
 rfl
theorem push_mods {ops : Array Oper} {rest : List Oper} {o : Oper} {a : Act} {Q : Exit → Act → World → Prop} (wr : World) {base base2 : Nat} {v : Value} {n : Nat} {xs : List Value} (hown : wr.ownsRow base 57 3 v n xs) (s x : Operand)
  {v2 : Value} {T : List Mv} (hv : wr.ownsRow base2 57 3 v2 T.length (mcells T)) (hone : ∀ t ∈ T, t.hd.oneCell' = true) (hgd : o.guard = none)
  (ho : o.op = .call { callee := .builtin .append, args := #[s, x], argTypes := #[29, 29] })
  (hs : a.eval s = v) (hx : a.eval x = v2) (hn : n + T.length ≤ 1000000000) (hbase : base ≤ wr.heap.size)
  (h : ∀ v' w', w'.ownsRow base 57 3 v' (n + T.length) (xs ++ mcells T) → wr.grownBy w' v.ownBlock → (v'.ownBlock = v.ownBlock ∨ v'.ownBlock = some wr.heap.size) → wpList Tryz.prog ops Q rest (a.put o.dst v') w') :
  wpList Tryz.prog ops Q (o :: rest) a wr := by
 obtain ⟨i0, hi, hz0, hz1, hz2⟩ := info_parts info_mod
 rcases hv.2 with ⟨rfl, h0⟩ | ⟨g, cap, cur, rfl, _⟩
 ·have hT : T = [] := List.length_eq_zero_iff.1 h0
  subst hT
  have hrun : (Builtin.append_ #[29, 29] o.type #[v, .slice none 0 0]).run Tryz.prog wr = .ok v wr := by
   rcases hown.2 with ⟨rfl, _⟩ | ⟨g, cap, cur, rfl, _, _, hc, _⟩
   ·exact run_append_nothing wr 29 29 o.type 57 i0 Tryz.underlying29 hi none 0 0 (Nat.le_refl _) _ (Src.ofNil wr Tryz.underlying29 0)
   ·exact run_append_nothing wr 29 29 o.type 57 i0 Tryz.underlying29 hi _ _ _ hc _ (Src.ofNil wr Tryz.underlying29 0)
  refine wpList_plain hgd fun K hK => ?_
  unfold Oper.wp execOp
  simp only [ho, resolve, invoke, builtin, Sem.run_bind, Sem.run_pure, Result.andThen_ok, List.map_toArray, List.map_cons, List.map_nil, hs, hx, hrun]
  exact hK _ _ (h v wr (by simpa [mcells] using hown) ⟨rfl, rfl, rfl, Nat.le_refl _, fun _ _ _ => rfl⟩ (.inl rfl))
 ·exact wpList_append_own_at _ hgd s x 29 ho base 57 i0 (.agg #[.int .i64 0, .string ⟨#[]⟩, .slice none 0 0]) 3 48 Tryz.underlying29 hi hz0 hz1 hz2 rfl (by decide) v n xs hs hown ⟨g, 0, none⟩ T.length cap (mcells T) hx (mcells_len T)
   (fun j u hj => hv.cells (g := g) rfl j u hj) (mcells_one hone) (by unfold maxLen; omega) (by omega) hbase (fun v' w' k1 k2 _ k4 => h v' w' k1 k2 k4)
theorem DvI.one {w W : World} {v : Value} {T : List Mv} (h : DvI w v T W) : ∀ t ∈ T, t.hd.oneCell' = true := fun t ht => by
 obtain ⟨ao, cap, e⟩ := row_slice (h.own t ht).1
 rw [e]; rfl
theorem DvI.app {w W5 W w' : World} {vL v v' : Value} {TL T : List Mv} (h : DvI w vL TL W5) (k : DvI W5 v T W) (hrow : w'.ownsRow w.heap.size 57 3 v' (TL.length + T.length) (mcells TL ++ mcells T)) (hg : W.grownBy w' vL.ownBlock) (hl : v'.ownBlock = vL.ownBlock ∨ v'.ownBlock = some W.heap.size) : DvI w v' (TL ++ T) w' := by
 have hl' : v'.ownBlock = vL.ownBlock ∨ ∃ g, v'.ownBlock = some g ∧ W.heap.size ≤ g := hl.imp id fun e => ⟨_, e, Nat.le_refl _⟩
 refine ⟨?_, ((h.own.below k.low).grown hg hl').app fun t ht => ?_, (h.low.trans (k.low.mono h.low.size)).grown hg (Nat.le_trans h.low.size k.low.size) (fun q hq => (h.row.lt q hq).1)⟩
 ·rw [List.length_append]
  unfold mcells at hrow ⊢
  rw [List.flatMap_append]; exact hrow
 ·obtain ⟨r1, r2⟩ := k.own t ht
  have hne : t.hd.ownBlock = none ∨ t.hd.ownBlock ≠ vL.ownBlock := by
   cases hk : t.hd.ownBlock with
   | none => exact .inl rfl
   | some q => exact .inr fun e => by have := (r1.lt q hk).1; have := (h.row.lt q e.symm).2; omega
  refine ⟨row_lower (r1.kept hg hne) h.low.size, ?_⟩
  cases hk : t.hd.ownBlock with
  | none => exact .inl rfl
  | some q =>
   refine .inr fun e => ?_
   have hlt := (r1.lt q hk).2
   rcases hl with z | z
   ·rw [hk] at hne
    rcases hne with c | c
    ·cases c
    ·exact c (e.trans z)
   ·have := Option.some.inj (e.trans z); omega
theorem DvI.lower {w W0 W : World} {v : Value} {T : List Mv} (h : DvI W0 v T W) (hw : Below w.heap.size w W0) : DvI w v T W :=
 ⟨row_lower h.row hw.size, h.own.mono hw.size, hw.trans (h.low.mono hw.size)⟩
def difL (a b : List At) : List Md := (sortU (names a ++ names b)).flatMap fun n => dif1 n (vals a n) (vals b n)
def enD (ea : ByteArray) (a : List At) (eb : ByteArray) (b : List At) : List Md := if enC ea a ≠ 0 ∨ enC eb b ≠ 0 then [] else difL a b
theorem VnM.look {W : World} {base b N : Nat} {f : ByteArray → Option Value} {l : List At} (h : VnM W base b N f l) (p : ByteArray) (hp : p.size ≤ maxLen) :
  ∃ ao n cap, (Instr.lookup 63 (.map (some b)) (.string p) false).run Tryz.prog W = .ok (.slice ao n cap) W ∧ StrsAt W ao n cap (vals l p) := by
 have hr := MapVal.look (t := 63) (e := 38) (z := .slice none 0 0) (.inr ⟨b, N, rfl, h.map⟩) Tryz.underlying63 (Tryz.zeroValue38 _) p hp
 cases e : f p with
 | none =>
  rw [e] at hr
  have h1 : memB (names l) p = false := by rw [← h.is p, e]; rfl
  have h2 : vals l p = [] := Classical.not_not.1 fun k => by
   have := memB_iff.2 (names_vals.2 k); rw [h1] at this; cases this
  rw [h2]
  exact ⟨none, 0, 0, hr, strs_nil W⟩
 | some v =>
  rw [e] at hr
  obtain ⟨ao, cap, e2, hs⟩ := strs_own (h.own p v e) rfl
  rw [e2] at hr
  exact ⟨ao, _, cap, hr, hs⟩
theorem chk_of {en : ByteArray} {l : List At} (h : enC en l = 0) : chkA l = 0 := by
 unfold enC at h
 split at h
 ·cases h
 ·exact h
theorem enD_no {ea eb : ByteArray} {a b : List At} (h : enC ea a ≠ 0 ∨ enC eb b ≠ 0) : enD ea a eb b = [] := if_pos h
theorem enD_yes {ea eb : ByteArray} {a b : List At} (h : enC ea a = 0) (k : enC eb b = 0) : enD ea a eb b = difL a b := if_neg (fun q => q.elim (fun z => z h) (fun z => z k))
theorem map_below {w w' : World} {b n : Nat} {D : DataW Value} (h : w.ownsMap Tryz.prog 9 rawE b n D) (hb : Below w.heap.size w w') : w'.ownsMap Tryz.prog 9 rawE b n D :=
 h.kept (row := none) ⟨hb.os, hb.tape, hb.output, hb.size, fun k hk _ => hb.block k hk⟩ (by simp)
theorem vals_fewE {l : List At} (h : LightE (nf l)) (p : ByteArray) : (vals l p).length ≤ 20 := by
 by_cases e : vals l p = []
 ·rw [e]; simp
 ·exact (h.each (p, vals l p) (nf_mem.2 ⟨rfl, e⟩)).len
theorem names_fewE {l : List At} (h : LightE (nf l)) : (names l).length ≤ 40 := by rw [← nf_lenN]; exact h.len
theorem names_szE {l : List At} (h : LightE (nf l)) {p : ByteArray} (hp : p ∈ names l) : p.size ≤ 1100000 := by
 have := (h.each (p, vals l p) (nf_mem.2 ⟨rfl, names_vals.1 hp⟩)).nm
 simp only at this
 omega
theorem dif1_len (n : ByteArray) (a b : List ByteArray) : (dif1 n a b).length ≤ 2 := by
 unfold dif1
 split
 ·simp
 ·split
  ·simp
  ·split
   ·split <;> simp
   ·split <;> simp
theorem union_keys {W : World} {b5 b6 N5 N6 : Nat} {D5 D6 : DataW Value} {f5 f6 : ByteArray → Option Value} {a b : List At} (h5 : W.ownsMap Tryz.prog 9 rawE b5 N5 D5) (h6 : W.ownsMap Tryz.prog 9 rawE b6 N6 D6)
  (k5 : ∀ k, Maps.has D5 (klit k) = (f5 k).isSome) (k6 : ∀ k, Maps.has D6 (klit k) = (f6 k).isSome) (i5 : ∀ k, (f5 k).isSome = memB (names a) k) (i6 : ∀ k, (f6 k).isSome = memB (names b) k) (k : ByteArray) :
  Maps.has (Lib.mergeD D5 D6) (klit k) = true ↔ k ∈ names a ++ names b := by
 rw [has_merge h5 h6, k5, k6, i5, i6, Bool.or_eq_true, memB_iff, memB_iff, List.mem_append]
def DfI (wK : World) (K : List ByteArray) (a b : List At) (i : Nat) (v : Value) (wr : World) : Prop :=
 ∃ T, DvI wK v T wr ∧ mmds T = ((K.take i).flatMap fun n => dif1 n (vals a n) (vals b n)) ∧ T.length ≤ 2 * i
theorem DfI.next {wK W w5 w' : World} {K : List ByteArray} {a b : List At} {i : Nat} {TL T5 : List Mv} {v v5 v' : Value} (hi : i < K.length) (h : DvI wK v TL W) (hm : mmds TL = ((K.take i).flatMap fun n => dif1 n (vals a n) (vals b n))) (hl : TL.length ≤ 2 * i)
  (k : DvI W v5 T5 w5) (hm5 : mmds T5 = dif1 (partAt K i) (vals a (partAt K i)) (vals b (partAt K i)))
  (hrow : w'.ownsRow wK.heap.size 57 3 v' (TL.length + T5.length) (mcells TL ++ mcells T5)) (hg : w5.grownBy w' v.ownBlock) (hlb : v'.ownBlock = v.ownBlock ∨ v'.ownBlock = some w5.heap.size) : DfI wK K a b (i + 1) v' w' := by
 refine ⟨TL ++ T5, h.app k hrow hg hlb, ?_, ?_⟩
 ·unfold mmds at hm hm5 ⊢
  rw [List.map_append, hm, hm5, take_snoc K i hi, List.flatMap_append, List.flatMap_cons, List.flatMap_nil, List.append_nil]
 ·have h1 : T5.length = (dif1 (partAt K i) (vals a (partAt K i)) (vals b (partAt K i))).length := by rw [← hm5]; unfold mmds; rw [List.length_map]
  have h2 := dif1_len (partAt K i) (vals a (partAt K i)) (vals b (partAt K i))
  rw [List.length_append]; omega
set_option maxHeartbeats 16000000 in
theorem diff_s (ea : ByteArray) (ao : Option Addr) (n cap : Nat) (a : List At) (eb : ByteArray) (bo : Option Addr) (m dap : Nat) (b : List At) (w : World) (hea : ea.size ≤ 1100000) (heb : eb.size ≤ 1100000) (ha : AttrsAt w ao n cap a) (hb : AttrsAt w bo m dap b) (hSa : SmallA a) (hFa : FewV a) (hSb : SmallA b) (hFb : FewV b) :
  Calls Tryz.prog 9 #[.agg #[.string ea, .slice ao n cap], .agg #[.string eb, .slice bo m dap]] w fun e w' => DvP (enD ea a eb b) w e w' := by
 have HA := Lib.hid ha
 have HO := Lib.hid hb
 clear ha hb
 have hb0 : Below w.heap.size w ((w.alloc (.cells #[.string ea, .slice ao n cap] 28)).alloc (.cells #[.string eb, .slice bo m dap] 28)) := (below_al w _).alloc (by simp) _
 have HK := Lib.hid (And.intro ((kbl_new w (.cells #[.string ea, .slice ao n cap] 28)).step (below_al _ (.cells #[.string eb, .slice bo m dap] 28)))
  (show Kb ((w.alloc (.cells #[.string ea, .slice ao n cap] 28)).alloc (.cells #[.string eb, .slice bo m dap] 28)) (w.heap.size + 1) (.cells #[.string eb, .slice bo m dap] 28) by
   have := kbl_new (w.alloc (.cells #[.string ea, .slice ao n cap] 28)) (.cells #[.string eb, .slice bo m dap] 28)
   simpa using this))
 have HC1 := Lib.hid (enCheck_s ea ao n cap a _ hea (HA.out.below hb0) hSa hFa)
 have HC2 := Lib.hid (fun (V : World) (hV : Below w.heap.size w V) => enCheck_s eb bo m dap b V heb (HO.out.below hV) hSb hFb)
 have HB0 := Lib.hid hb0
 obtain ⟨c1, hc1⟩ : ∃ c, enC ea a = c := ⟨_, rfl⟩
 obtain ⟨c2, hc2⟩ : ∃ c, enC eb b = c := ⟨_, rfl⟩
 rw [hc1] at HC1
 rw [hc2] at HC2
 have HE := Lib.hid (And.intro hc1 hc2)
 obtain ⟨x0, x1⟩ : ((w.alloc (.cells #[.string ea, .slice ao n cap] 28)).alloc (.cells #[.string eb, .slice bo m dap] 28)).cell? ⟨w.heap.size, 0, none⟩ = some (.string ea) ∧ ((w.alloc (.cells #[.string ea, .slice ao n cap] 28)).alloc (.cells #[.string eb, .slice bo m dap] 28)).cell? ⟨w.heap.size, 1, none⟩ = some (.slice ao n cap) := ⟨HK.out.1.cell rfl, HK.out.1.cell rfl⟩
 clear hb0 hc1 hc2
 go_enter Tryz.func9, Tryz.ntmps9
 go_wp2_with fail
 refine HC1.out.mono ?_
 rintro e w1 ⟨rfl, hb⟩
 have HB1 := Lib.hid (HB0.out.trans (hb.mono HB0.out.size))
 have HK1 := Lib.hid (And.intro (HK.out.1.step hb) (HK.out.2.step hb))
 clear hb x0 x1 HC1 HB0 HK
 by_cases h1 : c1 = 0
 ·subst h1
  obtain ⟨y0, y1⟩ : w1.cell? ⟨w.heap.size + 1, 0, none⟩ = some (.string eb) ∧ w1.cell? ⟨w.heap.size + 1, 1, none⟩ = some (.slice bo m dap) := ⟨HK1.out.2.cell rfl, HK1.out.2.cell rfl⟩
  go_wp2_with fail
  refine (HC2.out w1 HB1.out).mono ?_
  rintro e w2 ⟨rfl, hb⟩
  have HB2 := Lib.hid (HB1.out.trans (hb.mono HB1.out.size))
  have HK2 := Lib.hid (And.intro (HK1.out.1.step hb) (HK1.out.2.step hb))
  clear hb y0 y1 HC2 HB1 HK1
  by_cases h2 : c2 = 0
  ·subst h2
   have HLa := Lib.hid (chk_light (chk_of HE.out.1))
   have HLb := Lib.hid (chk_light (chk_of HE.out.2))
   have HNa := Lib.hid (chk_light (nf_chk (chk_of HE.out.1)))
   have HNb := Lib.hid (chk_light (nf_chk (chk_of HE.out.2)))
   obtain ⟨x1, y1⟩ : w2.cell? ⟨w.heap.size, 1, none⟩ = some (.slice ao n cap) ∧ w2.cell? ⟨w.heap.size + 1, 1, none⟩ = some (.slice bo m dap) := ⟨HK2.out.1.cell rfl, HK2.out.2.cell rfl⟩
   have HBd : Hid (Below w.heap.size w w2.drew ∧ w.heap.size ≤ w2.drew.heap.size) := Lib.hid ⟨HB2.out.drew, HB2.out.size⟩
   have hs2 : w.heap.size ≤ w2.heap.size := HB2.out.size
   go_wp2_with fail
   refine wp_region_held_drew (S := fun W => W.cell? ⟨w.heap.size, 1, none⟩ = some (.slice ao n cap) ∧ W.cell? ⟨w.heap.size + 1, 1, none⟩ = some (.slice bo m dap) ∧ Hid (Below w.heap.size w W ∧ w.heap.size ≤ W.heap.size)) (by kernel_rfl) (⟨x1, y1, HBd⟩) (fun hS => ?_)
   refine rgT 0 (some 19) ?_
   refine rgT 1 (some 20) ?_
   refine rgT 3 (some 22) ?_
   refine rgT 4 (some 23) ?_
   refine rgC 2 (fun K hK => ?_)
   go_simp
   refine (valuesByName_s ao n cap a _ (HA.out.below HBd.out.1) HLa.out HNa.out).mono ?_
   rintro e w5 hv5
   obtain ⟨b5, N5, f5, rfl, hle5, hV5, hb5⟩ := hv5
   have HV5 := Lib.hid hV5
   have HBe := Lib.hid (HBd.out.1.trans (hb5.mono HBd.out.2))
   clear hV5
   go_wp2_with fail
   refine hK.out _ _ ?_ (fun hHeld => ?_)
   ·exact keep2b (by assumption) hb5
   clear hK K
   try simp only [Act.put, lsA, lsZ, lsS]
   refine rgC 5 (fun K hK => ?_)
   go_simp
   refine (valuesByName_s bo m dap b _ (HO.out.below HBe.out) HLb.out HNb.out).mono ?_
   rintro e w6 hv6
   obtain ⟨b6, N6, f6, rfl, hle6, hV6, hb6⟩ := hv6
   have HV6 := Lib.hid hV6
   clear hV6
   go_wp2_with fail
   refine hK.out _ _ ?_ (fun hHeld => ?_)
   ·exact keep2b (by assumption) hb6
   clear hK K
   try simp only [Act.put, lsA, lsZ, lsS]
   refine rgT 6 (some 5) ?_
   refine rgT 7 (some 6) ?_
   refine wpAnyH_done (by kernel_rfl) ?_ _
   have HB6 := Lib.hid (HBe.out.trans (hb6.mono HBe.out.size))
   have h56 : b5 ≠ b6 := by have := HV5.out.map.lt; omega
   have HV5b := Lib.hid (HV5.out.below hb6)
   obtain ⟨D5, hm5, hf5⟩ := HV5b.out.map
   obtain ⟨D6, hm6, hf6⟩ := HV6.out.map
   have h5l : b5 < w6.heap.size := hm5.lt
   have h6l : b6 < w6.heap.size := hm6.lt
   have HM := Lib.hid (And.intro hm5 hm6)
   have HF := Lib.hid (And.intro hf5 hf6)
   have HCl : Hid (Calls Tryz.prog 28 #[.map (some b5)] w6 fun e w' => e = .returned (.map (some w6.heap.size)) ∧ w'.ownsMap Tryz.prog 9 rawE w6.heap.size N5 D5 ∧ w'.ownsMap Tryz.prog 9 rawE b5 N5 D5 ∧ Below w6.heap.size w6 w') := Lib.hid (AnyW.maps_Clone_owns Tryz.mclone 9 rawE b5 N5 D5 w6 hm5)
   clear hm5 hm6 hf5 hf6 HV5 HBe hb6 hb5 hle5 hle6 x1 y1 HBd
   go_wp2_with fail
   refine HCl.out.mono ?_
   rintro e w7 ⟨rfl, hc7, _, hb7⟩
   have HN5 := HV5b.out.few
   have HN6 := HV6.out.few
   have hD6 : Maps.size D6 ≤ 40 := Nat.le_trans HM.out.2.size_le HN6
   have HCo : Hid (Calls Tryz.prog 29 #[.map (some w6.heap.size), .map (some b6)] w7 fun e w' => e = .returned (.tuple #[]) ∧ w'.ownsMap Tryz.prog 9 rawE w6.heap.size (N5 + Maps.size D6) (Lib.mergeD D5 D6) ∧ w'.ownsMap Tryz.prog 9 rawE b6 N6 D6 ∧ w7.grownBy w' (some w6.heap.size)) :=
    Lib.hid (AnyX.maps_Copy Tryz.mcopy (string_keyed Tryz.underlying9) rawE w6.heap.size b6 N5 N6 D5 D6 w7 hc7 (map_below HM.out.2 hb7) (Nat.ne_of_gt h6l) (by unfold maxLen; omega))
   have HB7 := Lib.hid hb7
   clear hc7 hb7 HCl
   go_wp2_with fail
   refine HCo.out.mono ?_
   rintro e w8 ⟨rfl, hu8, _, hg8⟩
   have HB8 := Lib.hid (HB7.out.grown hg8 HB7.out.size (fun q hq => by cases hq; exact Nat.le_refl _))
   have HKS := Lib.hid (keys_s (some w6.heap.size) w8)
   have HSK := Lib.hid (sorted_keys w6.heap.size (N5 + Maps.size D6) (Lib.mergeD D5 D6) rawE w8 hu8 (Nat.le_trans hu8.size_le (by omega)))
   have HKE := Lib.hid (fun (ss : List (List UInt8)) hp => keys_sorted (ks := names a ++ names b) (ss := ss) hu8 (union_keys HM.out.1 HM.out.2 (fun k => (HF.out.1 k).1) (fun k => (HF.out.2 k).1) HV5b.out.is HV6.out.is) hp)
   have HV5c := Lib.hid (HV5b.out.below HB8.out)
   have HV6c := Lib.hid (HV6.out.below HB8.out)
   have HB8w := Lib.hid (HB6.out.trans (HB8.out.mono HB6.out.size))
   clear hu8 hg8 HCo HB7 HM HF HV5b HV6
   obtain ⟨K, hK⟩ : ∃ x, sortU (names a ++ names b) = x := ⟨_, rfl⟩
   have HKd := Lib.hid hK
   have hKl : K.length ≤ 80 := by
    rw [← hK]
    have h1 := sortU_len (names a ++ names b)
    rw [List.length_append] at h1
    have h2 := names_fewE HNa.out
    have h3 := names_fewE HNb.out
    omega
   have HKM := Lib.hid (fun x (hx : x ∈ K) => (show x.size ≤ 1100000 by
    rw [← HKd.out, sortU_mem] at hx
    exact (List.mem_append.1 hx).elim (names_szE HNa.out) (names_szE HNb.out)))
   rw [hK] at HKE
   clear hK
   obtain ⟨c6, hc6⟩ : ∃ x, w6.heap.size = x := ⟨_, rfl⟩
   rw [hc6] at HKS HSK
   rw [hc6]
   clear hc6
   go_wp2_with fail
   refine HKS.out.mono ?_
   rintro e w9 ⟨rfl, rfl⟩
   go_wp2_with fail
   refine HSK.out.mono ?_
   rintro e wK ⟨kv, ss, rfl, hp, hkown, hbk⟩
   have hke := HKE.out ss hp
   have hsl : ss.length = K.length := by rw [← hke, List.length_map]; exact (List.mergeSort_perm ss _).length_eq.symm
   rw [hke, hsl] at hkown
   have hbA : Below w8.heap.size w8 wK := (below_al w8 _).trans (hbk.mono (Nat.le_succ _))
   have HBK := Lib.hid (HB8w.out.trans (hbA.mono HB8w.out.size))
   have HVa := Lib.hid (HV5c.out.below hbA)
   have HVb := Lib.hid (HV6c.out.below hbA)
   obtain ⟨ko, kcap, rfl, hks⟩ := strs_own hkown rfl
   have HKs := Lib.hid hks
   obtain ⟨k, hk⟩ : ∃ x, K.length = x := ⟨_, rfl⟩
   rw [hk] at HKs hKl ⊢
   have HKl := Lib.hid hk
   have hkc : kcap ≤ 9223372036854775807 := HKs.out.2.2.1
   have hkk : k ≤ kcap := HKs.out.2.1
   clear hks hkown hbk hke hsl hp hk hbA HSK HKS HKE HV5c HV6c HB8w HB8
   have HI0 := Lib.hid (show DfI wK K a b 0 (.slice none 0 0) wK from ⟨[], DvI.nil (Below.refl _ _), rfl, Nat.zero_le _⟩)
   go_wp2_with fail
   go_loopw [8, 10, 34] (fun s8 _ s34 wr => ∃ (i : Nat), i ≤ k ∧ s34 = .int .i64 i ∧ Hid (DfI wK K a b i s8 wr)) (fun _ _ s34 _ => k - (intOf s34).toNat)
   case atStart => exact ⟨0, Nat.zero_le _, rfl, HI0⟩
   case round =>
    clear HI0
    obtain ⟨i, hi, rfl, HI⟩ := hrel
    by_cases hlt : i < k
    ·have d1 : (i : Int) < (k : Int) := by omega
     obtain ⟨T, hD, hmm, hTl⟩ := HI.out
     have HD := Lib.hid hD
     have HT := Lib.hid hmm
     have hiK : i < K.length := by rw [HKl.out]; exact hlt
     obtain ⟨g, off, rfl, _, hc⟩ := (HKs.out.below HD.out.low).2.2.2 (by omega)
     have hcell := hc i hiK
     have HPm := Lib.hid (part_mem K i hiK)
     obtain ⟨p, hp⟩ : ∃ x, partAt K i = x := ⟨_, rfl⟩
     have HP := Lib.hid hp
     rw [hp] at hcell HPm
     have hps := HKM.out p HPm.out
     obtain ⟨ao5, n5, cp5, hl5, hs5⟩ := (HVa.out.below HD.out.low).look p (by unfold maxLen; omega)
     obtain ⟨ao6, n6, cp6, hl6, hs6⟩ := (HVb.out.below HD.out.low).look p (by unfold maxLen; omega)
     have HDv := Lib.hid (diffValues_s p ao5 ao6 n5 n6 cp5 cp6 (vals a p) (vals b p) _ hs5 hs6 (by have := vals_fewE HNa.out p; rw [hs5.1] at this; omega) (by have := vals_fewE HNb.out p; rw [hs6.1] at this; omega))
     clear hD hmm hc hp hs5 hs6
     go_wp2_with fail
     refine HDv.out.mono ?_
     intro e w5 hdv
     obtain ⟨v5, T5, rfl, hT5, hD5⟩ := hdv
     obtain ⟨xo, xc, rfl⟩ := row_slice hD5.row
     have HD5 := Lib.hid hD5
     have HT5 := Lib.hid hT5
     have hown := own_below HD.out.row HD5.out.low
     have hsz5 : wK.heap.size ≤ w5.heap.size := Nat.le_trans HD.out.low.size HD5.out.low.size
     have hl2 : T5.length ≤ 2 := by
      have h1 := congrArg List.length HT5.out
      unfold mmds at h1
      rw [List.length_map] at h1
      rw [h1]; exact dif1_len _ _ _
     clear hD5 hT5 HDv hl5 hl6
     go_wp2_with (at_builtin; go_must (refine push_mods w5 hown (.tmp 38) (.tmp 46) HD5.out.row HD5.out.one ?_ ?_ ?_ ?_ ?_ ?_ ?_; exact rfl; exact rfl; exact rfl; exact rfl; omega; exact hsz5; intro v6 w6' g1 g2 g3; obtain ⟨vo6, vc6, rfl⟩ := row_slice g1; have HI6 := Lib.hid (DfI.next hiK HD.out HT.out hTl HD5.out (by rw [HP.out]; exact HT5.out) g1 g2 g3); clear g1 g2 g3))
     go_roundw
     case rel => exact ⟨i + 1, by omega, by go_num, HI6⟩
     case measure => simp [intOf]; omega
    ·obtain rfl : i = k := by omega
     have d1 : ¬ (i : Int) < (i : Int) := by omega
     go_wp2_with fail
     go_ret
     obtain ⟨T, hD, hmm, _⟩ := HI.out
     refine ⟨_, T, rfl, ?_, hD.lower HBK.out⟩
     rw [enD_yes HE.out.1 HE.out.2]
     unfold difL
     rw [HKd.out, hmm, ← HKl.out, List.take_length]
  ·have d1 : (c2 != 0) = true := by simpa using h2
   go_wp2_with fail
   go_ret
   exact ⟨_, [], rfl, by rw [enD_no (.inr (by rw [HE.out.2]; exact h2))]; rfl, DvI.nil HB2.out⟩
 ·have d1 : (c1 != 0) = true := by simpa using h1
  go_wp2_with fail
  go_ret
  exact ⟨_, [], rfl, by rw [enD_no (.inl (by rw [HE.out.1]; exact h1))]; rfl, DvI.nil HB1.out⟩
end Go.Proofs.YtonfkhkalodldabGreatDoor
end

section
set_option maxRecDepth 100000
namespace Go.Proofs.YtonfkhkalodldabGreatDoor
open Go.RowKit Go.PlainAid
theorem firstE_each {f : Nat → Int} {m : Nat} (h : firstE f m = 0) (j : Nat) (hj : j < m) : f j = 0 := by
 induction j using Nat.strongRecOn with
 | _ j ih =>
  by_cases e : f j = 0
  ·exact e
  ·exact absurd ((firstE_hit (fun k hk => ih k hk (Nat.lt_trans hk hj)) e hj).symm.trans h) e
theorem ty_low (T : List Ty) (n : ByteArray) : tyOf T (lowS n) = tyOf T n := by unfold tyOf; rw [lowS_low]
theorem nrm_low1 (T : List Ty) (n v : ByteArray) : nrmE T (lowS n) v = nrmE T n v ∧ nrmV T (lowS n) v = nrmV T n v := by
 unfold nrmE nrmV; rw [ty_low]; exact ⟨rfl, rfl⟩
theorem nrm_again {T : List Ty} {n v : ByteArray} (h : nrmE T n v = 0) : nrmE T n (nrmV T n v) = 0 ∧ nrmV T n (nrmV T n v) = nrmV T n v := by
 unfold nrmE nrmV at *
 cases e : tyOf T n with
 | none => rw [e] at h; cases h
 | some t =>
  rw [e] at h
  simp only at h ⊢
  unfold normE at h ⊢
  cases f : normS t.syn v with
  | none => rw [f] at h; cases h
  | some g =>
   rw [Option.getD_some, norm_again f]
   exact ⟨rfl, rfl⟩
def NrV (T : List Ty) (n v : ByteArray) : Prop := nrmE T n v = 0 ∧ nrmV T n v = v
theorem NrV.low {T : List Ty} {n v : ByteArray} (h : NrV T n v) : NrV T (lowS n) v := by unfold NrV; rw [(nrm_low1 T n v).1, (nrm_low1 T n v).2]; exact h
theorem fms_id {T : List Ty} {n : ByteArray} : ∀ {vs : List ByteArray}, (∀ v ∈ vs, NrV T n v) → fmsL T n vs = vs
 | [], _ => rfl
 | v :: vs, h => by
  have ih := fms_id (vs := vs) fun x hx => h x (by simp [hx])
  unfold fmsL at ih ⊢
  rw [List.map_cons, ih, (h v (by simp)).2]
theorem fmsE_all {T : List Ty} {n : ByteArray} {vs : List ByteArray} (h : fmsE T n vs = 0) : ∀ v ∈ vs, nrmE T n v = 0 := fun v hv => by
 obtain ⟨j, hj, e⟩ := List.mem_iff_getElem.1 hv
 by_cases h0 : nrmE T n v = 0
 ·exact h0
 ·exfalso
  have key : ∀ (f : Nat → Int) (m : Nat), firstE f m = 0 → ∀ j, j < m → f j = 0 := fun f m => firstE_each
  have := key _ _ h j hj
  rw [part_get vs j hj, e] at this
  exact h0 this
theorem nv_ok {T : List Ty} {n : ByteArray} {vs : List ByteArray} (h : nvE T n vs = 0) : fmsE T n vs = 0 ∧ (fmsL T n vs).Nodup := by
 unfold nvE at h
 split at h
 ·rename_i k; exact absurd h k
 ·rename_i k
  split at h
  ·rename_i q; exact ⟨Classical.not_not.1 k, q⟩
  ·cases h
theorem fms_nr {T : List Ty} {n : ByteArray} {vs : List ByteArray} (h : nvE T n vs = 0) : ∀ v ∈ fmsL T n vs, NrV T n v := fun v hv => by
 obtain ⟨u, hu, rfl⟩ := List.mem_map.1 hv
 exact nrm_again (fmsE_all (nv_ok h).1 u hu)
def NrA (T : List Ty) (l : List At) : Prop := ∀ n v, v ∈ vals l n → NrV T n v
theorem NrA.at {T : List Ty} {l : List At} (h : NrA T l) (hN : NF l) {a : At} (ha : a ∈ l) : ∀ v ∈ a.2, NrV T a.1 v := fun v hv => h a.1 v (by rw [nf_get hN ha]; exact hv)
theorem nra_nm {T : List Ty} {l : List At} (h : NrA T l) (hN : NF l) : nmE T l = 0 ∧ nmL T l = l := by
 constructor
 ·refine firstE_zero fun j hj => ?_
  have ha := at_mem l j hj
  have h1 := h.at hN ha
  have h2 : fmsE T (atD l j).1 (atD l j).2 = 0 := firstE_zero fun k hk => (h1 _ (part_mem _ k hk)).1
  exact (nvE_ok h2 (by rw [fms_id h1]; exact asc_nodup (hN.vasc _ ha))).1
 ·unfold nmL
  have : ∀ a ∈ l, (a.1, sortU (fmsL T a.1 a.2)) = a := fun a ha => by rw [fms_id (h.at hN ha), sortU_id (hN.vasc a ha)]
  exact (List.map_congr_left this).trans (List.map_id' l)
theorem nm_nra {T : List Ty} {L : List At} (hN : NF L) (h : nmE T L = 0) : NrA T (nmL T L) := fun n v hv => by
 have hF := nm_NF (T := T) hN
 rw [vals_mem, hl_low hF.low, hs_nm] at hv
 obtain ⟨a, ha, rfl, hm⟩ := hv
 obtain ⟨j, hj, rfl⟩ := mem_at ha
 have key : ∀ (f : Nat → Int) (m : Nat), firstE f m = 0 → ∀ j, j < m → f j = 0 := fun f m => firstE_each
 exact fms_nr (key _ _ h j hj) v hm
structure NmE (T : List Ty) (cs : List Cl) (en : ByteArray) (l : List At) : Prop where
 nz : en ≠ ⟨#[]⟩
 nm : Nam.cleanE en = 0 ∧ Nam.cleanV en = en
 chk : chkA l = 0
 nof : NF l
 nr : NrA T l
 vld : vldE T cs l = 0
theorem NmE.en {T : List Ty} {cs : List Cl} {en : ByteArray} {l : List At} (h : NmE T cs en l) : enE T cs en l = 0 ∧ enN T cs en l = en ∧ enL T cs en l = l ∧ nmL T (nf l) = l := by
 obtain ⟨h1, h2⟩ := nra_nm h.nr h.nof
 have h0 : enE T cs en l = 0 := by
  unfold enE
  rw [if_neg (by rw [h.nm.1, h.nm.2]; exact fun k => k.elim (fun e => e rfl) h.nz), if_neg (by rw [h.chk]; exact fun e => e rfl), nf_id h.nof, if_neg (by rw [h1]; exact fun e => e rfl), h2, h.vld]
 have h3 : nmL T (nf l) = l := by rw [nf_id h.nof, h2]
 unfold enN enL
 rw [if_pos h0, if_pos h0, h3]
 exact ⟨h0, h.nm.2, (by first | rfl | exact h3), (by first | rfl | exact h3)⟩
theorem en_nm {T : List Ty} {cs : List Cl} {en : ByteArray} {l : List At} (h : enE T cs en l = 0) : NmE T cs (enN T cs en l) (enL T cs en l) := by
 have hN : enN T cs en l = Nam.cleanV en := if_pos h
 have hL : enL T cs en l = nmL T (nf l) := if_pos h
 rw [hN, hL]
 unfold enE at h
 split at h
 ·cases h
 ·rename_i k1
  split at h
  ·rename_i k; exact absurd h k
  ·rename_i k2
   split at h
   ·rename_i k; exact absurd h k
   ·rename_i k3
    have c0 : Nam.cleanE en = 0 := Classical.not_not.1 fun e => k1 (.inl e)
    obtain ⟨_, c1, c2⟩ := Nam.clean_again c0
    exact ⟨fun e => k1 (.inr e), ⟨c2, c1⟩, nm_chk (Classical.not_not.1 k2) (Classical.not_not.1 k3), nm_NF (nf_NF l), nm_nra (nf_NF l) (Classical.not_not.1 k3), h⟩
/-! ### modifications -/
theorem minus_all {a b : List ByteArray} (h : (minusL a b).length = a.length) : minusL b a = b := by
 have hs : minusL a b = a := (List.filter_sublist (l := a)).eq_of_length h
 unfold minusL
 refine List.filter_eq_self.2 fun v hv => ?_
 have hn : v ∉ a := fun hva => by
  have := List.filter_eq_self.1 hs v hva
  rw [memB_iff.2 hv] at this; cases this
 cases e : memB a v
 ·rfl
 ·exact absurd (memB_iff.1 e) hn
end Go.Proofs.YtonfkhkalodldabGreatDoor
end
