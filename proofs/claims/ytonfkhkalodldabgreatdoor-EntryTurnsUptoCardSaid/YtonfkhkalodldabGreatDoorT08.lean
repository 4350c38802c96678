/-
  Texts of the schema layer and of those beneath it, joined: EntSet, EntSrt, ShelfM, EntRt, AttRS, AttR2, AttR3. Conditions stand at each contract.
-/
import Derived.Shelf.SlMaps.Clone
import Derived.Shelf.SlMaps.Copy
import Derived.Deep.RegionHeld
import Derived.KernelRfl
import Derived.Test.YtonfkhkalodldabGreatDoorT04
set_option linter.unusedVariables false
set_option linter.unusedSimpArgs false
set_option linter.unnecessarySimpa false

section
set_option maxRecDepth 100000
namespace Go.Proofs.YtonfkhkalodldabGreatDoor
open Go.RowKit Go.PlainAid Go.Maps Go.ChangeMaps
theorem insS_in {a : List ByteArray} (h : Asc a) {x : ByteArray} (hx : x ∈ a) : insS a x = a := asc_ext (insS_asc h) h fun y => by
 rw [insS_mem]
 exact ⟨fun k => k.elim id fun e => e ▸ hx, .inl⟩
theorem fold_full : ∀ (l a : List ByteArray), Asc a → (l.foldl insS a).length = a.length + l.length → l.Nodup
 | [], _, _, _ => List.Pairwise.nil
 | x :: l, a, h, e => by
  have key : ∀ (l a : List ByteArray), Asc a → (l.foldl insS a).length = a.length + l.length → ∀ y ∈ l, y ∉ a := by
   intro l
   induction l with
   | nil => intro _ _ _ y hy; cases hy
   | cons x l ih =>
    intro a h e y hy hya
    have h1 := foldl_len l (insS a x)
    have h2 := insS_len a x
    rw [List.foldl_cons, List.length_cons] at e
    rcases List.mem_cons.1 hy with rfl | hy
    ·rw [insS_in h hya] at e h1
     omega
    ·exact ih (insS a x) (insS_asc h) (by omega) y hy (insS_mem.2 (.inl hya))
  have h1 := foldl_len l (insS a x)
  have h2 := insS_len a x
  rw [List.foldl_cons, List.length_cons] at e
  have e2 : (l.foldl insS (insS a x)).length = (insS a x).length + l.length := by omega
  exact List.nodup_cons.2 ⟨fun hx => key l _ (insS_asc h) e2 x hx (insS_mem.2 (.inr rfl)), fold_full l _ (insS_asc h) e2⟩
theorem sortU_full {l : List ByteArray} (h : (sortU l).length = l.length) : l.Nodup := fold_full l [] List.Pairwise.nil (by simpa [sortU] using h)
theorem sortU_less {l : List ByteArray} (h : ¬ l.Nodup) : (sortU l).length < l.length := by
 have h1 := sortU_len l
 rcases Nat.lt_or_ge (sortU l).length l.length with k | k
 ·exact k
 ·exact absurd (sortU_full (Nat.le_antisymm h1 k)) h
theorem sortU_add (ks : List ByteArray) (k : ByteArray) : (sortU (ks ++ [k])).length = if memB ks k = true then (sortU ks).length else (sortU ks).length + 1 := by
 rw [sortU_snoc]
 by_cases h : memB ks k = true
 ·rw [if_pos h, insS_in (sortU_asc ks) (sortU_mem.2 (memB_iff.1 h))]
 ·rw [if_neg h, insS_len_new (sortU_asc ks) fun hx => h (memB_iff.2 (sortU_mem.1 hx))]
structure SetZ (w : World) (b n : Nat) (D : DataW Unit) (ks : List ByteArray) : Prop where
 map : w.ownsMap Tryz.prog 9 (plainElem Tryz.prog 4) b n D
 has : ∀ k, Maps.has D (klit k) = memB ks k
 siz : Maps.size D = (sortU ks).length
theorem setZ_made (w : World) : SetZ (w.alloc (.map #[] 0)) w.heap.size 0 (.map []) [] where
 map := World.ownsMap_made w _ _ _
 has k := rfl
 siz := rfl
theorem SetZ.lt {w : World} {b n : Nat} {D : DataW Unit} {ks : List ByteArray} (h : SetZ w b n D ks) : b < w.heap.size := h.map.lt
theorem SetZ.kept {w w' : World} {b n : Nat} {D : DataW Unit} {ks : List ByteArray} {row : Option Nat} (G : SetZ w b n D ks) (hg : w.grownBy w' row) (hne : some b ≠ row) : SetZ w' b n D ks := ⟨G.map.kept hg hne, G.has, G.siz⟩
theorem SetZ.below {w w' : World} {b n B : Nat} {D : DataW Unit} {ks : List ByteArray} (G : SetZ w b n D ks) (hb : Below B w w') (hB : b < B) : SetZ w' b n D ks := by
 obtain ⟨⟨es, clock, he, h1, h2⟩, h3, h4⟩ := G
 exact ⟨⟨es, clock, by rw [hb.block b hB]; exact he, h1, h2⟩, h3, h4⟩
theorem SetZ.store {w : World} {b n : Nat} {D : DataW Unit} {ks : List ByteArray} (G : SetZ w b n D ks) (k : ByteArray) (hk : k.size ≤ maxLen) (hn : n < maxLen) :
  ∃ w', (Instr.mapUpdate 77 (.map (some b)) (.string k) (.bool true)).run Tryz.prog w = .ok () w' ∧ SetZ w' b (n + 1) (D.put (klit k) (.lit (.bool true))) (ks ++ [k]) ∧ w.grownBy w' (some b) := by
 obtain ⟨w', hrun, hm, hg⟩ := G.map.update (t := 77) (e := 4) (string_keyed Tryz.underlying9) Tryz.underlying77 hn (klit_key k hk) (plainElem_bool Tryz.underlying4 true)
 refine ⟨w', hrun, ⟨hm, fun j => ?_, ?_⟩, hg⟩
 ·rw [memB_snoc]
  by_cases e : k = j
  ·subst e
   rw [has_put_same G.map.isMap (by unfold klit; trivial)]; simp
  ·rw [has_put_other (fun h => e (klit_one h).symm), G.has j]
   simp [e]
 ·rw [size_put (G.map.tidy (string_keyed Tryz.underlying9)), G.has, G.siz, sortU_add]
end Go.Proofs.YtonfkhkalodldabGreatDoor
end

section
set_option maxRecDepth 100000
namespace Go.Proofs.YtonfkhkalodldabGreatDoor
open Go.RowKit Go.PlainAid Go.Sort Go.Lib
theorem nodup_sorted {l : List ByteArray} (h : l.Nodup) : ((l.map fun s => s.data.toList).mergeSort fun x y => decide (x ≤ y)).map toB = sortU l := by
 obtain ⟨ss, hss⟩ : ∃ ss, (l.map fun s => s.data.toList) = ss := ⟨_, rfl⟩
 rw [hss]
 have hs := List.pairwise_mergeSort (le := fun (x y : List UInt8) => decide (x ≤ y)) (fun a b c h1 h2 => decide_eq_true (List.le_trans (of_decide_eq_true h1) (of_decide_eq_true h2))) (fun a b => by
  rcases List.le_total a b with k | k
  ·simp [k]
  ·simp [k]) ss
 have hp := List.mergeSort_perm ss (fun x y => decide (x ≤ y))
 obtain ⟨zs, hz⟩ : ∃ zs, (ss.mergeSort fun x y => decide (x ≤ y)) = zs := ⟨_, rfl⟩
 rw [hz] at hs hp ⊢
 have hnd : ss.Nodup := by
  rw [← hss]
  exact List.pairwise_map.2 (h.imp fun {a b} k e => k (ba_ext e))
 have hzn : zs.Nodup := hp.nodup_iff.2 hnd
 refine asc_ext ?_ (sortU_asc l) fun x => ?_
 ·unfold Asc
  rw [List.pairwise_map]
  refine (hs.and hzn).imp fun {a b} k => ?_
  have hle : a ≤ b := of_decide_eq_true k.1
  rcases cs_tri (toB a) (toB b) with c | c | c
  ·exact c
  ·exact absurd (by have := congrArg (fun s : ByteArray => s.data.toList) c; simpa [toB] using this) k.2
  ·exact absurd ((lt_cmp b a).2 (by simpa [cmpS, toB] using c)) (List.not_lt.2 hle)
 ·rw [List.mem_map, sortU_mem]
  constructor
  ·rintro ⟨y, hy, rfl⟩
   rw [hp.mem_iff, ← hss, List.mem_map] at hy
   obtain ⟨s, hs', rfl⟩ := hy
   rw [toB_list]; exact hs'
  ·intro hx
   exact ⟨x.data.toList, hp.mem_iff.2 (by rw [← hss]; exact List.mem_map_of_mem hx), toB_list x⟩
theorem sortRow_s (base n : Nat) (v : Value) (l : List ByteArray) (w : World) (hown : w.ownsRow base 9 1 v n (scells l)) (hl : l.length = n) (hn : n ≤ 1100000) (hnd : l.Nodup) :
  Calls Tryz.prog 16 #[v] w fun e w' => e = .returned (.tuple #[]) ∧ w'.ownsRow base 9 1 v n (scells (sortU l)) ∧ w.grownBy w' v.ownBlock := by
 rcases hown.2 with ⟨rfl, h0⟩ | ⟨g, cap, cur, rfl, hg, hb, hc, hm, hcs, ht⟩
 ·subst h0
  obtain rfl : l = [] := List.length_eq_zero_iff.1 hl
  refine (AnyM.slices_Sort_string_none Tryz.sort none 0 _).mono ?_
  rintro e w1 ⟨rfl, rfl⟩
  exact ⟨rfl, World.ownsRow_nil _ _ _ _, ⟨rfl, rfl, rfl, Nat.le_refl _, fun _ _ _ => rfl⟩⟩
 ·subst hl
  have HE := nodup_sorted hnd
  obtain ⟨ss, hss⟩ : ∃ ss, (l.map fun s => s.data.toList) = ss := ⟨_, rfl⟩
  have hsl : ss.length = l.length := by rw [← hss, List.length_map]
  have hgl : g < w.heap.size := by
   rcases Nat.lt_or_ge g w.heap.size with h' | h'
   ·exact h'
   ·simp [Array.getElem?_eq_none h'] at hb
  have hH : Holds encStr w g 0 ss.toArray := holds_of_block hb (by rw [hsl, ← hss, ← cells_enc]; simpa using ht)
  rw [hss] at HE
  obtain ⟨ts, hts⟩ : ∃ ts, (ss.mergeSort fun x y => decide (x ≤ y)) = ts := ⟨_, rfl⟩
  have htl : ts.length = ss.length := by rw [← hts]; exact sort_len ss
  have hS := AnyM.slices_Sort_string Tryz.sort g 0 cap ss w hH hgl (by omega)
  rw [hsl, hts] at hS
  rw [hts] at HE
  refine hS.mono ?_
  rintro e w' ⟨rfl, m, os, rfl⟩
  have ho1 := ownsRow_sorted (w := w) (n := m) (os := os) (ss := ss) (ts := ts) htl hg hb (by omega) hm (by omega)
  refine ⟨rfl, ?_, grownBy_sorted (w := w) (g := g) (n := m) (os := os) ts.toArray⟩
  rw [hsl] at ho1
  rw [← HE, ← enc_cells]
  exact ho1
end Go.Proofs.YtonfkhkalodldabGreatDoor
end

section
set_option maxRecDepth 100000
namespace Go.Proofs
open Go.Shelf
def Tryz.mclone_ren : Go.Shelf.Ren := ⟨fun | 5 => 28 | 7 => 59 | n => n, fun | 23 => 63 | 25 => 9 | 3 => 38 | 4 => 4 | 20 => 20 | n => n, fun | n => n⟩
theorem Tryz.mclone : Go.Proofs.SlLaysW.n5 Tryz.prog Tryz.mclone_ren := {
 mixed := by kernel_rfl
 f5 := ⟨Tryz.f28.name, by decide, Tryz.func28.trans (congrArg some (by kernel_rfl))⟩
 f7 := Tryz.func59.trans (congrArg some (by kernel_rfl))
 t4 := Tryz.underlying4
 a4 := Tryz.isAgg4
 z4 := Tryz.sizeOf4
 v4 := Tryz.zeroValue4
 t20 := Tryz.underlying20
 a20 := Tryz.isAgg20
 z20 := Tryz.sizeOf20
 v20 := Tryz.zeroValue20
 t23 := Tryz.underlying63
 a23 := Tryz.isAgg63
 z23 := Tryz.sizeOf63
 v23 := Tryz.zeroValue63 }
def Tryz.mcopy_ren : Go.Shelf.Ren := ⟨fun | 5 => 29 | n => n, fun | 23 => 63 | 24 => 63 | 26 => 9 | 27 => 38 | 0 => 0 | 4 => 4 | n => n, fun | n => n⟩
theorem Tryz.mcopy : Go.Proofs.SlLaysX.n5 Tryz.prog Tryz.mcopy_ren := {
 mixed := by kernel_rfl
 f5 := ⟨Tryz.f29.name, by decide, Tryz.func29.trans (congrArg some (by kernel_rfl))⟩
 t0 := Tryz.underlying0
 a0 := Tryz.isAgg0
 z0 := Tryz.sizeOf0
 v0 := Tryz.zeroValue0
 t4 := Tryz.underlying4
 a4 := Tryz.isAgg4
 z4 := Tryz.sizeOf4
 v4 := Tryz.zeroValue4
 t23 := Tryz.underlying63
 a23 := Tryz.isAgg63
 z23 := Tryz.sizeOf63
 v23 := Tryz.zeroValue63
 t24 := Tryz.underlying63
 a24 := Tryz.isAgg63
 z24 := Tryz.sizeOf63
 v24 := Tryz.zeroValue63
 a26 := Tryz.isAgg9
 z26 := Tryz.sizeOf9
 a27 := Tryz.isAgg38
 z27 := Tryz.sizeOf38 }
end Go.Proofs
end

section
set_option maxRecDepth 100000
namespace Go.Proofs.YtonfkhkalodldabGreatDoor
open Go.RowKit Go.PlainAid
theorem rgT {P : Program} {md : Region.Mode} {ops : Array Oper} {Q : Exit → Act → World → Prop} {S : World → Prop} (i : Nat) (d : Option Nat) {op : Op} {ty : _} {ps : _} {af : _} {g : _} {v : Value} {fuel : Nat} {listed l' : Array Bool} {a a' : Act} {w : World}
  (h : wpAnyH P md ops Q S fuel l' a' w)
  (hi : ops[i]? = some { dst := d, op := op, type := ty, pos := ps, after := af, guard := g } := by rfl)
  (hs : Region.noSelect ops = true := by kernel_rfl) (hf : Region.free md ops listed i = true := by kernel_rfl) (hr : (Region.ready md ops listed).contains i = true := by kernel_rfl)
  (hQ : ∀ c a w, Q (.panic c) (a.put d v) w → Q (.panic c) a w := by exact fun _ _ _ h => h)
  (hy : YieldsIf P ops S { dst := d, op := op, type := ty, pos := ps, after := af, guard := g } v a := by
   refine Or.inl ⟨by rfl, ?_⟩
   intro w hSw
   try dsimp only at hSw
   go_simp
   try with_reducible rfl)
  (hS : S w := by assumption)
  (ha : a.put d v = a' := by first | (simp only [Act.put, List.setIfInBounds_toArray, List.set_cons_zero, List.set_cons_succ]; done) | (simp only [Act.put, List.setIfInBounds_toArray, List.set_cons_zero, List.set_cons_succ]; rfl) | rfl)
  (hl : listed.setIfInBounds i true = l' := by first | (simp only [List.setIfInBounds_toArray, List.set_cons_zero, List.set_cons_succ]; done) | (simp only [List.setIfInBounds_toArray, List.set_cons_zero, List.set_cons_succ]; rfl) | rfl) :
  wpAnyH P md ops Q S (fuel + 1) listed a w := by
 subst ha
 subst hl
 exact wpAnyH_take hi hs hf hr hQ hy hS h
theorem lsA {α : Type} (l : List α) (i : Nat) (a : α) : l.toArray.setIfInBounds i a = (l.set i a).toArray := List.setIfInBounds_toArray ..
theorem lsZ {α : Type} {a b : α} {l : List α} : (a :: l).set 0 b = b :: l := List.set_cons_zero ..
theorem lsS {α : Type} {a b : α} {l : List α} {i : Nat} : (a :: l).set (i + 1) b = a :: l.set i b := List.set_cons_succ ..
theorem rgS {P : Program} {md : Region.Mode} {ops : Array Oper} {Q : Exit → Act → World → Prop} {S : World → Prop} (i : Nat) (d : Option Nat) {op : Op} {ty : _} {ps : _} {af : _} {g : _} {fuel : Nat} {listed l' : Array Bool} {a a' : Act} {w : World}
  (h : wpAnyH P md ops Q S fuel l' a' w)
  (hi : ops[i]? = some { dst := d, op := op, type := ty, pos := ps, after := af, guard := g } := by rfl)
  (hs : Region.noSelect ops = true := by kernel_rfl) (hf : Region.free md ops listed i = true := by kernel_rfl) (hr : (Region.ready md ops listed).contains i = true := by kernel_rfl)
  (hQ : ∀ c a w, Q (.panic c) (a.put d undef) w → Q (.panic c) a w := by exact fun _ _ _ h => h)
  (hy : YieldsIf P ops S { dst := d, op := op, type := ty, pos := ps, after := af, guard := g } undef a := by exact Or.inr ⟨by rfl, rfl⟩)
  (hS : S w := by assumption)
  (ha : a.put d undef = a' := by first | (simp only [Act.put, List.setIfInBounds_toArray, List.set_cons_zero, List.set_cons_succ]; done) | (simp only [Act.put, List.setIfInBounds_toArray, List.set_cons_zero, List.set_cons_succ]; rfl) | rfl)
  (hl : listed.setIfInBounds i true = l' := by first | (simp only [List.setIfInBounds_toArray, List.set_cons_zero, List.set_cons_succ]; done) | (simp only [List.setIfInBounds_toArray, List.set_cons_zero, List.set_cons_succ]; rfl) | rfl) :
  wpAnyH P md ops Q S (fuel + 1) listed a w := by
 subst ha
 subst hl
 exact wpAnyH_take hi hs hf hr hQ hy hS h
theorem rgC {P : Program} {md : Region.Mode} {ops : Array Oper} {Q : Exit → Act → World → Prop} {S : World → Prop} (i : Nat) {o : Oper} {fuel : Nat} {listed : Array Bool} {a : Act} {w : World}
  (h : ∀ K' : Act → World → Prop, Shut (∀ a w, S w → (S w → wpAnyH P md ops Q S fuel (listed.setIfInBounds i true) a w) → K' a w) → if Region.wanted o (yielded ops a.tmps) = true then Oper.wp P o a w K' Q else K' (a.put o.dst undef) w)
  (hr : Region.ready md ops listed = [i] := by kernel_rfl) (ho : ops[i]? = some o := by rfl) :
  wpAnyH P md ops Q S (fuel + 1) listed a w := wpAnyH_ready hr (by simp) (AllReadyH.cons ho h AllReadyH.nil)
theorem names_snoc (l : List At) (a : At) : names (l ++ [a]) = if a.2.length = 0 then names l else insS (names l) (lowS a.1) := by
 unfold names
 rw [List.filter_append, List.map_append]
 by_cases h : a.2.length = 0
 ·have e : a.2 = [] := List.length_eq_zero_iff.1 h
  rw [if_pos h]
  have : [a].filter (fun a => !a.2.isEmpty) = [] := by simp [e]
  rw [this]; simp
 ·have e : a.2 ≠ [] := fun e => h (by rw [e]; rfl)
  rw [if_neg h]
  have : [a].filter (fun a => !a.2.isEmpty) = [a] := by simp [e]
  rw [this]; exact sortU_snoc _ _
theorem names_len (l : List At) : (names l).length ≤ l.length := by
 unfold names
 refine Nat.le_trans (sortU_len _) ?_
 rw [List.length_map]; exact List.length_filter_le _ _
theorem names_asc (l : List At) : Asc (names l) := sortU_asc _
theorem lowS_small {s : ByteArray} {m : Nat} (h : s.size ≤ m) : (lowS s).size ≤ m := by rw [lowS_size]; exact h
theorem vals_small {l : List At} (h : SmallA l) (n : ByteArray) : SmallS (vals l n) := by
 intro v hv
 obtain ⟨a, ha, _, hx⟩ := vals_mem.1 hv
 exact (h a ha).2 v hx
theorem vals_len (l : List At) (n : ByteArray) : (vals l n).length ≤ sumV l := Nat.le_trans (sortU_len _) (allV_len n l)
theorem nf_len (l : List At) : (nf l).length ≤ l.length := by unfold nf; rw [List.length_map]; exact names_len l
theorem sortU_app {X : List ByteArray} {vs : List ByteArray} {j : Nat} (h : j < vs.length) : sortU (X ++ vs.take (j + 1)) = insS (sortU (X ++ vs.take j)) (partAt vs j) := by
 rw [take_snoc vs j h, ← List.append_assoc, sortU_snoc]
theorem map_take_snoc {l : List At} {ns : List ByteArray} {i : Nat} (h : i < ns.length) {T : List Tr} (hT : tats T = (ns.take i).map fun n => (n, vals l n)) {v : Value} :
  tats (T ++ [(partAt ns i, v, vals l (partAt ns i))]) = (ns.take (i + 1)).map fun n => (n, vals l n) := by
 rw [tats_append, hT, take_snoc ns i h, List.map_append]; rfl
theorem abox_set {w : World} {b : Nat} {nm : ByteArray} {v u : Value} (h : ABox w b nm v) : ABox (w.setCell ⟨b, 1, none⟩ u) b nm u := heap_setCell_same w b 1 #[.string nm, v] 41 u h
theorem grown_set (w : World) (b i : Nat) (u : Value) : w.grownBy (w.setCell ⟨b, i, none⟩ u) (some b) :=
 ⟨rfl, rfl, rfl, by simp, fun k hk hne => heap_setCell_other w ⟨b, i, none⟩ k u (fun e => hne (by rw [e]))⟩
theorem own_set {w : World} {base b i : Nat} {v u : Value} {n : Nat} {xs : List Value} (h : w.ownsRow base 9 1 v n xs) (hb : b < base) : (w.setCell ⟨b, i, none⟩ u).ownsRow base 9 1 v n xs :=
 h.kept (grown_set w b i u) (by
  cases hv : v.ownBlock with
  | none => exact .inl rfl
  | some g => exact .inr fun e => by cases e; have := (h.lt b hv).1; omega)
def TOwn (w : World) (base : Nat) (v : Value) (T : List Tr) : Prop := ∀ t ∈ T, w.ownsRow base 9 1 t.2.1 t.2.2.length (scells t.2.2) ∧ (t.2.1.ownBlock = none ∨ t.2.1.ownBlock ≠ v.ownBlock)
theorem TOwn.ok {w : World} {base : Nat} {v : Value} {T : List Tr} (h : TOwn w base v T) : TOk w T := fun t ht => hdr_owns (h t ht).1
theorem TOwn.below {w w' : World} {base : Nat} {v : Value} {T : List Tr} (h : TOwn w base v T) (hb : Below w.heap.size w w') : TOwn w' base v T := fun t ht => ⟨own_below (h t ht).1 hb, (h t ht).2⟩
theorem TOwn.mono {w : World} {base base' : Nat} {v : Value} {T : List Tr} (h : TOwn w base v T) (hb : base' ≤ base) : TOwn w base' v T := fun t ht => ⟨(h t ht).1.mono hb, (h t ht).2⟩
theorem TOwn.snoc {w : World} {base : Nat} {v : Value} {T : List Tr} (h : TOwn w base v T) {t : Tr} (ht : w.ownsRow base 9 1 t.2.1 t.2.2.length (scells t.2.2)) (hv : t.2.1.ownBlock = none ∨ t.2.1.ownBlock ≠ v.ownBlock) : TOwn w base v (T ++ [t]) :=
 fun u hu => (List.mem_append.1 hu).elim (h u) fun k => by rw [List.mem_singleton.1 k]; exact ⟨ht, hv⟩
theorem TOwn.grown {w w' : World} {base : Nat} {v v' : Value} {T : List Tr} (h : TOwn w base v T) (hg : w.grownBy w' v.ownBlock) (hl : v'.ownBlock = v.ownBlock ∨ v'.ownBlock = some w.heap.size) : TOwn w' base v' T := fun t ht => by
 obtain ⟨h1, h2⟩ := h t ht
 refine ⟨h1.kept hg h2, ?_⟩
 cases hb : t.2.1.ownBlock with
 | none => exact .inl rfl
 | some g =>
  refine .inr fun e => ?_
  rcases hl with k | k
  ·rcases h2 with h2 | h2
   ·rw [hb] at h2; cases h2
   ·exact h2 (by rw [hb, e, k])
  ·rw [k] at e
   cases e
   have := (h1.lt _ hb).2
   omega
theorem own_apart {w : World} {base : Nat} {e : TypeId} {size n m : Nat} {v u : Value} {xs ys : List Value} {e' : TypeId} {size' b0 : Nat} (h : w.ownsRow base e size v n xs) {w0 : World} (k : w0.ownsRow b0 e' size' u m ys) (hb : w0.heap.size ≤ base) : v.ownBlock = none ∨ v.ownBlock ≠ u.ownBlock := by
 cases hv : v.ownBlock with
 | none => exact .inl rfl
 | some g =>
  refine .inr fun e => ?_
  have h1 := (h.lt g hv).1
  have h2 := (k.lt g e.symm).2
  omega
theorem keep2b {w w1 w2 : World} {f : Nat} {A B : Addr} {x y : Value} (h : w1.cell? A = some x ∧ w1.cell? B = some y ∧ Hid (Below f w w1 ∧ f ≤ w1.heap.size)) (hb : Below w1.heap.size w1 w2) : w2.cell? A = some x ∧ w2.cell? B = some y ∧ Hid (Below f w w2 ∧ f ≤ w2.heap.size) :=
 ⟨cell_later hb h.1, cell_later hb h.2.1, Lib.hid ⟨h.2.2.out.1.trans (hb.mono h.2.2.out.2), Nat.le_trans h.2.2.out.2 hb.size⟩⟩
theorem keep2s {w w1 : World} {f g i : Nat} {A B : Addr} {x y u : Value} (h : w1.cell? A = some x ∧ w1.cell? B = some y ∧ Hid (Below f w w1 ∧ f ≤ w1.heap.size)) (hA : A.block < g) (hB : B.block < g) (hg : f ≤ g) : (w1.setCell ⟨g, i, none⟩ u).cell? A = some x ∧ (w1.setCell ⟨g, i, none⟩ u).cell? B = some y ∧ Hid (Below f w (w1.setCell ⟨g, i, none⟩ u) ∧ f ≤ (w1.setCell ⟨g, i, none⟩ u).heap.size) :=
 ⟨(World.cell?_of_block (heap_setCell_other w1 ⟨g, i, none⟩ A.block u (Nat.ne_of_lt hA))).trans h.1, (World.cell?_of_block (heap_setCell_other w1 ⟨g, i, none⟩ B.block u (Nat.ne_of_lt hB))).trans h.2.1, Lib.hid ⟨h.2.2.out.1.setCell (p := ⟨g, i, none⟩) hg _, by simpa using h.2.2.out.2⟩⟩
theorem keep3b {w w1 w2 : World} {f : Nat} {A B C : Addr} {x y z : Value} (h : w1.cell? A = some x ∧ w1.cell? B = some y ∧ w1.cell? C = some z ∧ Hid (Below f w w1 ∧ f ≤ w1.heap.size)) (hb : Below w1.heap.size w1 w2) : w2.cell? A = some x ∧ w2.cell? B = some y ∧ w2.cell? C = some z ∧ Hid (Below f w w2 ∧ f ≤ w2.heap.size) :=
 ⟨cell_later hb h.1, cell_later hb h.2.1, cell_later hb h.2.2.1, Lib.hid ⟨h.2.2.2.out.1.trans (hb.mono h.2.2.2.out.2), Nat.le_trans h.2.2.2.out.2 hb.size⟩⟩
theorem allV_small (l : List At) (k : Nat) (n : ByteArray) : (allV (l.take k) n).length ≤ sumV l := Nat.le_trans (allV_len n _) (sumV_take l k)
theorem abox_frozen {w : World} {b : Nat} {nm : ByteArray} {v : Value} (h : ABox w b nm v) (a : Nat) : w.frozen? ⟨b, a, none⟩ = false := by
 unfold ABox at h
 simp [World.frozen?, h]
set_option maxRecDepth 100000 in
set_option maxHeartbeats 4000000 in
theorem rsorted_s (ao : Option Addr) (n cap : Nat) (l : List At) (w : World) (h : AttrsAt w ao n cap l) (hS : SmallA l) (hV : sumV l ≤ 1100000) (hn : n ≤ 3000) :
  Calls Tryz.prog 33 #[.slice ao n cap] w fun e w' => ∃ v T, e = .returned v ∧ tats T = nf l ∧ TOwn w' w.heap.size v T ∧ w'.ownsRow w.heap.size 41 2 v T.length (tcells T) ∧ Below w.heap.size w w' := by
 obtain ⟨h1, h2, h3, h4⟩ := h
 subst h1
 unfold maxLen at h3
 have H4 := Lib.hid h4; clear h4
 have HS := Lib.hid hS; clear hS
 have HV := Lib.hid hV; clear hV
 go_enter Tryz.func33, Tryz.ntmps33
 go_wp2
 go_loopw [3, 4] (fun s3 i wr => ∃ (j : Nat), j ≤ l.length ∧ i = .int .i64 j ∧ wr.ownsRow w.heap.size 9 1 s3 (names (l.take j)).length (scells (names (l.take j))) ∧ Hid (Below w.heap.size w wr)) (fun _ i _ => l.length - (intOf i).toNat)
 case atStart => exact ⟨0, Nat.zero_le _, rfl, World.ownsRow_nil _ _ _ _, Lib.hid (Below.refl _ _)⟩
 case round =>
  obtain ⟨j, hj, rfl, hown, HB⟩ := hrel
  by_cases hlt : j < l.length
  ·obtain ⟨b, off, rfl, hblt, hat⟩ := H4.out (by omega)
   obtain ⟨c0, vo, vn, vc, c1, hvs0⟩ := hat j hlt
   have c0 := cell_later HB.out c0
   have c1 := cell_later HB.out c1
   obtain ⟨a, ha⟩ : ∃ x, atD l j = x := ⟨_, rfl⟩
   have hsz := (HS.out _ (at_mem l j hlt)).1
   have HT := Lib.hid (names_snoc (l.take j) (atD l j))
   rw [← at_take l j hlt] at HT
   rw [ha] at c0 hsz hvs0 HT
   have hvl : a.2.length = vn := hvs0.1
   clear ha hat hvs0
   obtain ⟨nm, hnm⟩ : ∃ x, a.1 = x := ⟨_, rfl⟩
   rw [hnm] at c0 hsz HT
   clear hnm
   obtain ⟨o, ho⟩ : ∃ x, names (l.take j) = x := ⟨_, rfl⟩
   have HOA := Lib.hid (show Asc o by rw [← ho]; exact names_asc _)
   have hol : o.length ≤ 3000 := by rw [← ho]; have := names_len (l.take j); rw [List.length_take] at this; omega
   rw [ho] at hown HT
   clear ho
   have d1 : (j : Int) < (l.length : Int) := by omega
   by_cases hv0 : vn = 0
   ·have d2 : decide ((0 : Int) < (vn : Int)) = false := decide_eq_false (by omega)
    have HT2 := Lib.hid (show names (l.take (j + 1)) = o by rw [HT.out, if_pos (by omega)])
    go_wp2_with fail
    go_roundw
    case rel => exact ⟨j + 1, by omega, by go_num, by rw [HT2.out]; exact hown, HB⟩
    case measure => simp [intOf]; omega
   ·have d2 : decide ((0 : Int) < (vn : Int)) = true := decide_eq_true (by omega)
    have HT2 := Lib.hid (show names (l.take (j + 1)) = insS o (lowS nm) by rw [HT.out, if_neg (by omega)])
    obtain ⟨so, scap, rfl, hso⟩ := strs_own hown rfl
    have HSO := Lib.hid hso
    clear hso HT
    go_wp2_with fail
    refine (rLower_s nm _ (by omega)).mono ?_
    rintro e w1 ⟨rfl, hb1⟩
    have HB1 := Lib.hid (HB.out.trans (hb1.mono HB.out.size))
    have HSO1 := Lib.hid (HSO.out.below hb1)
    clear hb1
    go_wp2_with fail
    refine (insert_s _ _ _ o (lowS nm) w1 HSO1.out (by omega) HOA.out).mono ?_
    rintro e w2 ⟨v2, rfl, hown2, hb2⟩
    have HB2 := Lib.hid (HB1.out.trans (hb2.mono HB1.out.size))
    have hown3 := hown2.mono HB1.out.size
    clear hb2 hown2
    go_wp2_with fail
    go_roundw
    case rel => exact ⟨j + 1, by omega, by go_num, by rw [HT2.out]; exact hown3, HB2⟩
    case measure => simp [intOf]; omega
  ·obtain rfl : j = l.length := by omega
   rw [List.take_length] at hown
   obtain ⟨ns, hns⟩ : ∃ x, names l = x := ⟨_, rfl⟩
   have hnl : ns.length ≤ 3000 := by rw [← hns]; have := names_len l; omega
   rw [hns] at hown
   have HNF := Lib.hid (show nf l = ns.map fun n => (n, vals l n) by rw [← hns]; rfl)
   clear hns
   obtain ⟨so, scap, rfl, hso⟩ := strs_own hown rfl
   have HSO := Lib.hid hso
   clear hso hown
   obtain ⟨wa, hwa⟩ : ∃ x, x = wr := ⟨_, rfl⟩
   subst hwa
   go_wp2
   go_loopw [5, 6, 7, 8, 9] (fun v iv s7 s8 s9 wr => ∃ (i : Nat) (T : List Tr), i ≤ ns.length ∧ iv = .int .i64 i ∧ T.length = i ∧ Hid (tats T = (ns.take i).map fun n => (n, vals l n)) ∧ Hid (TOwn wr wa.heap.size v T) ∧ wr.ownsRow wa.heap.size 41 2 v T.length (tcells T) ∧ Hid (Below wa.heap.size wa wr)) (fun _ iv _ _ _ _ => ns.length - (intOf iv).toNat)
   case atStart => exact ⟨0, [], Nat.zero_le _, rfl, rfl, Lib.hid (by simp [tats]), Lib.hid (fun t ht => (List.not_mem_nil ht).elim), World.ownsRow_nil _ _ _ _, Lib.hid (Below.refl _ _)⟩
   case round =>
    obtain ⟨i, T, hi, rfl, hTl, HTT, HTK, hownT, HB2⟩ := hrel
    by_cases hli : i < ns.length
    ·obtain ⟨sb, soff, rfl, hs⟩ := HSO.out.2.2.2 (by omega)
     have hcell := (hs.below HB2.out hs.1).2 i hli
     have hsb := hs.1
     obtain ⟨nm, hnm⟩ : ∃ x, partAt ns i = x := ⟨_, rfl⟩
     rw [hnm] at hcell
     have HMT := Lib.hid (fun (v : Value) => map_take_snoc hli HTT.out (v := v))
     rw [hnm] at HMT
     clear hs hnm
     have e1 : (i : Int) < (ns.length : Int) := by omega
     have HB2w := Lib.hid (HB.out.trans (HB2.out.mono HB.out.size))
     go_wp2_with fail
     obtain ⟨wb, hwb⟩ : ∃ x, x = wr := ⟨_, rfl⟩
     subst hwb
     have hsb2 : sb < wb.heap.size := Nat.lt_of_lt_of_le hsb HB2.out.size
     obtain ⟨W1, hW1⟩ : ∃ W1, wb.alloc (.cells #[.string nm, .slice none 0 0] 41) = W1 := ⟨_, rfl⟩
     have X1 : ABox W1 wb.heap.size nm (.slice none 0 0) := by rw [← hW1]; exact abox_new wb nm _
     have HBb := Lib.hid (show Below wb.heap.size wb W1 by rw [← hW1]; exact (Below.refl _ wb).alloc (Nat.le_refl _) _)
     have HZ := Lib.hid (World.ownsRow_nil W1 wb.heap.size 9 1)
     rw [hW1]
     clear hW1
     go_loopw [8, 9] (fun kv jv wr => ∃ (k : Nat) (hd : Value), k ≤ l.length ∧ kv = .int .i64 k ∧ Hid (ABox wr wb.heap.size nm hd) ∧ Hid (wr.ownsRow wb.heap.size 9 1 hd (sortU (allV (l.take k) nm)).length (scells (sortU (allV (l.take k) nm)))) ∧ Hid (Below wb.heap.size wb wr)) (fun kv _ _ => l.length - (intOf kv).toNat)
     case atStart => exact ⟨0, _, Nat.zero_le _, rfl, Lib.hid X1, HZ, HBb⟩
     case round =>
      obtain ⟨k, hd, hk, rfl, HX, HH, HB3⟩ := hrel
      by_cases hlk : k < l.length
      ·obtain ⟨b, off, rfl, hblt, hat⟩ := H4.out (by omega)
       obtain ⟨c0, vo, vn, vc, c1, hvs0⟩ := hat k hlk
       have HB3w := Lib.hid (HB2w.out.trans (HB3.out.mono HB2w.out.size))
       have hblt2 : b < wb.heap.size := Nat.lt_of_lt_of_le hblt HB2w.out.size
       have hcn := (HB3.out.cell (p := ⟨sb, soff + i, none⟩) hsb2).trans hcell
       have c0 := cell_later HB3w.out c0
       have c1 := cell_later HB3w.out c1
       obtain ⟨a, ha⟩ : ∃ x, atD l k = x := ⟨_, rfl⟩
       have hsz := (HS.out _ (at_mem l k hlk)).1
       have HTV := Lib.hid (show allV (l.take (k + 1)) nm = allV (l.take k) nm ++ (if lowS (atD l k).1 = nm then (atD l k).2 else []) by rw [at_take l k hlk]; exact allV_snoc _ _ _)
       have HAL := Lib.hid (allV_small l (k + 1) nm)
       rw [ha] at c0 hsz hvs0 HTV
       have hvl : a.2.length = vn := hvs0.1
       have HVS := Lib.hid (hvs0.2.2.2)
       have HVW := Lib.hid hvs0
       clear ha hat hvs0
       obtain ⟨p, hp⟩ : ∃ x, a.1 = x := ⟨_, rfl⟩
       obtain ⟨vs, hvs⟩ : ∃ x, a.2 = x := ⟨_, rfl⟩
       rw [hp] at c0 hsz HTV
       rw [hvs] at HTV HVS hvl HVW
       clear hp hvs
       obtain ⟨X, hX⟩ : ∃ x, allV (l.take k) nm = x := ⟨_, rfl⟩
       rw [hX] at HH HTV
       clear hX
       obtain ⟨lw, hlw⟩ : ∃ x, lowS p = x := ⟨_, rfl⟩
       rw [hlw] at HTV
       have HLW := Lib.hid hlw
       clear hlw
       have e2 : (k : Int) < (l.length : Int) := by omega
       have hvm : vn ≤ 9223372036854775807 := Nat.le_trans HVW.out.2.1 HVW.out.2.2.1
       go_wp2_with fail
       obtain ⟨wc, hwc⟩ : ∃ x, x = wr := ⟨_, rfl⟩
       subst hwc
       go_loopw [9] (fun jv wr => ∃ (j : Nat) (hd : Value), j ≤ vs.length ∧ (lw ≠ nm → j = 0) ∧ jv = .int .i64 j ∧ Hid (ABox wr wb.heap.size nm hd) ∧ Hid (wr.ownsRow wb.heap.size 9 1 hd (sortU (X ++ vs.take j)).length (scells (sortU (X ++ vs.take j)))) ∧ Hid (Below wb.heap.size wb wr)) (fun jv _ => vs.length - (intOf jv).toNat)
       case atStart => exact ⟨0, hd, Nat.zero_le _, fun _ => rfl, rfl, HX, by rw [List.take_zero, List.append_nil]; exact HH, HB3⟩
       case round =>
        obtain ⟨j, hd, hj, hj0, rfl, HX, HH, HB4⟩ := hrel
        have HB4w := Lib.hid (HB2w.out.trans (HB4.out.mono HB2w.out.size))
        have c0 := (HB4.out.cell (p := ⟨b, off + k * 2, none⟩) hblt2).trans ((HB3.out.cell (p := ⟨b, off + k * 2, none⟩) hblt2).symm.trans c0)
        have c1 := (HB4.out.cell (p := ⟨b, off + k * 2 + 1, none⟩) hblt2).trans ((HB3.out.cell (p := ⟨b, off + k * 2 + 1, none⟩) hblt2).symm.trans c1)
        have hcn := (HB4.out.cell (p := ⟨sb, soff + i, none⟩) hsb2).trans ((HB3.out.cell (p := ⟨sb, soff + i, none⟩) hsb2).symm.trans hcn)
        have HBd : Hid (Below wr.heap.size wr wr.drew ∧ wr.heap.size ≤ wr.drew.heap.size) := Lib.hid ⟨(Below.refl _ wr).drew, Nat.le_refl _⟩
        have HBe : Hid (Below wb.heap.size wb wr.drew ∧ wb.heap.size ≤ wr.drew.heap.size) := Lib.hid ⟨HB4.out.drew, HB4.out.size⟩
        by_cases hlw : lw = nm
        ·have q1 : (lw.toList == nm.toList) = true := by rw [str_eq]; exact decide_eq_true hlw
         rw [if_pos hlw] at HTV
         by_cases hlj : j < vs.length
         ·have d3 : (j : Int) < (vn : Int) := by omega
          obtain ⟨vb, voff, rfl, hvb, hvc⟩ := HVS.out (by omega)
          have hvb2 : vb < wb.heap.size := Nat.lt_of_lt_of_le hvb HB2w.out.size
          have hcv := cell_later HB4w.out (hvc j hlj)
          clear hvc
          have HIN := Lib.hid (sortU_app (X := X) hlj)
          obtain ⟨y, hy⟩ : ∃ x, partAt vs j = x := ⟨_, rfl⟩
          rw [hy] at hcv HIN
          clear hy
          obtain ⟨hnn, hhn⟩ : ∃ x, (sortU (X ++ vs.take j)).length = x := ⟨_, rfl⟩
          have HHN := HH.out
          rw [hhn] at HHN
          obtain ⟨ho, hcap, rfl, hHS⟩ := strs_own HHN hhn
          clear HHN
          have hle : hnn ≤ 1100000 := by
           have h5 := HAL.out
           have h6 := HV.out
           rw [HTV.out, List.length_append] at h5
           have h7 := sortU_len (X ++ vs.take j)
           rw [hhn, List.length_append, List.length_take] at h7
           omega
          have HHS := Lib.hid hHS
          clear hHS
          go_wp2_with fail
          go_region_held3 (fun W => W.cell? ⟨b, off + k * 2, none⟩ = some (.string p) ∧ W.cell? ⟨b, off + k * 2 + 1, none⟩ = some (.slice (some ⟨vb, voff, none⟩) vn vc) ∧ W.cell? ⟨sb, soff + i, none⟩ = some (.string nm) ∧ Hid (Below wb.heap.size wb W ∧ wb.heap.size ≤ W.heap.size))
           (first | exact ⟨c0, c1, hcn, HBe⟩ | exact keep3b (by assumption) hb | go_keep)
           ((go_at_call 34; with_reducible refine (rLower_s p _ (by omega)).mono ?_; rintro e w5 ⟨rfl, hb⟩; rw [HLW.out]))
          have HB5 : Hid (Below wr.heap.size wr w5) := Lib.hid ((Below.refl wr.heap.size wr).drew.trans hb)
          have HX5 := HX.out.below HB5.out
          have HHd : Hid (StrsAt w5.drew ho hnn hcap (sortU (X ++ vs.take j))) := Lib.hid ((HHS.out.below HB5.out).below (Below.refl _ w5).drew)
          have c15 := (HB5.out.cell (p := ⟨b, off + k * 2 + 1, none⟩) (Nat.lt_of_lt_of_le hblt2 HB4.out.size)).trans c1
          have hcv5 := (HB5.out.cell (p := ⟨vb, voff + j, none⟩) (Nat.lt_of_lt_of_le hvb2 HB4.out.size)).trans hcv
          have HB5d : Hid (Below wb.heap.size wb w5.drew ∧ wb.heap.size ≤ w5.drew.heap.size) := Lib.hid ⟨(HB4.out.trans (HB5.out.mono HB4.out.size)).drew, Nat.le_trans HB4.out.size HB5.out.size⟩
          have cxd : w5.drew.cell? ⟨wb.heap.size, 1, none⟩ = some (.slice ho hnn hcap) := HX5.cells.2
          have hXlt : wb.heap.size < w5.heap.size := HX5.lt
          go_wp2_with fail
          refine wp_region_held_drew (S := fun W => W.cell? ⟨b, off + k * 2 + 1, none⟩ = some (.slice (some ⟨vb, voff, none⟩) vn vc) ∧ W.cell? ⟨vb, voff + j, none⟩ = some (.string y) ∧ Hid (Below wb.heap.size wb W ∧ wb.heap.size ≤ W.heap.size)) (by kernel_rfl) (⟨c15, hcv5, HB5d⟩) (fun hS => ?_)
          refine rgT 0 (some 71) ?_
          refine rgT 2 (some 73) ?_
          refine rgT 3 (some 74) ?_
          refine rgT 4 (some 75) ?_
          refine rgT 5 (some 76) ?_
          refine rgT 6 (some 77) ?_
          refine rgT 7 (some 78) ?_
          refine rgT 8 (some 79) ?_
          refine rgT 9 (some 80) ?_
          refine rgC 1 (fun K hK => ?_)
          go_simp
          refine hK.out _ _ ?_ (fun hHeld => ?_)
          ·exact hS
          clear hK K
          try simp only [Act.put, lsA, lsZ, lsS]
          refine rgC 10 (fun K hK => ?_)
          go_simp
          refine (insert_s ho hnn hcap _ y _ HHd.out (by omega) (sortU_asc _)).mono ?_
          rintro e w6 ⟨v6, rfl, hown6, hb2⟩
          obtain ⟨o6, p6, rfl, hs6⟩ := strs_own hown6 rfl
          clear hs6
          have HX6 : ABox w6 wb.heap.size nm (.slice ho hnn hcap) := (HX5.below (Below.refl _ w5).drew).below hb2
          have cx6 := HX6.cells.2
          have fx6 := abox_frozen HX6 1
          go_wp2_with fail
          refine hK.out _ _ ?_ (fun hHeld => ?_)
          ·exact keep2b (by assumption) hb2
          clear hK K
          try simp only [Act.put, lsA, lsZ, lsS]
          refine rgT 11 (some 82) ?_
          refine rgC 12 (fun K hK => ?_)
          go_simp
          refine hK.out _ _ ?_ (fun hHeld => ?_)
          ·exact keep2s (by assumption) hblt2 hvb2 (Nat.le_refl _)
          clear hK K
          try simp only [Act.put, lsA, lsZ, lsS]
          refine wpAnyH_done (by kernel_rfl) ?_ _
          have HS7 : Hid (Below wb.heap.size wb (w6.setCell ⟨wb.heap.size, 1, none⟩ (Value.slice o6 (insS (sortU (X ++ List.take j vs)) y).length p6))) := Lib.hid ((And.right (And.right (by assumption : (w6.setCell ⟨wb.heap.size, 1, none⟩ (Value.slice o6 (insS (sortU (X ++ List.take j vs)) y).length p6)).cell? ⟨b, off + k * 2 + 1, none⟩ = some (.slice (some ⟨vb, voff, none⟩) vn vc) ∧ (w6.setCell ⟨wb.heap.size, 1, none⟩ (Value.slice o6 (insS (sortU (X ++ List.take j vs)) y).length p6)).cell? ⟨vb, voff + j, none⟩ = some (.string y) ∧ Hid (Below wb.heap.size wb (w6.setCell ⟨wb.heap.size, 1, none⟩ (Value.slice o6 (insS (sortU (X ++ List.take j vs)) y).length p6)) ∧ wb.heap.size ≤ (w6.setCell ⟨wb.heap.size, 1, none⟩ (Value.slice o6 (insS (sortU (X ++ List.take j vs)) y).length p6)).heap.size)))).out.1)
          have HX7 := Lib.hid (abox_set (u := (Value.slice o6 (insS (sortU (X ++ List.take j vs)) y).length p6)) HX6)
          have HH7 := Lib.hid (own_set (b := wb.heap.size) (i := 1) (u := (Value.slice o6 (insS (sortU (X ++ List.take j vs)) y).length p6)) hown6 hXlt)
          clear cx6 fx6 HX6
          go_wp2_with fail
          go_roundw
          case rel => exact ⟨j + 1, (Value.slice o6 (insS (sortU (X ++ List.take j vs)) y).length p6), by omega, fun e => absurd hlw e, by go_num, HX7, by rw [HIN.out]; exact Lib.hid (HH7.out.mono (Nat.le_of_lt hXlt)), HS7⟩
          case measure => simp [intOf]; omega
         ·have d3 : decide ((j : Int) < (vn : Int)) = false := decide_eq_false (by omega)
          have HE : Hid (sortU (X ++ vs.take j) = sortU (allV (l.take (k + 1)) nm)) := Lib.hid (by rw [HTV.out, List.take_of_length_le (by omega)])
          go_wp2_with fail
          go_region_held3 (fun W => W.cell? ⟨b, off + k * 2, none⟩ = some (.string p) ∧ W.cell? ⟨b, off + k * 2 + 1, none⟩ = some (.slice vo vn vc) ∧ W.cell? ⟨sb, soff + i, none⟩ = some (.string nm) ∧ Hid (Below wb.heap.size wb W ∧ wb.heap.size ≤ W.heap.size))
           (first | exact ⟨c0, c1, hcn, HBe⟩ | exact keep3b (by assumption) hb | go_keep)
           ((go_at_call 34; with_reducible refine (rLower_s p _ (by omega)).mono ?_; rintro e w5 ⟨rfl, hb⟩; rw [HLW.out]))
          have HB5 : Hid (Below wr.heap.size wr w5) := Lib.hid ((Below.refl wr.heap.size wr).drew.trans hb)
          have HX5 := Lib.hid (HX.out.below HB5.out)
          have HH5 := Lib.hid (own_below HH.out HB5.out)
          rw [HE.out] at HH5
          have HB6 := Lib.hid (HB4.out.trans (HB5.out.mono HB4.out.size))
          go_wp2_with fail
          go_roundw
          case rel => exact ⟨k + 1, hd, by omega, by go_num, HX5, HH5, HB6⟩
          case measure => simp [intOf]; omega
        ·have q1 : (lw.toList == nm.toList) = false := by rw [str_eq]; exact decide_eq_false hlw
         rw [if_neg hlw, List.append_nil] at HTV
         obtain rfl : j = 0 := hj0 hlw
         rw [List.take_zero, List.append_nil] at HH
         go_wp2_with fail
         refine wp_region_held_drew (S := fun W => W.cell? ⟨b, off + k * 2, none⟩ = some (.string p) ∧ W.cell? ⟨sb, soff + i, none⟩ = some (.string nm) ∧ Hid (Below wb.heap.size wb W ∧ wb.heap.size ≤ W.heap.size)) (by kernel_rfl) (⟨c0, hcn, HBe⟩) (fun hS => ?_)
         refine rgT 0 (some 48) ?_
         refine rgT 1 (some 49) ?_
         refine rgT 2 (some 50) ?_
         refine rgT 3 (some 51) ?_
         refine rgT 4 (some 52) ?_
         refine rgT 6 (some 54) ?_
         refine rgT 7 (some 55) ?_
         refine rgT 8 (some 56) ?_
         refine rgT 9 (some 57) ?_
         refine rgC 5 (fun K hK => ?_)
         go_simp
         refine (rLower_s p _ (by omega)).mono ?_
         rintro e w5 ⟨rfl, hb⟩
         rw [HLW.out]
         go_wp2_with fail
         refine hK.out _ _ ?_ (fun hHeld => ?_)
         ·exact keep2b (by assumption) hb
         clear hK K
         try simp only [Act.put, lsA, lsZ, lsS]
         refine rgT 10 (some 58) ?_
         refine rgT 11 (some 59) ?_
         refine rgS 12 (some 60) ?_
         refine rgS 13 (some 61) ?_
         refine rgS 14 (some 62) ?_
         refine rgS 15 (some 63) ?_
         refine rgS 16 (some 64) ?_
         refine rgS 17 (some 65) ?_
         refine rgS 18 (some 66) ?_
         refine rgS 19 (some 67) ?_
         refine rgT 20 (some 68) ?_
         refine wpAnyH_done (by kernel_rfl) ?_ _
         have HB5 : Hid (Below wr.heap.size wr w5) := Lib.hid ((Below.refl wr.heap.size wr).drew.trans hb)
         have HX5 := Lib.hid (HX.out.below HB5.out)
         have HH5 := Lib.hid (own_below HH.out HB5.out)
         rw [← HTV.out] at HH5
         have HB6 := Lib.hid (HB4.out.trans (HB5.out.mono HB4.out.size))
         go_wp2_with fail
         go_roundw
         case rel => exact ⟨k + 1, hd, by omega, by go_num, HX5, HH5, HB6⟩
         case measure => simp [intOf]; omega
      ·obtain rfl : k = l.length := by omega
       rw [List.take_length] at HH
       have HX2 := HX.out.cells
       obtain ⟨cx0, cx1⟩ := HX2
       have hown5 := own_below hownT (HB3.out)
       have hHv : wr.ownsRow wb.heap.size 9 1 hd (vals l nm).length (scells (vals l nm)) := HH.out
       have hap := own_apart hHv hownT (Nat.le_refl _)
       have HTO5 := Lib.hid ((HTK.out.below HB3.out).snoc (t := (nm, hd, vals l nm)) (hHv.mono HB2.out.size) hap)
       have HHv := Lib.hid (hdr_owns hHv)
       clear hHv hap HTK
       have HB5 := Lib.hid (HB2.out.trans (HB3.out.mono HB2.out.size))
       have hsz5 := HB5.out.size
       have hsz3 := HB3.out.size
       go_wp2_with (at_builtin; go_must (refine app_attrs (wr.alloc (.cells #[.string nm, hd] 41)) (hown5.alloc _) (.tmp 83) (.tmp 85) _ 1 1 [(nm, hd, vals l nm)] ?_ ?_ ?_ ?_ (ts_new1 wr (nm, hd, vals l nm)) ?_ ?_ ?_ ?_; exact rfl; exact rfl; exact rfl; exact rfl; exact (fun t ht => by rw [List.mem_singleton.1 ht]; exact HHv.out.below ((Below.refl _ wr).alloc (Nat.le_refl _) _)); omega; (simp; omega); intro v7 w7 hown7 hg7 hl7))
       have HT7 := Lib.hid (HMT.out hd)
       have HTO7 := Lib.hid ((HTO5.out.below ((Below.refl _ wr).alloc (Nat.le_refl _) _)).grown hg7 hl7)
       have hb7 : Below wa.heap.size wa w7 := (HB5.out.alloc hsz5 _).grown hg7 (by simp; omega) (fun q hq => (hown5.lt q hq).1)
       go_roundw
       case rel => exact ⟨i + 1, T ++ [(nm, hd, vals l nm)], by omega, by go_num, by simp [hTl], HT7, HTO7, by rw [List.length_append, tcells_append]; exact hown7, Lib.hid hb7⟩
       case measure => simp [intOf]; omega
    ·obtain rfl : i = ns.length := by omega
     have HE := Lib.hid (show tats T = nf l by rw [HTT.out, List.take_length, HNF.out])
     go_wp2_with fail
     go_ret
     exact ⟨_, T, rfl, HE.out, HTK.out.mono HB.out.size, hownT.mono HB.out.size, HB.out.trans (HB2.out.mono HB.out.size)⟩
theorem keep4b {w w1 w2 : World} {f : Nat} {A B C D : Addr} {x y z u : Value} (h : w1.cell? A = some x ∧ w1.cell? B = some y ∧ w1.cell? C = some z ∧ w1.cell? D = some u ∧ Hid (Below f w w1 ∧ f ≤ w1.heap.size)) (hb : Below w1.heap.size w1 w2) : w2.cell? A = some x ∧ w2.cell? B = some y ∧ w2.cell? C = some z ∧ w2.cell? D = some u ∧ Hid (Below f w w2 ∧ f ≤ w2.heap.size) :=
 ⟨cell_later hb h.1, cell_later hb h.2.1, cell_later hb h.2.2.1, cell_later hb h.2.2.2.1, Lib.hid ⟨h.2.2.2.2.out.1.trans (hb.mono h.2.2.2.2.out.2), Nat.le_trans h.2.2.2.2.out.2 hb.size⟩⟩
theorem ats_ext {l k : List At} (h : l.length = k.length) (hj : ∀ j, j < l.length → atD l j = atD k j) : l = k := by
 apply List.ext_getElem h
 intro i h1 h2
 have := hj i h1
 rwa [at_get l i h1, at_get k i h2] at this
def AttsR (w : World) (v : Value) (l : List At) : Prop := ∃ ao n cap, v = .slice ao n cap ∧ AttrsAt w ao n cap l
theorem AttsR.below {w w' : World} {v : Value} {l : List At} (h : AttsR w v l) (hb : Below w.heap.size w w') : AttsR w' v l := by
 obtain ⟨ao, n, cap, e, hs⟩ := h
 exact ⟨ao, n, cap, e, hs.below hb⟩
theorem atts_nil (w : World) : AttsR w (.slice none 0 0) [] := ⟨none, 0, 0, rfl, rfl, Nat.le_refl _, by unfold maxLen; omega, fun h => absurd h (Nat.lt_irrefl _)⟩
theorem atts_own {w : World} {base n : Nat} {v : Value} {T : List Tr} (h : w.ownsRow base 41 2 v n (tcells T)) (hT : TOk w T) : AttsR w v (tats T) := by
 obtain ⟨_, ao, cap, rfl, hat, _⟩ := ts_owns h
 exact ⟨ao, n, cap, rfl, ts_ats hat hT⟩
theorem nf_at {l : List At} {i : Nat} (h : i < (nf l).length) : (atD (nf l) i).2 = vals l (atD (nf l) i).1 := (nf_mem.1 (at_mem _ i h)).1
theorem nf_none {l : List At} {n : ByteArray} (h : ∀ j, j < (nf l).length → (atD (nf l) j).1 ≠ n) : vals l n = [] := by
 refine Classical.not_not.1 fun e => ?_
 have := nf_mem.2 ⟨(rfl : ((n, vals l n) : At).2 = vals l (n, vals l n).1), e⟩
 obtain ⟨j, hj, e2⟩ := List.getElem_of_mem this
 refine h j hj ?_
 rw [at_get _ j hj, e2]
set_option maxRecDepth 100000 in
set_option maxHeartbeats 4000000 in
theorem rsame_s (ao bo : Option Addr) (n m cap dap : Nat) (l k : List At) (w : World) (h : AttrsAt w ao n cap l) (h' : AttrsAt w bo m dap k) :
  Calls Tryz.prog 35 #[.slice ao n cap, .slice bo m dap] w fun e w' => e = .returned (.bool (decide (l = k))) ∧ Below w.heap.size w w' := by
 obtain ⟨h1, h2, h3, h4⟩ := h
 obtain ⟨k1, k2, k3, k4⟩ := h'
 subst h1
 subst k1
 unfold maxLen at h3 k3
 have H4 := Lib.hid h4; clear h4
 have K4 := Lib.hid k4; clear k4
 by_cases hne : l.length = k.length
 ·have hn1 : ((l.length : Int) != (k.length : Int)) = false := by simp; omega
  have HNE := Lib.hid hne
  clear hne
  go_enter Tryz.func35, Tryz.ntmps35
  go_wp2
  go_loopw [5] (fun i wr => ∃ q : Nat, q ≤ l.length ∧ i = .int .i64 q ∧ Hid (∀ j, j < q → atD l j = atD k j) ∧ Hid (Below w.heap.size w wr)) (fun i _ => l.length - (intOf i).toNat)
  case atStart => exact ⟨0, Nat.zero_le _, rfl, Lib.hid (fun j hj => absurd hj (Nat.not_lt_zero _)), Lib.hid (Below.refl _ _)⟩
  case round =>
   obtain ⟨q, hq, rfl, HA, HB⟩ := hrel
   by_cases hlt : q < l.length
   ·obtain ⟨b, off, rfl, hblt, hat⟩ := H4.out (by omega)
    obtain ⟨c, off2, rfl, hclt, hct⟩ := K4.out (by have := HNE.out; omega)
    obtain ⟨a0, vo, vn, vc, a1, hv0⟩ := hat q hlt
    obtain ⟨b0, uo, un, uc, b1, hu0⟩ := hct q (by have := HNE.out; omega)
    have a0 := cell_later HB.out a0
    have a1 := cell_later HB.out a1
    have b0 := cell_later HB.out b0
    have b1 := cell_later HB.out b1
    have HVd : Hid (StrsAt wr.drew vo vn vc (atD l q).2) := Lib.hid ((hv0.below HB.out).below (Below.refl _ wr).drew)
    have HUd : Hid (StrsAt wr.drew uo un uc (atD k q).2) := Lib.hid ((hu0.below HB.out).below (Below.refl _ wr).drew)
    clear hv0 hu0 hat hct
    obtain ⟨x, hx⟩ : ∃ x, atD l q = x := ⟨_, rfl⟩
    obtain ⟨y, hy⟩ : ∃ x, atD k q = x := ⟨_, rfl⟩
    rw [hx] at a0 HVd
    rw [hy] at b0 HUd
    have HX := Lib.hid hx
    have HY := Lib.hid hy
    clear hx hy
    obtain ⟨p, vs⟩ := x
    obtain ⟨r, us⟩ := y
    simp only [] at a0 b0 HVd HUd
    have d0 : (0 : Int) ≤ (q : Int) := by omega
    have d1 : (q : Int) < (l.length : Int) := by omega
    have d2 : (q : Int) < (k.length : Int) := by have := HNE.out; omega
    have HBd : Hid (Below w.heap.size w wr.drew ∧ w.heap.size ≤ wr.drew.heap.size) := Lib.hid ⟨HB.out.drew, HB.out.size⟩
    by_cases hpr : p = r
    ·have q1 : (p.toList == r.toList) = true := by rw [str_eq]; exact decide_eq_true hpr
     have q2 : (p.toList != r.toList) = false := by unfold bne; rw [q1]; rfl
     obtain ⟨z, hz⟩ : ∃ z, decide (vs = us) = z := ⟨_, rfl⟩
     have HZ := Lib.hid hz
     clear hz
     cases z with
     | true =>
      have HE := Lib.hid (show atD l q = atD k q by rw [HX.out, HY.out, hpr, of_decide_eq_true HZ.out])
      clear hpr
      go_wp2_with fail
      refine wp_region_held_drew (S := fun W => W.cell? ⟨b, off + q * 2, none⟩ = some (.string p) ∧ W.cell? ⟨c, off2 + q * 2, none⟩ = some (.string r) ∧ W.cell? ⟨b, off + q * 2 + 1, none⟩ = some (.slice vo vn vc) ∧ W.cell? ⟨c, off2 + q * 2 + 1, none⟩ = some (.slice uo un uc) ∧ Hid (Below w.heap.size w W ∧ w.heap.size ≤ W.heap.size)) (by kernel_rfl) (⟨a0, b0, a1, b1, HBd⟩) (fun hS => ?_)
      refine rgT 0 (some 17) ?_
      refine rgT 1 (some 18) ?_
      refine rgT 2 (some 19) ?_
      refine rgT 3 (some 20) ?_
      refine rgT 4 (some 21) ?_
      refine rgT 5 (some 22) ?_
      refine rgT 6 (some 23) ?_
      refine rgT 7 (some 24) ?_
      refine rgT 8 (some 25) ?_
      refine rgT 9 (some 26) ?_
      refine rgT 10 (some 27) ?_
      refine rgT 11 (some 28) ?_
      refine rgT 12 (some 29) ?_
      refine rgT 13 (some 30) ?_
      refine rgT 14 (some 31) ?_
      refine rgT 15 (some 32) ?_
      refine rgT 16 (some 33) ?_
      refine rgT 17 (some 34) ?_
      refine rgT 18 (some 35) ?_
      refine rgT 19 (some 36) ?_
      refine rgT 20 (some 37) ?_
      refine rgT 21 (some 38) ?_
      refine rgC 22 (fun K hK => ?_)
      go_simp
      refine (same_s vo uo vn un vc uc vs us _ HVd.out HUd.out).mono ?_
      rintro e w5 ⟨rfl, hb⟩
      rw [HZ.out]
      go_wp2_with fail
      refine hK.out _ _ ?_ (fun hHeld => ?_)
      ·exact keep4b (by assumption) hb
      clear hK K
      try simp only [Act.put, lsA, lsZ, lsS]
      refine rgT 23 (some 40) ?_
      refine rgT 24 (some 41) ?_
      refine wpAnyH_done (by kernel_rfl) ?_ _
      have HB6 := Lib.hid (HBd.out.1.trans (hb.mono HBd.out.2))
      go_wp2_with fail
      go_roundw
      case rel =>
       refine ⟨q + 1, by omega, by go_num, Lib.hid fun j hj => ?_, HB6⟩
       by_cases e : j = q
       ·rw [e]; exact HE.out
       ·exact HA.out j (by omega)
      case measure => simp [intOf]; omega
     | false =>
      have HE := Lib.hid (show decide (l = k) = false from decide_eq_false fun e => of_decide_eq_false HZ.out (by have h5 := HX.out; rw [e, HY.out] at h5; exact (congrArg Prod.snd h5).symm))
      clear hpr
      go_wp2_with fail
      refine wp_region_held_drew (S := fun W => W.cell? ⟨b, off + q * 2, none⟩ = some (.string p) ∧ W.cell? ⟨c, off2 + q * 2, none⟩ = some (.string r) ∧ W.cell? ⟨b, off + q * 2 + 1, none⟩ = some (.slice vo vn vc) ∧ W.cell? ⟨c, off2 + q * 2 + 1, none⟩ = some (.slice uo un uc) ∧ Hid (Below w.heap.size w W ∧ w.heap.size ≤ W.heap.size)) (by kernel_rfl) (⟨a0, b0, a1, b1, HBd⟩) (fun hS => ?_)
      refine rgT 0 (some 17) ?_
      refine rgT 1 (some 18) ?_
      refine rgT 2 (some 19) ?_
      refine rgT 3 (some 20) ?_
      refine rgT 4 (some 21) ?_
      refine rgT 5 (some 22) ?_
      refine rgT 6 (some 23) ?_
      refine rgT 7 (some 24) ?_
      refine rgT 8 (some 25) ?_
      refine rgT 9 (some 26) ?_
      refine rgT 10 (some 27) ?_
      refine rgT 11 (some 28) ?_
      refine rgT 12 (some 29) ?_
      refine rgT 13 (some 30) ?_
      refine rgT 14 (some 31) ?_
      refine rgT 15 (some 32) ?_
      refine rgT 16 (some 33) ?_
      refine rgT 17 (some 34) ?_
      refine rgT 18 (some 35) ?_
      refine rgT 19 (some 36) ?_
      refine rgT 20 (some 37) ?_
      refine rgT 21 (some 38) ?_
      refine rgC 22 (fun K hK => ?_)
      go_simp
      refine (same_s vo uo vn un vc uc vs us _ HVd.out HUd.out).mono ?_
      rintro e w5 ⟨rfl, hb⟩
      rw [HZ.out]
      go_wp2_with fail
      refine hK.out _ _ ?_ (fun hHeld => ?_)
      ·exact keep4b (by assumption) hb
      clear hK K
      try simp only [Act.put, lsA, lsZ, lsS]
      refine rgT 23 (some 40) ?_
      refine rgT 24 (some 41) ?_
      refine wpAnyH_done (by kernel_rfl) ?_ _
      have HB6 := Lib.hid (HBd.out.1.trans (hb.mono HBd.out.2))
      go_wp2_with fail
      go_ret
      exact ⟨by rw [HE.out]; rfl, HB6.out⟩
    ·have q1 : (p.toList == r.toList) = false := by rw [str_eq]; exact decide_eq_false hpr
     have q2 : (p.toList != r.toList) = true := by unfold bne; rw [q1]; rfl
     have HE := Lib.hid (show decide (l = k) = false from decide_eq_false fun e => hpr (by have h5 := HX.out; rw [e, HY.out] at h5; exact (congrArg Prod.fst h5).symm))
     clear hpr
     go_wp2_with fail
     refine wp_region_held_drew (S := fun W => W.cell? ⟨b, off + q * 2, none⟩ = some (.string p) ∧ W.cell? ⟨c, off2 + q * 2, none⟩ = some (.string r) ∧ Hid (Below w.heap.size w W ∧ w.heap.size ≤ W.heap.size)) (by kernel_rfl) (⟨a0, b0, HBd⟩) (fun hS => ?_)
     refine rgT 0 (some 17) ?_
     refine rgT 1 (some 18) ?_
     refine rgT 2 (some 19) ?_
     refine rgT 3 (some 20) ?_
     refine rgT 4 (some 21) ?_
     refine rgT 5 (some 22) ?_
     refine rgT 6 (some 23) ?_
     refine rgT 7 (some 24) ?_
     refine rgT 8 (some 25) ?_
     refine rgT 9 (some 26) ?_
     refine rgT 10 (some 27) ?_
     refine rgT 11 (some 28) ?_
     refine rgS 12 (some 29) ?_
     refine rgS 13 (some 30) ?_
     refine rgS 14 (some 31) ?_
     refine rgS 15 (some 32) ?_
     refine rgS 16 (some 33) ?_
     refine rgS 17 (some 34) ?_
     refine rgS 18 (some 35) ?_
     refine rgS 19 (some 36) ?_
     refine rgS 20 (some 37) ?_
     refine rgS 21 (some 38) ?_
     refine rgS 22 (some 39) ?_
     refine rgS 23 (some 40) ?_
     refine rgT 24 (some 41) ?_
     refine wpAnyH_done (by kernel_rfl) ?_ _
     go_wp2_with fail
     go_ret
     exact ⟨by rw [HE.out]; rfl, HBd.out.1⟩
   ·have HE := Lib.hid (show decide (l = k) = true from decide_eq_true (ats_ext HNE.out fun j hj => HA.out j (by omega)))
    go_wp2_with fail
    go_ret
    exact ⟨by rw [HE.out]; rfl, HB.out⟩
 ·have HE := Lib.hid (show decide (l = k) = false from decide_eq_false fun e => hne (by rw [e]))
  have hn1 : ((l.length : Int) != (k.length : Int)) = true := by simp; omega
  go_enter Tryz.func35, Tryz.ntmps35
  go_wp2
  go_ret
  exact ⟨by rw [HE.out]; rfl, Below.refl _ _⟩
structure Few (l : List At) : Prop where
 small : SmallA l
 vals : sumV l ≤ 1100000
 len : l.length ≤ 3000
set_option maxRecDepth 100000 in
set_option maxHeartbeats 4000000 in
theorem rget_s (ao : Option Addr) (n cap : Nat) (l : List At) (name : ByteArray) (w : World) (h : AttrsAt w ao n cap l) (hF : Few l) (hns : name.size ≤ 1100000) :
  Calls Tryz.prog 10 #[.slice ao n cap, .string name] w fun e w' => ∃ v, e = .returned v ∧ Hdr w' v (vals l (lowS name)) ∧ Below w.heap.size w w' := by
 have HR := Lib.hid (rsorted_s ao n cap l w h hF.small hF.vals (by rw [← h.1]; exact hF.len))
 have hlen := Nat.le_trans (nf_len l) hF.len
 go_enter Tryz.func10, Tryz.ntmps10
 go_wp2_with fail
 refine HR.out.mono ?_
 rintro e w1 ⟨v, T, rfl, hT, hTO, hown, hb⟩
 obtain ⟨_, xo, xc, rfl, hat, _⟩ := ts_owns hown
 have HTA := Lib.hid hat
 have HTO := Lib.hid hTO.ok
 have HB := Lib.hid hb
 have HT := Lib.hid hT
 have hTl : T.length ≤ 3000 := by rw [← tats_len, hT]; exact hlen
 have hxc : xc ≤ 9223372036854775807 := hat.2.2.1
 clear HR h hF hat hTO hb hown hT hlen
 obtain ⟨lw, hlw⟩ : ∃ x, lowS name = x := ⟨_, rfl⟩
 have HLW := Lib.hid hlw
 clear hlw
 have HV : ∀ j, j < T.length → Hid ((trD T j).2.2 = vals l (trD T j).1) := fun j hj => Lib.hid (by
  have h5 := nf_at (l := l) (i := j) (by rw [← HT.out, tats_len]; exact hj)
  rw [← HT.out, atD_tats] at h5
  exact h5)
 go_wp2_with fail
 go_loopw [6] (fun i wr => ∃ q : Nat, q ≤ T.length ∧ i = .int .i64 q ∧ Hid (∀ j, j < q → (trD T j).1 ≠ lw) ∧ Hid (Below w1.heap.size w1 wr)) (fun i _ => T.length - (intOf i).toNat)
 case atStart => exact ⟨0, Nat.zero_le _, rfl, Lib.hid (fun j hj => absurd hj (Nat.not_lt_zero _)), Lib.hid (Below.refl _ _)⟩
 case round =>
  obtain ⟨q, hq, rfl, HA, HB2⟩ := hrel
  by_cases hlt : q < T.length
  ·obtain ⟨b, off, rfl, hblt, _⟩ := HTA.out.2.2.2 (by omega)
   obtain ⟨a0, a1⟩ := ts_at HTA.out q hlt
   have a0 := cell_later HB2.out a0
   have a1 := cell_later HB2.out a1
   have HHd := Lib.hid (HTO.out _ (tr_mem T q hlt))
   have HVq := HV q hlt
   have HNE := Lib.hid (fun (e : (trD T q).1 ≠ lw) j (hj : j < q + 1) => if h : j = q then by rw [h]; exact e else HA.out j (by omega))
   obtain ⟨x, hx⟩ : ∃ x, trD T q = x := ⟨_, rfl⟩
   rw [hx] at a0 a1 HHd HVq HNE
   clear hx
   obtain ⟨p, hd, vs⟩ := x
   simp only [] at a0 a1 HHd HVq HNE
   have d1 : (q : Int) < (T.length : Int) := by omega
   have HBd : Hid (Below w1.heap.size w1 wr.drew ∧ w1.heap.size ≤ wr.drew.heap.size) := Lib.hid ⟨HB2.out.drew, HB2.out.size⟩
   by_cases hpl : p = lw
   ·have q1 : (p.toList == lw.toList) = true := by rw [str_eq]; exact decide_eq_true hpl
    go_wp2_with fail
    go_region_held3 (fun W => W.cell? ⟨b, off + q * 2, none⟩ = some (.string p) ∧ W.cell? ⟨b, off + q * 2 + 1, none⟩ = some hd ∧ Hid (Below w1.heap.size w1 W ∧ w1.heap.size ≤ W.heap.size))
     (first | exact ⟨a0, a1, HBd⟩ | exact keep2b (by assumption) hb | go_keep)
     ((go_at_call 34; with_reducible refine (rLower_s name _ (by omega)).mono ?_; rintro e w5 ⟨rfl, hb⟩; rw [HLW.out]))
    have HB6 := Lib.hid (HBd.out.1.trans (hb.mono HBd.out.2))
    have a15 := cell_later (hb.mono (Nat.le_refl _)) (show wr.drew.cell? ⟨b, off + q * 2 + 1, none⟩ = some hd from a1)
    go_wp2_with fail
    go_ret
    refine ⟨hd, rfl, ?_, HB.out.trans (HB6.out.mono HB.out.size)⟩
    rw [HLW.out, ← hpl, ← HVq.out]
    exact HHd.out.below HB6.out
   ·have q1 : (p.toList == lw.toList) = false := by rw [str_eq]; exact decide_eq_false hpl
    have HN2 := Lib.hid (HNE.out hpl)
    clear hpl
    go_wp2_with fail
    go_region_held3 (fun W => W.cell? ⟨b, off + q * 2, none⟩ = some (.string p) ∧ W.cell? ⟨b, off + q * 2 + 1, none⟩ = some hd ∧ Hid (Below w1.heap.size w1 W ∧ w1.heap.size ≤ W.heap.size))
     (first | exact ⟨a0, a1, HBd⟩ | exact keep2b (by assumption) hb | go_keep)
     ((go_at_call 34; with_reducible refine (rLower_s name _ (by omega)).mono ?_; rintro e w5 ⟨rfl, hb⟩; rw [HLW.out]))
    have HB6 := Lib.hid (HBd.out.1.trans (hb.mono HBd.out.2))
    go_wp2_with fail
    go_roundw
    case rel => exact ⟨q + 1, by omega, by go_num, HN2, HB6⟩
    case measure => simp [intOf]; omega
  ·obtain rfl : q = T.length := by omega
   have HE := Lib.hid (show vals l lw = [] from nf_none fun j hj => by
    rw [← HT.out, tats_len] at hj
    rw [← HT.out, atD_tats]
    exact HA.out j hj)
   go_wp2_with fail
   go_ret
   exact ⟨_, rfl, by rw [HLW.out, HE.out]; exact hdr_nil _, HB.out.trans (HB2.out.mono HB.out.size)⟩
theorem requal_s (ao bo : Option Addr) (n m cap dap : Nat) (l k : List At) (w : World) (h : AttrsAt w ao n cap l) (h' : AttrsAt w bo m dap k) (hF : Few l) (hG : Few k) :
  Calls Tryz.prog 11 #[.slice ao n cap, .slice bo m dap] w fun e w' => e = .returned (.bool (decide (nf l = nf k))) ∧ Below w.heap.size w w' := by
 have HR := Lib.hid (rsorted_s ao n cap l w h hF.small hF.vals (by rw [← h.1]; exact hF.len))
 have HK := Lib.hid h'
 have hkl : m ≤ 3000 := by rw [← h'.1]; exact hG.len
 clear h h'
 go_enter Tryz.func11, Tryz.ntmps11
 go_wp2_with fail
 refine HR.out.mono ?_
 rintro e w1 ⟨v, T, rfl, hT, hTO, hown, hb⟩
 have HA := Lib.hid (atts_own hown hTO.ok)
 have HB := Lib.hid hb
 have HR2 := Lib.hid (rsorted_s bo m dap k w1 (HK.out.below hb) hG.small hG.vals hkl)
 rw [hT] at HA
 clear hown hTO hT hb HR
 go_wp2_with fail
 refine HR2.out.mono ?_
 rintro e w2 ⟨u, U, rfl, hU, hUO, hown, hb⟩
 have HA2 := Lib.hid (atts_own hown hUO.ok)
 rw [hU] at HA2
 have HB2 := Lib.hid (HB.out.trans (hb.mono HB.out.size))
 obtain ⟨xo, xn, xc, rfl, hx⟩ := HA.out.below hb
 obtain ⟨yo, yn, yc, rfl, hy⟩ := HA2.out
 have HS := Lib.hid (rsame_s xo yo xn yn xc yc _ _ w2 hx hy)
 clear hown hUO hU hb HR2 hx hy HA HA2 HK
 go_wp2_with fail
 refine HS.out.mono ?_
 rintro e w3 ⟨rfl, hb⟩
 go_wp2_with fail
 go_ret
 exact ⟨rfl, HB2.out.trans (hb.mono HB2.out.size)⟩
end Go.Proofs.YtonfkhkalodldabGreatDoor
end
