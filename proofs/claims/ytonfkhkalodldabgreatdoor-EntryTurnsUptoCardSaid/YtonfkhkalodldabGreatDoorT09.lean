/-
  Texts of the schema layer and of those beneath it, joined: AttR4, AttR5, AttR6, AttR7, AttR8, AttP1, AttP2, AttP3, AttP4. Conditions stand at each contract.
-/
import Derived.OwnWalk
import Derived.Test.YtonfkhkalodldabGreatDoorT08
set_option linter.unusedVariables false
set_option linter.unusedSimpArgs false
set_option linter.unnecessarySimpa false

section
set_option maxRecDepth 100000
namespace Go.Proofs.YtonfkhkalodldabGreatDoor
open Go.RowKit Go.PlainAid
theorem names_part {l : List At} {T : List Tr} (hT : tats T = nf l) (q : Nat) (h : q < T.length) : (trD T q).1 = partAt (names l) q := by
 have h1 := nf_names l
 rw [← hT] at h1
 have h2 := atD_tats T q
 unfold partAt
 rw [← h1, List.getD_eq_getElem?_getD, List.getElem?_map, List.getElem?_eq_getElem (by rw [tats_len]; exact h)]
 show _ = ((tats T)[q]'_).1
 rw [← at_get (tats T) q (by rw [tats_len]; exact h), h2]
theorem names_tlen {l : List At} {T : List Tr} (hT : tats T = nf l) : (names l).length = T.length := by
 rw [← nf_names, List.length_map, ← hT, tats_len]
theorem apart_symm {a b : Option Nat} (h : a = none ∨ a ≠ b) : b = none ∨ b ≠ a := by
 cases b with
 | none => exact .inl rfl
 | some g =>
  refine .inr fun e => ?_
  rcases h with h | h
  ·rw [h] at e; cases e
  ·exact h e.symm
def wthL (l : List At) (lw : ByteArray) : List At := (nf l).filter fun a => decide (a.1 ≠ lw)
structure Room (l : List At) (vs : List ByteArray) : Prop where
 small : SmallA l
 vals : sumV l + vs.length ≤ 1100000
 len : l.length ≤ 999
 vsmall : SmallS vs
theorem Room.few {l : List At} {vs : List ByteArray} (h : Room l vs) : Few l := ⟨h.small, by have := h.vals; omega, by have := h.len; omega⟩
def withL (l : List At) (name : ByteArray) (vs : List ByteArray) : List At := nf (wthL l (lowS name) ++ [(name, vs)])
def limR (l : List At) (m : Nat) : List At × Int := if 32 < l.length ∨ 16 < m then ([], 3) else (l, 0)
structure Edit (l : List At) (vs : List ByteArray) : Prop where
 small : SmallA l
 tot : sumV l ≤ 25000
 len : l.length ≤ 900
 vsmall : SmallS vs
 vlen : vs.length ≤ 1050000
theorem Edit.few {l : List At} {vs : List ByteArray} (h : Edit l vs) : Few l := ⟨h.small, by have := h.tot; omega, by have := h.len; omega⟩
theorem Edit.room {l : List At} {vs : List ByteArray} (h : Edit l vs) : Room l vs := ⟨h.small, by have := h.tot; have := h.vlen; omega, by have := h.len; omega, h.vsmall⟩
theorem small_app {a b : List ByteArray} (h : SmallS a) (k : SmallS b) : SmallS (a ++ b) := fun v hv => (List.mem_append.1 hv).elim (h v) (k v)
theorem Edit.more {l : List At} {vs : List ByteArray} (h : Edit l vs) (lw : ByteArray) : Room l (vals l lw ++ vs) :=
 ⟨h.small, by have h1 := h.tot; have h2 := h.vlen; have h3 := vals_len l lw; rw [List.length_append]; omega, by have := h.len; omega, small_app (vals_small h.small lw) h.vsmall⟩
def addR (l : List At) (name : ByteArray) (vs : List ByteArray) : List At × Int :=
 if nameB name = false then ([], 5) else if vs.length = 0 then ([], 6) else if chkV vs (vals l (lowS name)) ≠ 0 then ([], chkV vs (vals l (lowS name))) else limR (withL l name (vals l (lowS name) ++ vs)) (vals l (lowS name) ++ vs).length
def repR (l : List At) (name : ByteArray) (vs : List ByteArray) : List At × Int :=
 if nameB name = false then ([], 5) else if chkV vs [] ≠ 0 then ([], chkV vs []) else limR (withL l name vs) vs.length
theorem strs_nil (w : World) : StrsAt w none 0 0 [] := ⟨rfl, Nat.le_refl _, by unfold maxLen; omega, fun h => absurd h (Nat.lt_irrefl _)⟩
def errR (vs old : List ByteArray) (j : Nat) : Int := if memB old (partAt vs j) = false ∨ memB (vs.take j) (partAt vs j) = true then 6 else 0
def remE (vs old : List ByteArray) : Int := firstE (errR vs old) vs.length
def leftV (old vs : List ByteArray) : List ByteArray := old.filter fun v => decide (0 < vs.length) && !memB vs v
def remR (l : List At) (name : ByteArray) (vs : List ByteArray) : List At × Int :=
 if nameB name = false then ([], 5) else if (vals l (lowS name)).length = 0 then ([], 6) else if remE vs (vals l (lowS name)) ≠ 0 then ([], 6) else (withL l name (leftV (vals l (lowS name)) vs), 0)
theorem left_len (old vs : List ByteArray) : (leftV old vs).length ≤ old.length := List.length_filter_le _ _
end Go.Proofs.YtonfkhkalodldabGreatDoor
end

section
set_option maxRecDepth 100000
namespace Go.Proofs.YtonfkhkalodldabGreatDoor
open Go.RowKit Go.PlainAid Go.Maps Go.ChangeMaps
theorem sumV_mem {a : At} : ∀ {l : List At}, a ∈ l → a.2.length ≤ sumV l
 | x :: l, h => by
  rw [sumV_cons]
  rcases List.mem_cons.1 h with k | k
  ·rw [k]; omega
  ·have := sumV_mem k; omega
structure GMap (w : World) (b n : Nat) (D : DataW Unit) (hv : ByteArray → Value) : Prop where
 map : w.ownsMap Tryz.prog 9 hdrE b n D
 reads : ∀ k, hdrE (H := Unit) (hv k) = some (D.atKey (klit k) .nil, [])
theorem GMap.look {w : World} {b n : Nat} {D : DataW Unit} {hv : ByteArray → Value} (G : GMap w b n D hv) (k : ByteArray) (hk : k.size ≤ maxLen) :
  (Instr.lookup 63 (.map (some b)) (.string k) false).run Tryz.prog w = .ok (hv k) w := by
 obtain ⟨v, ps, hrun, hv'⟩ := G.map.lookup (t := 63) (e := 38) (string_keyed Tryz.underlying9) Tryz.underlying63 (z := .slice none 0 0) (Tryz.zeroValue38 _) hdrE_nil (klit_key k hk)
 rw [hrun, hdrE_one hv' (G.reads k)]
theorem GMap.kept {w w' : World} {b n : Nat} {D : DataW Unit} {hv : ByteArray → Value} {row : Option Nat} (G : GMap w b n D hv) (hg : w.grownBy w' row) (hne : some b ≠ row) : GMap w' b n D hv := ⟨G.map.kept hg hne, G.reads⟩
theorem GMap.below {w w' : World} {b n : Nat} {D : DataW Unit} {hv : ByteArray → Value} (G : GMap w b n D hv) (hb : Below w.heap.size w w') : GMap w' b n D hv :=
 G.kept (row := none) ⟨hb.os, hb.tape, hb.output, hb.size, fun k hk _ => hb.block k hk⟩ (by simp)
structure Done (w : World) (base : Nat) (hv : ByteArray → Value) (K : List ByteArray) (T : List Tr) : Prop where
 own : ∀ t ∈ T, w.ownsRow base 9 1 t.2.1 t.2.2.length (scells t.2.2) ∧ t.2.1.ownBlock = (hv t.1).ownBlock
 keys : ∀ t ∈ T, t.1 ∈ K
def nfK (l : List At) (K : List ByteArray) : List At := (K.filter fun n => !(vals l n).isEmpty).map fun n => (n, vals l n)
theorem nfK_snoc (l : List At) (K : List ByteArray) (n : ByteArray) : nfK l (K ++ [n]) = nfK l K ++ (if vals l n = [] then [] else [(n, vals l n)]) := by
 unfold nfK
 rw [List.filter_append, List.map_append]
 congr 1
 by_cases h : vals l n = []
 ·simp [h]
 ·simp [h]
theorem lowN_names {l : List At} {n : ByteArray} (h : n ∈ names l) : n ∈ lowN l := by
 obtain ⟨v, a, ha, e, _⟩ := names_mem.1 h
 unfold lowN
 exact List.mem_map.2 ⟨a, ha, e⟩
theorem nfK_all (l : List At) : nfK l (sortU (lowN l)) = nf l := by
 unfold nfK nf
 congr 1
 refine asc_ext (List.Pairwise.sublist List.filter_sublist (sortU_asc _)) (names_asc l) fun n => ?_
 rw [List.mem_filter, sortU_mem]
 constructor
 ·rintro ⟨_, h⟩
  exact names_vals.2 (by intro e; rw [e] at h; simp at h)
 ·intro h
  exact ⟨lowN_names h, by have := names_vals.1 h; simpa using this⟩
theorem sortU_lowN_len (l : List At) : (sortU (lowN l)).length ≤ l.length := by
 refine Nat.le_trans (sortU_len _) ?_
 unfold lowN; rw [List.length_map]; exact Nat.le_refl _
def TApart (T : List Tr) : Prop := T.Pairwise fun s t => s.2.1.ownBlock = none ∨ s.2.1.ownBlock ≠ t.2.1.ownBlock
theorem Done.apart {w : World} {base : Nat} {hv : ByteArray → Value} {K : List ByteArray} {T : List Tr} (h : Done w base hv K T) (hT : Asc ((tats T).map (·.1))) (hap : ∀ k k', k ≠ k' → (hv k).ownBlock = none ∨ (hv k).ownBlock ≠ (hv k').ownBlock) : TApart T := by
 unfold TApart
 unfold Asc tats at hT
 rw [List.map_map, List.pairwise_map] at hT
 refine List.Pairwise.imp_of_mem (fun {s t} hs ht k => ?_) hT
 rw [(h.own s hs).2, (h.own t ht).2]
 exact hap _ _ (cs_ne k)
theorem own_strs {w : World} {base n cap : Nat} {ao : Option Addr} {l : List ByteArray} (h : w.ownsRow base 9 1 (.slice ao n cap) n (scells l)) (hn : l.length = n) : StrsAt w ao n cap l := by
 obtain ⟨ao', cap', e, hs⟩ := strs_own h hn
 cases e
 exact hs
theorem part_ne {K : List ByteArray} (h : Asc K) {i j : Nat} (hi : i < K.length) (hj : j < K.length) (hne : i ≠ j) : partAt K i ≠ partAt K j := by
 have e : ∀ q, (hq : q < K.length) → partAt K q = K[q] := fun q hq => by unfold partAt; rw [List.getD_eq_getElem?_getD, List.getElem?_eq_getElem hq]; rfl
 have h' := List.pairwise_iff_getElem.1 h
 rw [e i hi, e j hj]
 rcases Nat.lt_or_gt_of_ne hne with k | k
 ·exact cs_ne (h' i j hi hj k)
 ·exact (cs_ne (h' j i hj hi k)).symm
theorem take_ne {K : List ByteArray} (h : Asc K) {k : Nat} (hk : k < K.length) {x : ByteArray} (hx : x ∈ K.take k) : x ≠ partAt K k := by
 obtain ⟨i, hi, rfl⟩ := List.mem_take_iff_getElem.1 hx
 have : K[i] = partAt K i := by unfold partAt; rw [List.getD_eq_getElem?_getD, List.getElem?_eq_getElem (by omega)]; rfl
 rw [this]
 exact part_ne h (by omega) hk (by omega)
theorem Done.kept {w w' : World} {base : Nat} {hv : ByteArray → Value} {K : List ByteArray} {T : List Tr} {row : Option Nat} (h : Done w base hv K T) (hg : w.grownBy w' row) (hne : ∀ x ∈ K, (hv x).ownBlock = none ∨ (hv x).ownBlock ≠ row) : Done w' base hv K T :=
 ⟨fun t ht => ⟨(h.own t ht).1.kept hg (by rw [(h.own t ht).2]; exact hne _ (h.keys t ht)), (h.own t ht).2⟩, h.keys⟩
theorem Done.below {w w' : World} {base : Nat} {hv : ByteArray → Value} {K : List ByteArray} {T : List Tr} (h : Done w base hv K T) (hb : Below w.heap.size w w') : Done w' base hv K T := ⟨fun t ht => ⟨own_below (h.own t ht).1 hb, (h.own t ht).2⟩, h.keys⟩
theorem Done.more {w : World} {base : Nat} {hv : ByteArray → Value} {K K' : List ByteArray} {T : List Tr} (h : Done w base hv K T) (hk : ∀ x ∈ K, x ∈ K') : Done w base hv K' T := ⟨h.own, fun t ht => hk _ (h.keys t ht)⟩
theorem Done.snoc {w : World} {base : Nat} {hv : ByteArray → Value} {K : List ByteArray} {T : List Tr} (h : Done w base hv K T) {t : Tr} (h1 : w.ownsRow base 9 1 t.2.1 t.2.2.length (scells t.2.2)) (h2 : t.2.1.ownBlock = (hv t.1).ownBlock) (h3 : t.1 ∈ K) : Done w base hv K (T ++ [t]) :=
 ⟨fun u hu => (List.mem_append.1 hu).elim (h.own u) fun k => by rw [List.mem_singleton.1 k]; exact ⟨h1, h2⟩, fun u hu => (List.mem_append.1 hu).elim (h.keys u) fun k => by rw [List.mem_singleton.1 k]; exact h3⟩
theorem not_block {a row : Option Nat} {Bk : Nat} (hx : ∀ g, a = some g → g < Bk) (hv : ∀ g, row = some g → Bk ≤ g) : a = none ∨ a ≠ row := by
 cases a with
 | none => exact .inl rfl
 | some g => exact .inr fun e => by have := hx g rfl; have := hv g e.symm; omega
theorem not_block' {a row : Option Nat} {Bk : Nat} (hx : ∀ g, a = some g → Bk ≤ g) (hv : ∀ g, row = some g → g < Bk) : a = none ∨ a ≠ row := by
 cases a with
 | none => exact .inl rfl
 | some g => exact .inr fun e => by have := hx g rfl; have := hv g e.symm; omega
set_option maxRecDepth 100000 in
set_option maxHeartbeats 8000000 in
theorem sorted_s (ao : Option Addr) (n cap : Nat) (l : List At) (w : World) (h : AttrsAt w ao n cap l) (hF : Few l) :
  Calls Tryz.prog 14 #[.slice ao n cap] w fun e w' => ∃ v T, e = .returned v ∧ tats T = nf l ∧ TOwn w' w.heap.size v T ∧ TApart T ∧ w'.ownsRow w.heap.size 41 2 v T.length (tcells T) ∧ Below w.heap.size w w' := by
 obtain ⟨h1, h2, h3, h4⟩ := h
 subst h1
 unfold maxLen at h3
 have H4 := Lib.hid h4; clear h4
 have HS := Lib.hid hF.small
 have HV := Lib.hid hF.vals
 have hn := hF.len
 clear hF
 have hB0 : Below w.heap.size w (w.alloc (.map #[] 0)) := (Below.refl _ _).alloc (Nat.le_refl _) _
 have U0 := united_made w
 have hmm := @run_makeMap Tryz.prog
 go_enter Tryz.func14, Tryz.ntmps14
 go_wp2
 clear hmm
 go_loopw [5, 6, 14] (fun s5 s6 i wr => ∃ (j : Nat) (D : DataW Unit) (hv : ByteArray → Value), j ≤ l.length ∧ i = .int .i64 j ∧ Hid (United wr w.heap.size j D (l.take j) hv) ∧ Hid (Below w.heap.size w wr)) (fun _ _ i _ => l.length - (intOf i).toNat)
 case atStart => exact ⟨0, _, _, Nat.zero_le _, rfl, Lib.hid U0, Lib.hid hB0⟩
 case round =>
  obtain ⟨j, D, hv, hj, rfl, HU, HB⟩ := hrel
  by_cases hlt : j < l.length
  ·obtain ⟨b, off, rfl, hblt, hat⟩ := H4.out (by omega)
   obtain ⟨c0, vo, vn, vc, c1, hvs0⟩ := hat j hlt
   have c0 := cell_later HB.out c0
   have c1 := cell_later HB.out c1
   obtain ⟨a, ha⟩ : ∃ x, atD l j = x := ⟨_, rfl⟩
   have hsz := HS.out _ (at_mem l j hlt)
   have hfw := Nat.le_trans (sumV_mem (at_mem l j hlt)) HV.out
   have HT := Lib.hid (show l.take (j + 1) = l.take j ++ [a] by rw [at_take l j hlt, ha])
   rw [ha] at c0 hsz hfw hvs0
   clear ha hat
   obtain ⟨nm, hnm⟩ : ∃ x, a.1 = x := ⟨_, rfl⟩
   have hns := hsz.1
   rw [hnm] at c0 hns
   have HVV := Lib.hid hvs0
   have hvl : a.2.length = vn := hvs0.1
   have d1 : (j : Int) < (l.length : Int) := by omega
   have HNM := Lib.hid hnm
   clear hsz hvs0 hnm
   go_wp2_with fail
   obtain ⟨W1, hW1⟩ : ∃ W1, wr.alloc (.cells #[.string nm, .slice vo vn vc] 41) = W1 := ⟨_, rfl⟩
   have hbl1 : Below wr.heap.size wr W1 := by rw [← hW1]; exact (Below.refl _ wr).alloc (Nat.le_refl _) _
   have X1 : ABox W1 wr.heap.size nm (.slice vo vn vc) := by rw [← hW1]; exact abox_new wr nm _
   have HB1 := Lib.hid (HB.out.trans (hbl1.mono HB.out.size))
   have HU1 := Lib.hid (HU.out.below hbl1)
   rw [hW1]
   clear hW1
   refine (lower_s nm W1 (by omega)).mono ?_
   rintro e W2 ⟨rfl, hb⟩
   obtain ⟨b0, b1⟩ := (X1.below hb).cells
   have HB2 := Lib.hid (HB1.out.trans (hb.mono HB1.out.size))
   have HU2 := Lib.hid (HU1.out.below hb)
   have HV2 := Lib.hid (HVV.out.below HB2.out)
   obtain ⟨lw, hlw⟩ : ∃ x, lowS nm = x := ⟨_, rfl⟩
   have hls : lw.size ≤ 1100000 := by rw [← hlw, lowS_size]; omega
   rw [hlw]
   have HLW := Lib.hid (show lowS a.1 = lw by rw [HNM.out, hlw])
   clear hlw hb X1 hbl1 HU1 HB1
   have hlook := HU2.out.grp.look lw (by unfold maxLen; omega)
   have hown := HU2.out.grp.own lw
   have hlen : (allV (l.take j) lw).length ≤ 1100000 := Nat.le_trans (allV_small l j lw) HV.out
   obtain ⟨v0, hv0⟩ : ∃ x, hv lw = x := ⟨_, rfl⟩
   have HW0 := Lib.hid hv0
   rw [hv0] at hlook hown
   clear hv0
   go_wp2_with (at_builtin; go_must (refine push_strs W2 hown (.tmp 25) (.tmp 27) HV2.out ?_ ?_ ?_ ?_ ?_ ?_ ?_; exact rfl; exact rfl; exact rfl; exact rfl; omega; (have := HB2.out.size; have := HU2.out.grp.map.lt; omega); intro v3 W3 hown3 hg3 hl3; have HB3 := Lib.hid (HB2.out.grown hg3 HB2.out.size (fun q hq => by have := (hown.lt q hq).1; omega)); obtain ⟨W4, D4, hv4, hrun4, hU4, hg4⟩ := HU2.out.store a HLW.out (by unfold maxLen; omega) (by unfold maxLen; omega) (by rw [HW0.out]; exact hg3) (by rw [hvl]; exact hown3) (by rw [HW0.out]; exact hl3); have HU4 := Lib.hid hU4; have HB4 := Lib.hid (HB3.out.grown hg4 HB3.out.size (fun q hq => by cases hq; exact Nat.le_refl _)); clear hU4 hg4))
   go_roundw
   case rel => exact ⟨j + 1, D4, hv4, by omega, by go_num, by rw [HT.out]; exact HU4, HB4⟩
   case measure => simp [intOf]; omega
  ·obtain rfl : l.length = j := by omega
   rw [List.take_length] at HU
   have HKS := Lib.hid (keys_s (some w.heap.size) wr)
   have HSK := Lib.hid (sorted_keys w.heap.size l.length D hdrE wr HU.out.grp.map (Nat.le_trans HU.out.grp.map.size_le (by omega)))
   have HKE := Lib.hid (fun (ss : List (List UInt8)) hp => keys_sorted (ks := lowN l) (ss := ss) HU.out.grp.map HU.out.keys hp)
   obtain ⟨wa, hwa⟩ : ∃ x, x = wr := ⟨_, rfl⟩
   subst hwa
   obtain ⟨K, hK⟩ : ∃ x, sortU (lowN l) = x := ⟨_, rfl⟩
   have hKl : K.length ≤ 3000 := by rw [← hK]; have := sortU_lowN_len l; omega
   have HKA := Lib.hid (show Asc K by rw [← hK]; exact sortU_asc _)
   have HKM := Lib.hid (fun x (hx : x ∈ K) => (show x.size ≤ 1100000 by
    rw [← hK, sortU_mem] at hx
    unfold lowN at hx
    obtain ⟨a, ha, rfl⟩ := List.mem_map.1 hx
    exact lowS_small (HS.out a ha).1))
   have HNK := Lib.hid (show nfK l K = nf l by rw [← hK]; exact nfK_all l)
   rw [hK] at HKE
   clear hK
   go_wp2_with fail
   refine HKS.out.mono ?_
   rintro e w1 ⟨rfl, rfl⟩
   go_wp2_with fail
   refine HSK.out.mono ?_
   rintro e w2 ⟨kv, ss, rfl, hp, hkown, hb⟩
   have hke := HKE.out ss hp
   have hsl : ss.length = K.length := by rw [← hke, List.length_map]; exact (List.mergeSort_perm ss _).length_eq.symm
   rw [hke, hsl] at hkown
   have HB2a : Hid (Below (wa.heap.size + 1) (wa.alloc (.cells #[.map (some w.heap.size)] 63)) w2) := Lib.hid hb
   have HB2b := Lib.hid (((Below.refl wa.heap.size wa).alloc (Nat.le_refl _) (.cells #[.map (some w.heap.size)] 63)).trans (hb.mono (Nat.le_succ _)))
   clear hke hp hb HSK HKS HKE
   obtain ⟨ko, kcap, rfl, hks⟩ := strs_own hkown rfl
   have hkc : kcap ≤ 9223372036854775807 := hks.2.2.1
   clear hks
   have hbs : wa.heap.size ≤ w2.heap.size := HB2b.out.size
   have HLT := Lib.hid (fun x g (e : (hv x).ownBlock = some g) => ((HU.out.grp.own x).lt g e).2)
   have HAP := Lib.hid HU.out.grp.apart
   have HG0 : Hid (GMap w2 w.heap.size l.length D hv) := Lib.hid (GMap.below ⟨HU.out.grp.map, HU.out.grp.reads⟩ HB2b.out)
   have HO0 := Lib.hid (fun x => own_below (HU.out.grp.own x) HB2b.out)
   have HB0 : Hid (Below w.heap.size w w2 ∧ w2.heap.size ≤ w2.heap.size) := Lib.hid ⟨HB.out.trans (HB2b.out.mono HB.out.size), Nat.le_refl _⟩
   have hwa : w.heap.size < wa.heap.size := HU.out.grp.map.lt
   have HKO0 := Lib.hid (fun g (e : (Value.slice ko K.length kcap).ownBlock = some g) => (hkown.lt g e).2)
   have HKO := Lib.hid hkown
   clear hkown HU HB HB2a HB2b
   go_wp2_with fail
   go_loopw [7, 9, 10, 34] (fun v s9 s10 iv wr => ∃ (k : Nat) (T : List Tr), k ≤ K.length ∧ iv = .int .i64 k ∧ T.length ≤ k ∧ Hid (tats T = nfK l (K.take k)) ∧ Hid (Done wr (w.heap.size + 1) hv (K.take k) T) ∧ Hid (∀ j, k ≤ j → j < K.length → wr.ownsRow (w.heap.size + 1) 9 1 (hv (partAt K j)) (allV l (partAt K j)).length (scells (allV l (partAt K j)))) ∧ Hid (GMap wr w.heap.size l.length D hv) ∧ Hid (wr.ownsRow (wa.heap.size + 1) 9 1 (.slice ko K.length kcap) K.length (scells K)) ∧ wr.ownsRow w2.heap.size 41 2 v T.length (tcells T) ∧ Hid (Below w.heap.size w wr ∧ w2.heap.size ≤ wr.heap.size)) (fun _ _ _ iv _ => K.length - (intOf iv).toNat)
   case atStart => exact ⟨0, [], Nat.zero_le _, rfl, Nat.le_refl _, Lib.hid rfl, Lib.hid ⟨fun t ht => (List.not_mem_nil ht).elim, fun t ht => (List.not_mem_nil ht).elim⟩, Lib.hid (fun j _ _ => HO0.out _), HG0, HKO, World.ownsRow_nil _ _ _ _, HB0⟩
   case round =>
    obtain ⟨k, T, hk, rfl, hTk, HT, HD, HO, HG, HKO, hown, HBB⟩ := hrel
    by_cases hlt : k < K.length
    ·have hKS := own_strs HKO.out rfl
     obtain ⟨kb, koff, rfl, hs⟩ := hKS.2.2.2 (by omega)
     have hcell := hs.2 k hlt
     have HNE := Lib.hid (fun x (hx : x ∈ K.take k) => take_ne HKA.out hlt hx)
     have HNJ := Lib.hid (fun j (hj : k + 1 ≤ j) (hjl : j < K.length) => part_ne HKA.out hjl hlt (by omega))
     have HTS := Lib.hid (show K.take (k + 1) = K.take k ++ [partAt K k] from take_snoc K k hlt)
     have hownk := HO.out k (Nat.le_refl _) hlt
     have hns := HKM.out _ (part_mem K k hlt)
     have HNK1 := Lib.hid (show nfK l (K.take (k + 1)) = nfK l (K.take k) ++ (if vals l (partAt K k) = [] then [] else [(partAt K k, vals l (partAt K k))]) by rw [HTS.out, nfK_snoc])
     obtain ⟨nm, hnm⟩ : ∃ x, partAt K k = x := ⟨_, rfl⟩
     rw [hnm] at hcell HNE HNJ HTS hownk hns HNK1
     have hlook := HG.out.look nm (by unfold maxLen; omega)
     clear hnm hs hKS
     have hlen : (allV l nm).length ≤ 1100000 := Nat.le_trans (allV_len nm l) HV.out
     have HLK := Lib.hid (fun g e => HLT.out nm g e)
     have HAK := Lib.hid (fun x (hx : x ≠ nm) => HAP.out x nm hx)
     obtain ⟨v0, hv0⟩ : ∃ x, hv nm = x := ⟨_, rfl⟩
     have HW0 := Lib.hid hv0
     rw [hv0] at hlook hownk HLK HAK
     clear hv0
     have d1 : (k : Int) < (K.length : Int) := by omega
     go_wp2_with fail
     refine (ascending_s (w.heap.size + 1) _ v0 (allV l nm) wr hownk rfl (by omega)).mono ?_
     rintro e w5 ⟨u, rfl, hu, hg, hub⟩
     have hu' : w5.ownsRow (w.heap.size + 1) 9 1 u (vals l nm).length (scells (vals l nm)) := hu
     have hlow : ∀ g, v0.ownBlock = some g → g < w2.heap.size := fun g e => Nat.lt_of_lt_of_le (HLK.out g e) hbs
     have HD5 := Lib.hid (HD.out.kept hg fun x hx => HAK.out x (HNE.out x hx))
     have HO5 := Lib.hid (fun j (hj : k + 1 ≤ j) (hjl : j < K.length) => (HO.out j (by omega) hjl).kept hg (HAK.out _ (HNJ.out j hj hjl)))
     have HG5 := Lib.hid (HG.out.kept hg (fun e => by have := (hownk.lt _ e.symm).1; omega))
     have HKO5 := Lib.hid (HKO.out.kept hg (not_block' (fun g e => (HKO.out.lt g e).1) (fun g e => Nat.lt_succ_of_lt (HLK.out g e))))
     have hown5 := hown.kept hg (not_block' (fun g e => (hown.lt g e).1) hlow)
     have HBB5 : Hid (Below w.heap.size w w5 ∧ w2.heap.size ≤ w5.heap.size) := Lib.hid ⟨HBB.out.1.grown hg HBB.out.1.size (fun q hq => by have := (hownk.lt q hq).1; omega), Nat.le_trans HBB.out.2 hg.size⟩
     clear hu HD HO HG HKO hown HBB hownk hlook hg
     obtain ⟨n, hn'⟩ : ∃ x, (vals l nm).length = x := ⟨_, rfl⟩
     rw [hn'] at hu'
     obtain ⟨uo, uc, rfl, hus⟩ := strs_own hu' hn'
     by_cases h0 : n = 0
     ·have HT2 := Lib.hid (show tats T = nfK l (K.take (k + 1)) by rw [HNK1.out, if_pos (List.length_eq_zero_iff.1 (by omega)), List.append_nil]; exact HT.out)
      have HD6 := Lib.hid (HD5.out.more (K' := K.take (k + 1)) fun x hx => by rw [HTS.out]; exact List.mem_append_left _ hx)
      have d2 : decide ((0 : Int) < (n : Int)) = false := decide_eq_false (by omega)
      go_wp2_with fail
      go_roundw
      case rel => exact ⟨k + 1, T, by omega, by go_num, by omega, HT2, HD6, HO5, HG5, HKO5, hown5, HBB5⟩
      case measure => simp [intOf]; omega
     ·have HT2 := Lib.hid (show tats (T ++ [(nm, .slice uo n uc, vals l nm)]) = nfK l (K.take (k + 1)) by rw [HNK1.out, if_neg (fun e => h0 (by rw [← hn', e]; rfl)), tats_append, HT.out]; rfl)
      have d2 : decide ((0 : Int) < (n : Int)) = true := decide_eq_true (by omega)
      have HHd : Hid (Hdr w5 (.slice uo n uc) (vals l nm)) := Lib.hid ⟨uo, n, uc, rfl, hus⟩
      have hsz6 := HBB5.out.2
      have hsz7 := HBB5.out.1.size
      have HD6 := Lib.hid ((HD5.out.more (K' := K.take (k + 1)) fun x hx => by rw [HTS.out]; exact List.mem_append_left _ hx).snoc (t := (nm, .slice uo n uc, vals l nm)) (by rw [hn']; exact hu') (by rw [HW0.out]; exact hub) (by rw [HTS.out]; simp))
      clear hus
      go_wp2_with (at_builtin; go_must (refine app_attrs (w5.alloc (.cells #[.string nm, .slice uo n uc] 41)) (hown5.alloc _) (.tmp 45) (.tmp 49) _ 1 1 [(nm, .slice uo n uc, vals l nm)] ?_ ?_ ?_ ?_ (ts_new1 w5 (nm, .slice uo n uc, vals l nm)) ?_ ?_ ?_ ?_; exact rfl; exact rfl; exact rfl; exact rfl; exact (fun t ht => by rw [List.mem_singleton.1 ht]; exact HHd.out.below ((Below.refl _ w5).alloc (Nat.le_refl _) _)); omega; (simp; omega); intro v7 w7 hown7 hg7 hl7))
      have hba : Below w5.heap.size w5 (w5.alloc (.cells #[.string nm, .slice uo n uc] 41)) := (Below.refl _ w5).alloc (Nat.le_refl _) _
      have hrow := fun g e => (hown5.lt g e).1
      have HD7 := Lib.hid ((HD6.out.below hba).kept hg7 (fun x hx => not_block (fun g e => Nat.lt_of_lt_of_le (HLT.out x g e) hbs) hrow))
      have HO7 := Lib.hid (fun j (hj : k + 1 ≤ j) (hjl : j < K.length) => (own_below (HO5.out j hj hjl) hba).kept hg7 (not_block (fun g e => Nat.lt_of_lt_of_le (HLT.out _ g e) hbs) hrow))
      have HG7 := Lib.hid ((HG5.out.below hba).kept hg7 (fun e => by have := hrow _ e.symm; omega))
      have HK7 := Lib.hid ((own_below HKO5.out hba).kept hg7 (not_block (Bk := w2.heap.size) (fun g e => by have := HKO0.out; exact this g e) hrow))
      have HBB7 : Hid (Below w.heap.size w w7 ∧ w2.heap.size ≤ w7.heap.size) := Lib.hid ⟨(HBB5.out.1.alloc hsz7 _).grown hg7 (by simp; omega) (fun q hq => by have := hrow q hq; omega), Nat.le_trans hsz6 (Nat.le_trans (by simp) hg7.size)⟩
      clear hba hrow hg7 hl7
      go_roundw
      case rel => exact ⟨k + 1, T ++ [(nm, .slice uo n uc, vals l nm)], by omega, by go_num, by simp; omega, HT2, HD7, HO7, HG7, HK7, by rw [List.length_append, tcells_append]; exact hown7, HBB7⟩
      case measure => simp [intOf]; omega
    ·obtain rfl : K.length = k := by omega
     have HE := Lib.hid (show tats T = nf l by rw [HT.out, List.take_length, HNK.out])
     go_wp2_with fail
     go_ret
     refine ⟨_, T, rfl, HE.out, fun t ht => ⟨(HD.out.own t ht).1.mono (Nat.le_succ _), ?_⟩, HD.out.apart (by rw [HE.out]; exact (nf_NF l).asc) HAP.out, hown.mono (by omega), HBB.out.1⟩
     rw [(HD.out.own t ht).2]
     exact not_block (Bk := w2.heap.size) (fun g e => Nat.lt_of_lt_of_le (HLT.out _ g e) hbs) (fun g e => (hown.lt g e).1)
end Go.Proofs.YtonfkhkalodldabGreatDoor
end

section
set_option maxRecDepth 100000
namespace Go.Proofs.YtonfkhkalodldabGreatDoor
open Go.RowKit Go.PlainAid
theorem cmp_s (a b : ByteArray) (w : World) : Calls Tryz.prog 126 #[.string a, .string b] w fun e w' => e = .returned (.int .i64 (cmpS a b)) ∧ w' = w := Tryz.strings_Compare a b w
set_option maxRecDepth 100000 in
theorem closure_s (nm lw : ByteArray) (hd : Value) (w : World) :
  Calls Tryz.prog 125 #[.agg #[.string nm, hd], .string lw] w fun e w' => e = .returned (.int .i64 (cmpS nm lw)) ∧ Below w.heap.size w w' := by
 have X := (abox_new w nm hd).cells
 obtain ⟨x0, x1⟩ := X
 have hb : Below w.heap.size w (w.alloc (.cells #[.string nm, hd] 41)) := (Below.refl _ w).alloc (Nat.le_refl _) _
 go_enter Tryz.func125, Tryz.ntmps125
 go_wp2_with fail
 refine (cmp_s nm lw _).mono ?_
 rintro e w1 ⟨rfl, rfl⟩
 go_wp2_with fail
 go_ret
 exact ⟨rfl, hb⟩
theorem asc_mono {T : List Tr} (hA : Asc ((tats T).map (·.1))) {i j : Nat} (hij : i < j) (hj : j < T.length) : cmpS (trD T i).1 (trD T j).1 < 0 := by
 unfold Asc tats at hA
 rw [List.map_map, List.pairwise_map] at hA
 have := List.pairwise_iff_getElem.1 hA i j (by omega) hj hij
 rw [tr_get T i (by omega), tr_get T j hj]
 exact this
def geS (a b : ByteArray) : Prop := ¬ cmpS a b < 0
def Found (T : List Tr) (lw : ByteArray) (i : Nat) : Prop := i ≤ T.length ∧ (∀ t, t < i → cmpS (trD T t).1 lw < 0) ∧ ∀ t, i ≤ t → t < T.length → geS (trD T t).1 lw
set_option maxRecDepth 100000 in
set_option maxHeartbeats 4000000 in
theorem search_s (ao : Option Addr) (n cap : Nat) (T : List Tr) (lw : ByteArray) (w : World) (h : TsAt w ao n cap T) (hA : Asc ((tats T).map (·.1))) (hn : n ≤ 3000) :
  Calls Tryz.prog 124 #[.slice ao n cap, .string lw, .func (.func 125) #[] #[]] w fun e w' =>
   ∃ i : Nat, e = .returned (.tuple #[.int .i64 i, .bool (decide (i < n ∧ (trD T i).1 = lw))]) ∧ Found T lw i ∧ Below w.heap.size w w' := by
 have HT := Lib.hid h
 have hTl : T.length = n := h.1
 have HA := Lib.hid hA
 clear h hA
 subst hTl
 go_enter Tryz.func124, Tryz.ntmps124
 go_wp2
 go_loopw [9, 10, 11] (fun s9 s10 s11 wr => ∃ lo hi : Nat, s9 = .int .i64 lo ∧ s10 = .int .i64 hi ∧ lo ≤ hi ∧ hi ≤ T.length ∧ Hid (∀ t, t < lo → cmpS (trD T t).1 lw < 0) ∧ Hid (∀ t, hi ≤ t → t < T.length → geS (trD T t).1 lw) ∧ Hid (Below w.heap.size w wr)) (fun s9 s10 _ _ => (intOf s10).toNat - (intOf s9).toNat)
 case atStart => exact ⟨0, T.length, rfl, rfl, Nat.zero_le _, Nat.le_refl _, Lib.hid (fun t ht => absurd ht (Nat.not_lt_zero _)), Lib.hid (fun t h1 h2 => absurd h2 (by omega)), Lib.hid (Below.refl _ _)⟩
 case round =>
  obtain ⟨lo, hi, rfl, rfl, hlh, hin, HLO, HHI, HB⟩ := hrel
  by_cases hlt : lo < hi
  ·obtain ⟨b, off, rfl, hblt, _⟩ := HT.out.2.2.2 (by omega)
   obtain ⟨a0, a1⟩ := ts_at HT.out ((lo + hi) / 2) (by omega)
   have a0 := cell_later HB.out a0
   have a1 := cell_later HB.out a1
   obtain ⟨m, hm⟩ : ∃ x, (lo + hi) / 2 = x := ⟨_, rfl⟩
   have hm1 : lo ≤ m := by omega
   have hm2 : m < hi := by omega
   have em : ((lo : Int) + (hi : Int)) / 2 = (m : Int) := by omega
   rw [hm] at a0 a1
   have HLM := Lib.hid (fun (e : cmpS (trD T m).1 lw < 0) t (ht : t < m + 1) => if h : t = m then (by rw [h]; exact e : cmpS (trD T t).1 lw < 0) else cs_trans (asc_mono HA.out (show t < m by omega) (show m < T.length by omega)) e)
   have HHM := Lib.hid (fun (e : ¬ cmpS (trD T m).1 lw < 0) t (ht : m ≤ t) (htl : t < T.length) => if h : t = m then (by rw [h]; exact e : geS (trD T t).1 lw) else fun k => e (cs_trans (asc_mono HA.out (show m < t by omega) htl) k))
   clear hm
   obtain ⟨x, hx⟩ : ∃ x, trD T m = x := ⟨_, rfl⟩
   rw [hx] at a0 a1 HLM HHM
   clear hx
   obtain ⟨p, hd, vs⟩ := x
   simp only [] at a0 a1 HLM HHM
   by_cases hp : cmpS p lw < 0
   ·have d1 : decide (cmpS p lw < 0) = true := decide_eq_true hp
    have H2 := Lib.hid (HLM.out hp)
    clear hp
    go_wp2_with fail
    refine (closure_s p lw hd _).mono ?_
    rintro e w1 ⟨rfl, hb⟩
    have HB2 := Lib.hid (HB.out.trans (hb.mono HB.out.size))
    go_wp2_with fail
    go_roundw
    case rel => exact ⟨m + 1, hi, by go_num, rfl, by omega, hin, H2, HHI, HB2⟩
    case measure => simp [intOf]; omega
   ·have d1 : decide (cmpS p lw < 0) = false := decide_eq_false hp
    have H2 := Lib.hid (HHM.out hp)
    clear hp
    go_wp2_with fail
    refine (closure_s p lw hd _).mono ?_
    rintro e w1 ⟨rfl, hb⟩
    have HB2 := Lib.hid (HB.out.trans (hb.mono HB.out.size))
    go_wp2_with fail
    go_roundw
    case rel => exact ⟨lo, m, rfl, by go_num, by omega, by omega, HLO, H2, HB2⟩
    case measure => simp [intOf]; omega
  ·obtain rfl : hi = lo := by omega
   have HFD := Lib.hid (show Found T lw hi from ⟨hin, HLO.out, HHI.out⟩)
   by_cases hl2 : hi < T.length
   ·obtain ⟨b, off, rfl, hblt, _⟩ := HT.out.2.2.2 (by omega)
    obtain ⟨a0, a1⟩ := ts_at HT.out hi hl2
    have a0 := cell_later HB.out a0
    have a1 := cell_later HB.out a1
    obtain ⟨x, hx⟩ : ∃ x, trD T hi = x := ⟨_, rfl⟩
    have HX := Lib.hid hx
    rw [hx] at a0 a1
    clear hx
    obtain ⟨p, hd, vs⟩ := x
    simp only [] at a0 a1
    obtain ⟨z, hz⟩ : ∃ x, decide (p = lw) = x := ⟨_, rfl⟩
    have q1 : (cmpS p lw == 0) = z := by rw [← hz, Bool.eq_iff_iff]; simp [cmpS_ord.zero]
    have HZ := Lib.hid (show decide (hi < T.length ∧ (trD T hi).1 = lw) = z by rw [HX.out, ← hz]; simp [hl2])
    clear hz
    have d2 : (hi : Int) < (T.length : Int) := by omega
    go_wp2_with fail
    refine (closure_s p lw hd _).mono ?_
    rintro e w1 ⟨rfl, hb⟩
    have HB2 := Lib.hid (HB.out.trans (hb.mono HB.out.size))
    go_wp2_with fail
    go_ret2
    exact ⟨hi, by rw [HZ.out]; rfl, HFD.out, HB2.out⟩
   ·have HZ := Lib.hid (show decide (hi < T.length ∧ (trD T hi).1 = lw) = false from decide_eq_false fun e => hl2 e.1)
    have d2 : decide ((hi : Int) < (T.length : Int)) = false := decide_eq_false (by omega)
    go_wp2_with fail
    go_ret2
    exact ⟨hi, by rw [HZ.out]; rfl, HFD.out, HB.out⟩
structure Parts (T : List Tr) (lw : ByteArray) (B M A : List Tr) (hv : Value) : Prop where
 all : T = B ++ M ++ A
 lo : ∀ t ∈ B, cmpS t.1 lw < 0
 hi : ∀ t ∈ A, cmpS lw t.1 < 0
 mid : (M = [] ∧ hv = .slice none 0 0) ∨ ∃ vs, M = [(lw, hv, vs)]
theorem mem_part {T : List Tr} {i : Nat} {t : Tr} (h : t ∈ T.take i) : ∃ j, j < i ∧ j < T.length ∧ trD T j = t := by
 obtain ⟨j, hj, rfl⟩ := List.mem_take_iff_getElem.1 h
 exact ⟨j, by omega, by omega, tr_get T j (by omega)⟩
theorem mem_rest {T : List Tr} {i : Nat} {t : Tr} (h : t ∈ T.drop i) : ∃ j, i ≤ j ∧ j < T.length ∧ trD T j = t := by
 obtain ⟨j, hj, rfl⟩ := List.mem_drop_iff_getElem.1 h
 exact ⟨i + j, by omega, by omega, by rw [tr_get T (i + j) (by omega)]⟩
theorem parts_none {T : List Tr} {lw : ByteArray} {i : Nat} (hA : Asc ((tats T).map (·.1))) (h : Found T lw i) (hn : ¬ (i < T.length ∧ (trD T i).1 = lw)) : Parts T lw (T.take i) [] (T.drop i) (.slice none 0 0) where
 all := by rw [List.append_nil, List.take_append_drop]
 lo t ht := by obtain ⟨j, h1, h2, rfl⟩ := mem_part ht; exact h.2.1 j h1
 hi t ht := by
  obtain ⟨j, h1, h2, rfl⟩ := mem_rest ht
  have hi' : cmpS lw (trD T i).1 < 0 := by
   have hge : ¬ cmpS (trD T i).1 lw < 0 := h.2.2 i (Nat.le_refl _) (by omega)
   rcases cs_tri (trD T i).1 lw with k | k | k
   ·exact absurd k hge
   ·exact absurd ⟨by omega, k⟩ hn
   ·exact k
  rcases Nat.lt_or_eq_of_le h1 with k | k
  ·exact cs_trans hi' (asc_mono hA k h2)
  ·subst k; exact hi'
 mid := .inl ⟨rfl, rfl⟩
theorem parts_some {T : List Tr} {lw : ByteArray} {i : Nat} {hd : Value} {vs : List ByteArray} (hA : Asc ((tats T).map (·.1))) (h : Found T lw i) (hi : i < T.length) (e : trD T i = (lw, hd, vs)) : Parts T lw (T.take i) [(lw, hd, vs)] (T.drop (i + 1)) hd where
 all := by
  have h1 : T.take (i + 1) = T.take i ++ [trD T i] := tr_take T i hi
  rw [← e, ← h1, List.take_append_drop]
 lo t ht := by obtain ⟨j, h1, h2, rfl⟩ := mem_part ht; exact h.2.1 j h1
 hi t ht := by
  obtain ⟨j, h1, h2, rfl⟩ := mem_rest ht
  have := asc_mono hA (show i < j by omega) h2
  rw [e] at this
  exact this
 mid := .inr ⟨vs, rfl⟩
theorem ts_cut {w : World} {ao : Option Addr} {n cap : Nat} {T : List Tr} (h : TsAt w ao n cap T) (i : Nat) (hi : i ≤ n) : TsAt w ao i i (T.take i) := by
 obtain ⟨h1, h2, h3, h4⟩ := h
 refine ⟨by rw [List.length_take]; omega, Nat.le_refl _, by omega, fun hn => ?_⟩
 obtain ⟨b, off, e, hb, ha⟩ := h4 (by omega)
 refine ⟨b, off, e, hb, fun j u hj => ha j u ?_⟩
 rw [← tcells_take, List.getElem?_take] at hj
 split at hj
 ·exact hj
 ·cases hj
theorem ts_rest {w : World} {b off n cap : Nat} {T : List Tr} (h : TsAt w (some ⟨b, off, none⟩) n cap T) (i : Nat) (hi : i ≤ n) : TsAt w (some ⟨b, off + i * 2, none⟩) (n - i) (cap - i) (T.drop i) := by
 obtain ⟨h1, h2, h3, h4⟩ := h
 refine ⟨by rw [List.length_drop]; omega, by omega, by omega, fun hn => ?_⟩
 obtain ⟨b', off', e, hb, ha⟩ := h4 (by omega)
 cases e
 refine ⟨b, off + i * 2, rfl, hb, fun j u hj => ?_⟩
 rw [← tcells_drop T i (by omega), List.getElem?_drop] at hj
 rw [Nat.add_assoc]
 exact ha _ _ hj
theorem ts_none {w : World} {ao bo : Option Addr} {n cap c : Nat} {T : List Tr} (h : TsAt w ao n cap T) (i : Nat) (hi : n ≤ i) (hc : c ≤ maxLen) : TsAt w bo 0 c (T.drop i) := by
 have e : T.drop i = [] := List.drop_of_length_le (by rw [h.1]; exact hi)
 rw [e]
 exact ts_nil w bo c hc
def Lies (ao bo : Option Addr) : Prop := ∀ ad, bo = some ad → ∃ b off off', ad = ⟨b, off, none⟩ ∧ ao = some ⟨b, off', none⟩
set_option maxRecDepth 100000 in
set_option maxHeartbeats 8000000 in
theorem around_s (ao : Option Addr) (n cap : Nat) (T : List Tr) (name : ByteArray) (w : World) (h : TsAt w ao n cap T) (hA : Asc ((tats T).map (·.1))) (hn : n ≤ 3000) (hz : ao = none → cap = 0) (hp : ∀ ad, ao = some ad → ad.spot = none) (hns : name.size ≤ 1100000) :
  Calls Tryz.prog 99 #[.slice ao n cap, .string name] w fun e w' => ∃ (B M A : List Tr) (hv : Value) (bo : Option Addr) (c : Nat), e = .returned (.tuple #[.slice ao B.length B.length, hv, .slice bo A.length c]) ∧
   Parts T (lowS name) B M A hv ∧ TsAt w' ao B.length B.length B ∧ TsAt w' bo A.length c A ∧ Lies ao bo ∧ Below w.heap.size w w' := by
 have hTl : T.length = n := h.1
 have HS0 := Lib.hid (fun lw w1 (hb : Below w.heap.size w w1) => search_s ao n cap T lw w1 (h.below hb) hA hn)
 have HT := Lib.hid h
 have HA := Lib.hid hA
 have hcn : n ≤ cap := h.2.1
 have hcm : cap ≤ 9223372036854775807 := h.2.2.1
 clear h hA
 obtain ⟨lw, hlw⟩ : ∃ x, lowS name = x := ⟨_, rfl⟩
 have HLW := Lib.hid hlw
 rw [hlw]
 clear hlw
 go_enter Tryz.func99, Tryz.ntmps99
 go_wp2_with fail
 refine (lower_s name w (by omega)).mono ?_
 rintro e w1 ⟨rfl, hb⟩
 rw [HLW.out]
 have HS := Lib.hid (HS0.out lw w1 hb)
 have HB1 := Lib.hid hb
 clear HS0 hb
 go_wp2_with fail
 refine HS.out.mono ?_
 rintro e w2 ⟨i, rfl, hfd, hb⟩
 have hin : i ≤ n := by rw [← hTl]; exact hfd.1
 have HFD := Lib.hid hfd
 have HB2 := Lib.hid (HB1.out.trans (hb.mono HB1.out.size))
 have HT2 := Lib.hid (HT.out.below HB2.out)
 clear hfd hb HS HB1
 have HBd : Hid (Below w.heap.size w w2.drew) := Lib.hid HB2.out.drew
 have k0 : (0 : Int) ≤ (i : Int) := by omega
 have k1 : (i : Int) ≤ (cap : Int) := by omega
 have k2 : (i : Int) ≤ (n : Int) := by omega
 have hBl : (T.take i).length = i := by rw [List.length_take]; omega
 cases ao with
 | none =>
  have hc0 := hz rfl
  subst hc0
  obtain rfl : n = 0 := by omega
  obtain rfl : i = 0 := by omega
  have hf : decide (0 < 0 ∧ (trD T 0).1 = lw) = false := by simp
  rw [hf]
  have HP := Lib.hid (parts_none (lw := lw) HA.out HFD.out (by omega))
  go_wp2_with fail
  refine wp_region_held_drew (S := fun W => Hid (Below w.heap.size w W)) (by kernel_rfl) (HBd) (fun hS => ?_)
  refine rgT 0 (some 16) ?_
  refine rgT 1 (some 17) ?_
  refine rgT 2 (some 18) ?_
  refine rgT 3 (some 19) ?_
  refine rgT 4 (some 20) ?_
  refine rgT 5 (some 21) ?_
  refine rgT 6 (some 22) ?_
  refine rgT 7 (some 4) ?_
  refine rgT 8 (some 6) ?_
  refine wpAnyH_done (by kernel_rfl) ?_ _
  go_wp2_with fail
  go_ret3
  have hT0 : T = [] := List.length_eq_zero_iff.1 hTl
  subst hT0
  exact ⟨[], [], [], _, none, 0, rfl, HP.out, ts_nil _ _ _ (by unfold maxLen; omega), ts_nil _ _ _ (by unfold maxLen; omega), (fun ad e => by cases e), HBd.out⟩
 | some ad =>
  have hsp := hp ad rfl
  obtain ⟨b, off, spot⟩ := ad
  simp only at hsp
  subst hsp
  have hT2d : Hid (TsAt w2.drew (some ⟨b, off, none⟩) n cap T) := Lib.hid (HT2.out.below (Below.refl _ w2).drew)
  have HTB := Lib.hid (ts_cut hT2d.out i hin)
  by_cases hic : i < cap
  ·have k3 : (i : Int) < (cap : Int) := by omega
   have k4 : ¬ cap = i := by omega
   by_cases hfo : i < n ∧ (trD T i).1 = lw
   ·have hf : decide (i < n ∧ (trD T i).1 = lw) = true := decide_eq_true hfo
    rw [hf]
    obtain ⟨hfi, hfe⟩ := hfo
    obtain ⟨a0, a1⟩ := ts_at hT2d.out i hfi
    obtain ⟨x, hx⟩ : ∃ x, trD T i = x := ⟨_, rfl⟩
    rw [hx] at a1 hfe
    have HX := Lib.hid hx
    clear hx a0
    obtain ⟨p, hd, vs⟩ := x
    simp only [] at a1 hfe
    subst hfe
    have HP := Lib.hid (parts_some HA.out HFD.out (by omega) HX.out)
    have HTA := Lib.hid (ts_rest hT2d.out (i + 1) (by omega))
    have HTN := Lib.hid (fun (bo : Option Addr) (c : Nat) => ts_none (bo := bo) (c := c) hT2d.out (i + 1))
    have hAl : (T.drop (i + 1)).length = n - (i + 1) := by rw [List.length_drop]; omega
    go_wp2_with fail
    refine wp_region_held_drew (S := fun W => Hid (Below w.heap.size w W)) (by kernel_rfl) (HBd) (fun hS => ?_)
    refine rgT 0 (some 16) ?_
    refine rgT 1 (some 17) ?_
    refine rgT 2 (some 18) ?_
    refine rgT 3 (some 19) ?_
    refine rgT 4 (some 20) ?_
    refine rgT 5 (some 21) ?_
    refine rgT 6 (some 22) ?_
    refine rgT 7 (some 4) ?_
    refine rgT 8 (some 6) ?_
    refine wpAnyH_done (by kernel_rfl) ?_ _
    obtain ⟨m, hm⟩ : ∃ x, n - i = x := ⟨_, rfl⟩
    obtain ⟨c, hc⟩ : ∃ x, cap - i = x := ⟨_, rfl⟩
    have hm0 : 0 < m := by omega
    have hmc : m ≤ c := by omega
    have m1 : (0 : Int) < (m : Int) := by omega
    have m2 : (1 : Int) ≤ (m : Int) := by omega
    have m3 : (1 : Int) ≤ (c : Int) := by omega
    have hcb : c ≤ 9223372036854775807 := by omega
    have a1d : w2.drew.drew.cell? ⟨b, off + i * 2 + 1, none⟩ = some hd := a1
    have HBdd : Hid (Below w.heap.size w w2.drew.drew) := Lib.hid HBd.out.drew
    by_cases hc1 : c = 1
    ·subst hc1
     have hAl2 : (T.drop (i + 1)).length = 0 := by omega
     go_wp2_with fail
     rw [hm, hc]
     refine wp_region_held_drew (S := fun W => W.cell? ⟨b, off + i * 2 + 1, none⟩ = some hd ∧ Hid (Below w.heap.size w W)) (by kernel_rfl) (⟨a1d, HBdd⟩) (fun hS => ?_)
     refine rgT 0 (some 24) ?_
     refine rgT 1 (some 25) ?_
     refine rgT 2 (some 26) ?_
     refine rgT 3 (some 27) ?_
     refine rgT 4 (some 28) ?_
     refine rgT 5 (some 29) ?_
     refine rgT 6 (some 5) ?_
     refine rgT 7 (some 6) ?_
     refine wpAnyH_done (by kernel_rfl) ?_ _
     go_wp2_with fail
     go_ret3
     have hTN := HTN.out (some ⟨b, off + i * 2, none⟩) 0 (by omega) (by unfold maxLen; omega)
     have hmm : m - 1 = 0 := by omega
     exact ⟨T.take i, [(p, hd, vs)], T.drop (i + 1), hd, some ⟨b, off + i * 2, none⟩, 0, by rw [hBl, hAl2, ← hmm]; rfl, HP.out, by rw [hBl]; exact HTB.out, by rw [hAl2]; exact hTN, fun ad e => by cases e; exact ⟨b, off + i * 2, off, rfl, rfl⟩, HBdd.out⟩
    ·have m4 : (1 : Int) < (c : Int) := by omega
     have m5 : ¬ c = 1 := hc1
     go_wp2_with fail
     rw [hm, hc]
     refine wp_region_held_drew (S := fun W => W.cell? ⟨b, off + i * 2 + 1, none⟩ = some hd ∧ Hid (Below w.heap.size w W)) (by kernel_rfl) (⟨a1d, HBdd⟩) (fun hS => ?_)
     refine rgT 0 (some 24) ?_
     refine rgT 1 (some 25) ?_
     refine rgT 2 (some 26) ?_
     refine rgT 3 (some 27) ?_
     refine rgT 4 (some 28) ?_
     refine rgT 5 (some 29) ?_
     refine rgT 6 (some 5) ?_
     refine rgT 7 (some 6) ?_
     refine wpAnyH_done (by kernel_rfl) ?_ _
     go_wp2_with fail
     go_ret3
     have e1 : n - (i + 1) = m - 1 := by omega
     have e2 : cap - (i + 1) = c - 1 := by omega
     have e3 : off + (i + 1) * 2 = off + i * 2 + 2 := by omega
     have hTA := HTA.out
     rw [e1, e2, e3] at hTA
     rw [e1] at hAl
     exact ⟨T.take i, [(p, hd, vs)], T.drop (i + 1), hd, some ⟨b, off + i * 2 + 2, none⟩, c - 1, by rw [hBl, hAl]; rfl, HP.out, by rw [hBl]; exact HTB.out, by rw [hAl]; exact hTA, fun ad e => by cases e; exact ⟨b, off + i * 2 + 2, off, rfl, rfl⟩, HBdd.out⟩
   ·have hf : decide (i < n ∧ (trD T i).1 = lw) = false := decide_eq_false hfo
    rw [hf]
    have HP := Lib.hid (parts_none (lw := lw) HA.out HFD.out (by rw [hTl]; exact hfo))
    have HTA := Lib.hid (ts_rest hT2d.out i hin)
    have hAl : (T.drop i).length = n - i := by rw [List.length_drop]; omega
    go_wp2_with fail
    refine wp_region_held_drew (S := fun W => Hid (Below w.heap.size w W)) (by kernel_rfl) (HBd) (fun hS => ?_)
    refine rgT 0 (some 16) ?_
    refine rgT 1 (some 17) ?_
    refine rgT 2 (some 18) ?_
    refine rgT 3 (some 19) ?_
    refine rgT 4 (some 20) ?_
    refine rgT 5 (some 21) ?_
    refine rgT 6 (some 22) ?_
    refine rgT 7 (some 4) ?_
    refine rgT 8 (some 6) ?_
    refine wpAnyH_done (by kernel_rfl) ?_ _
    go_wp2_with fail
    go_ret3
    exact ⟨T.take i, [], T.drop i, _, some ⟨b, off + i * 2, none⟩, cap - i, by rw [hBl, hAl]; rfl, HP.out, by rw [hBl]; exact HTB.out, by rw [hAl]; exact HTA.out, fun ad e => by cases e; exact ⟨b, off + i * 2, off, rfl, rfl⟩, HBd.out⟩
  ·obtain rfl : cap = i := by omega
   obtain rfl : n = cap := by omega
   have hf : decide (n < n ∧ (trD T n).1 = lw) = false := by simp
   rw [hf]
   have HP := Lib.hid (parts_none (lw := lw) HA.out HFD.out (by omega))
   have HTN := Lib.hid (ts_none (bo := some ⟨b, off, none⟩) (c := 0) hT2d.out n (Nat.le_refl _) (by unfold maxLen; omega))
   have hAl : (T.drop n).length = 0 := by rw [List.length_drop]; omega
   go_wp2_with fail
   refine wp_region_held_drew (S := fun W => Hid (Below w.heap.size w W)) (by kernel_rfl) (HBd) (fun hS => ?_)
   refine rgT 0 (some 16) ?_
   refine rgT 1 (some 17) ?_
   refine rgT 2 (some 18) ?_
   refine rgT 3 (some 19) ?_
   refine rgT 4 (some 20) ?_
   refine rgT 5 (some 21) ?_
   refine rgT 6 (some 22) ?_
   refine rgT 7 (some 4) ?_
   refine rgT 8 (some 6) ?_
   refine wpAnyH_done (by kernel_rfl) ?_ _
   go_wp2_with fail
   go_ret3
   exact ⟨T.take n, [], T.drop n, _, some ⟨b, off, none⟩, 0, by rw [hBl, hAl]; rfl, HP.out, by rw [hBl]; exact HTB.out, by rw [hAl]; exact HTN.out, fun ad e => by cases e; exact ⟨b, off, off, rfl, rfl⟩, HBd.out⟩
theorem parts_vals {l : List At} {T B M A : List Tr} {lw : ByteArray} {hv : Value} (hT : tats T = nf l) (h : Parts T lw B M A hv) {w : World} (hO : TOk w T) : Hdr w hv (vals l lw) := by
 rcases h.mid with ⟨hM, rfl⟩ | ⟨vs, hM⟩
 ·have e : vals l lw = [] := by
   refine Classical.not_not.1 fun e => ?_
   have := nf_mem.2 ⟨(rfl : ((lw, vals l lw) : At).2 = vals l (lw, vals l lw).1), e⟩
   rw [← hT] at this
   obtain ⟨t, ht, e2⟩ := List.mem_map.1 this
   have e3 : t.1 = lw := congrArg Prod.fst e2
   rw [h.all, hM, List.append_nil] at ht
   rcases List.mem_append.1 ht with k | k
   ·exact cs_ne (h.lo t k) e3
   ·exact cs_ne (h.hi t k) e3.symm
  rw [e]; exact hdr_nil w
 ·have hm : (lw, hv, vs) ∈ T := by rw [h.all, hM]; simp
  have h2 : (lw, vs) ∈ nf l := by rw [← hT]; exact List.mem_map.2 ⟨_, hm, rfl⟩
  have e := (nf_mem.1 h2).1
  have e' : vs = vals l lw := e
  rw [← e']
  exact hO _ hm
theorem parts_mid {l : List At} {T B M A : List Tr} {lw : ByteArray} {hv : Value} (hT : tats T = nf l) (h : Parts T lw B M A hv) : tats B ++ tats A = wthL l lw := by
 unfold wthL
 rw [← hT, h.all, tats_append, tats_append, List.filter_append, List.filter_append]
 have e1 : (tats B).filter (fun a => decide (a.1 ≠ lw)) = tats B := by
  rw [List.filter_eq_self]
  intro a ha
  obtain ⟨t, ht, rfl⟩ := List.mem_map.1 ha
  exact decide_eq_true (cs_ne (h.lo t ht))
 have e2 : (tats A).filter (fun a => decide (a.1 ≠ lw)) = tats A := by
  rw [List.filter_eq_self]
  intro a ha
  obtain ⟨t, ht, rfl⟩ := List.mem_map.1 ha
  exact decide_eq_true (cs_ne (h.hi t ht)).symm
 have e3 : (tats M).filter (fun a => decide (a.1 ≠ lw)) = [] := by
  rcases h.mid with ⟨hM, _⟩ | ⟨vs, hM⟩
  ·rw [hM]; rfl
  ·rw [hM]; simp [tats]
 rw [e1, e2, e3, List.append_nil]
theorem nf_names_asc {l : List At} {T : List Tr} (hT : tats T = nf l) : Asc ((tats T).map (·.1)) := by rw [hT]; exact (nf_NF l).asc
set_option maxRecDepth 100000 in
set_option maxHeartbeats 4000000 in
theorem get_s (ao : Option Addr) (n cap : Nat) (l : List At) (name : ByteArray) (w : World) (h : AttrsAt w ao n cap l) (hF : Few l) (hns : name.size ≤ 1100000) :
  Calls Tryz.prog 91 #[.slice ao n cap, .string name] w fun e w' => ∃ v, e = .returned v ∧ Hdr w' v (vals l (lowS name)) ∧ Below w.heap.size w w' := by
 have HR := Lib.hid (sorted_s ao n cap l w h hF)
 have hlen := Nat.le_trans (nf_len l) hF.len
 go_enter Tryz.func91, Tryz.ntmps91
 go_wp2_with fail
 refine HR.out.mono ?_
 rintro e w1 ⟨v, T, rfl, hT, hTO, _, hown, hb⟩
 obtain ⟨hTl, xo, xc, rfl, hat, _, hz, hp⟩ := ts_owns hown
 have HRD := Lib.hid (around_s xo T.length xc T name w1 hat (nf_names_asc hT) (by rw [← tats_len, hT]; exact hlen) hz hp hns)
 have HTO := Lib.hid hTO.ok
 have HB := Lib.hid hb
 have HT := Lib.hid hT
 clear HR h hF hat hTO hb hown hT hlen hz hp hTl
 go_wp2_with fail
 refine HRD.out.mono ?_
 rintro e w2 ⟨B, M, A, hv, bo, c, rfl, hP, _, _, _, hb⟩
 have hH := (parts_vals HT.out hP HTO.out).below hb
 go_wp2_with fail
 go_ret
 exact ⟨_, rfl, hH, HB.out.trans (hb.mono HB.out.size)⟩
theorem contains_mem (l : List ByteArray) (s : ByteArray) : Lib.containsS l s = memB l s := by
 rw [Bool.eq_iff_iff, memB_iff, Lib.containsS_iff]
set_option maxRecDepth 100000 in
set_option maxHeartbeats 4000000 in
theorem names_s (ao : Option Addr) (n cap : Nat) (l : List At) (w : World) (h : AttrsAt w ao n cap l) (hF : Few l) :
  Calls Tryz.prog 90 #[.slice ao n cap] w fun e w' => ∃ v, e = .returned v ∧ Hdr w' v (names l) ∧ Below w.heap.size w w' := by
 have HR := Lib.hid (sorted_s ao n cap l w h hF)
 have hlen := Nat.le_trans (nf_len l) hF.len
 go_enter Tryz.func90, Tryz.ntmps90
 go_wp2_with fail
 refine HR.out.mono ?_
 rintro e w1 ⟨v, T, rfl, hT, hTO, _, hown, hb⟩
 obtain ⟨_, xo, xc, rfl, hat, _⟩ := ts_owns hown
 have HTA := Lib.hid hat
 have HTK := Lib.hid hTO.ok
 have HB := Lib.hid hb
 have HT := Lib.hid hT
 have hTl : T.length ≤ 3000 := by rw [← tats_len, hT]; exact hlen
 have hxc : xc ≤ 9223372036854775807 := hat.2.2.1
 have HNL := Lib.hid (names_tlen hT)
 clear HR h hF hat hTO hb hown hT hlen
 obtain ⟨ns, hns⟩ : ∃ x, names l = x := ⟨_, rfl⟩
 have HNS := Lib.hid hns
 rw [hns] at HNL
 clear hns
 go_wp2_with fail
 go_loopw [3, 5, 9] (fun s3 s5 i wr => ∃ q : Nat, q ≤ T.length ∧ i = .int .i64 q ∧ wr.ownsRow w1.heap.size 9 1 s3 (ns.take q).length (scells (ns.take q)) ∧ Hid (Below w1.heap.size w1 wr)) (fun _ _ i _ => T.length - (intOf i).toNat)
 case atStart => exact ⟨0, Nat.zero_le _, rfl, World.ownsRow_nil _ _ _ _, Lib.hid (Below.refl _ _)⟩
 case round =>
  obtain ⟨q, hq, rfl, hown, HB2⟩ := hrel
  by_cases hlt : q < T.length
  ·obtain ⟨b, off, rfl, hblt, _⟩ := HTA.out.2.2.2 (by omega)
   obtain ⟨a0, a1⟩ := ts_at HTA.out q hlt
   have a0 := cell_later HB2.out a0
   have a1 := cell_later HB2.out a1
   have HPN := Lib.hid (names_part HT.out q hlt)
   have hhd := HTK.out _ (tr_mem T q hlt)
   obtain ⟨x, hx⟩ : ∃ x, trD T q = x := ⟨_, rfl⟩
   rw [hx] at a0 a1 HPN hhd
   clear hx
   obtain ⟨p, hd, vs⟩ := x
   simp only [] at a0 a1 HPN hhd
   obtain ⟨ho, hnn, hcc, rfl, _⟩ := hhd
   rw [HNS.out] at HPN
   have HTS := Lib.hid (show ns.take (q + 1) = ns.take q ++ [p] by rw [HPN.out]; exact take_snoc ns q (by have := HNL.out; omega))
   have hql : (ns.take q).length ≤ 3000 := by rw [List.length_take]; omega
   have d1 : (q : Int) < (T.length : Int) := by omega
   have hsz := HB2.out.size
   have X1 := (abox_new wr p (.slice ho hnn hcc)).cells
   obtain ⟨x0, x1⟩ := X1
   have hown1 := hown.alloc (.cells #[.string p, .slice ho hnn hcc] 41)
   have hba : Below w1.heap.size w1 (wr.alloc (.cells #[.string p, .slice ho hnn hcc] 41)) := HB2.out.alloc hsz _
   have hszA := hba.size
   go_wp2_with (at_builtin; go_must (refine push_str (wr.alloc (.cells #[.string p, .slice ho hnn hcc] 41)) hown1 (.tmp 13) (.tmp 16) p ?_ ?_ ?_ ?_ ?_ ?_ ?_; exact rfl; exact rfl; exact rfl; (rw [World.size_alloc]; exact rfl); omega; exact hszA; intro v3 w3 hown3 hb3))
   go_roundw
   case rel => exact ⟨q + 1, by omega, by go_num, by rw [HTS.out, scells_snoc, List.length_append]; exact hown3, Lib.hid (hba.trans hb3)⟩
   case measure => simp [intOf]; omega
  ·obtain rfl : T.length = q := by omega
   have HE := Lib.hid (show ns.take T.length = ns from List.take_of_length_le (by rw [HNL.out]; exact Nat.le_refl _))
   go_wp2_with fail
   go_ret
   rw [HE.out] at hown
   exact ⟨_, rfl, by rw [HNS.out]; exact hdr_owns hown, HB.out.trans (HB2.out.mono HB.out.size)⟩
end Go.Proofs.YtonfkhkalodldabGreatDoor
end
