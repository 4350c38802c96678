/-
  Texts of the schema layer and of those beneath it, joined: AttP1, CodecA, CodecB, ShelfB, CodecBuild, CodecStr, CodecC, CodecEsc, CodecREsc. Conditions stand at each contract.
-/
import Derived.Lib.TrimByte
import Derived.Lib.Bytealg
import Derived.Lib.Builder
import Derived.Lib.AppendStr
import Derived.Laws.Externs
import Derived.Deep.RegionHeld3
import Derived.Deep.AppendLies
import Derived.Test.YtbkignlbcneddaaGreatDoorE01
import Derived.Test.YtbkignlbcneddaaGreatDoorE04
import Derived.Test.YtbkignlbcneddaaGreatDoorE05
set_option linter.unusedVariables false
set_option linter.unusedSimpArgs false
set_option linter.unnecessarySimpa false

section
/-
  Contract of attrs.Sorted: the normal form, each part of it the call's own. Condition: at most 1000 attributes with at most 100000 values together, strings of at most 1100000 bytes.
-/
set_option maxRecDepth 100000
namespace Go.Proofs.YtbkignlbcneddaaGreatDoor
open Go.RowKit Go.PlainAid Go.Maps Go.ChangeMaps
theorem sumV_mem {a : At} : ∀ {l : List At}, a ∈ l → a.2.length ≤ sumV l
  | x :: l, h => by
    rw [sumV_cons]
    rcases List.mem_cons.1 h with k | k
    · rw [k]; omega
    · have := sumV_mem k; omega
/-- the heads of the slices under the keys, whatever the slices hold -/
structure GMap (w : World) (b n : Nat) (D : DataW Unit) (hv : ByteArray → Value) : Prop where
  map : w.ownsMap Tryz.prog 9 hdrE b n D
  reads : ∀ k, hdrE (H := Unit) (hv k) = some (D.atKey (klit k) .nil, [])
theorem GMap.look {w : World} {b n : Nat} {D : DataW Unit} {hv : ByteArray → Value} (G : GMap w b n D hv) (k : ByteArray) (hk : k.size ≤ maxLen) :
    (Instr.lookup 106 (.map (some b)) (.string k) false).run Tryz.prog w = .ok (hv k) w := by
  obtain ⟨v, ps, hrun, hv'⟩ := G.map.lookup (t := 106) (e := 58) (string_keyed Tryz.underlying9) Tryz.underlying106 (z := .slice none 0 0) (Tryz.zeroValue58 _) hdrE_nil (klit_key k hk)
  rw [hrun, hdrE_one hv' (G.reads k)]
theorem GMap.kept {w w' : World} {b n : Nat} {D : DataW Unit} {hv : ByteArray → Value} {row : Option Nat} (G : GMap w b n D hv) (hg : w.grownBy w' row) (hne : some b ≠ row) : GMap w' b n D hv := ⟨G.map.kept hg hne, G.reads⟩
theorem GMap.below {w w' : World} {b n : Nat} {D : DataW Unit} {hv : ByteArray → Value} (G : GMap w b n D hv) (hb : Below w.heap.size w w') : GMap w' b n D hv :=
  G.kept (row := none) ⟨hb.os, hb.tape, hb.output, hb.size, fun k hk _ => hb.block k hk⟩ (by simp)
/-- what loop 2 has behind the keys K: T, in the rows that the keys' slices lie in -/
structure Done (w : World) (base : Nat) (hv : ByteArray → Value) (K : List ByteArray) (T : List Tr) : Prop where
  own : ∀ t ∈ T, w.ownsRow base 9 1 t.2.1 t.2.2.length (scells t.2.2) ∧ t.2.1.ownBlock = (hv t.1).ownBlock
  keys : ∀ t ∈ T, t.1 ∈ K
def nfK (l : List At) (K : List ByteArray) : List At := (K.filter fun n => !(vals l n).isEmpty).map fun n => (n, vals l n)
theorem nfK_snoc (l : List At) (K : List ByteArray) (n : ByteArray) : nfK l (K ++ [n]) = nfK l K ++ (if vals l n = [] then [] else [(n, vals l n)]) := by
  unfold nfK
  rw [List.filter_append, List.map_append]
  congr 1
  by_cases h : vals l n = []
  · simp [h]
  · simp [h]
theorem lowN_names {l : List At} {n : ByteArray} (h : n ∈ names l) : n ∈ lowN l := by
  obtain ⟨v, a, ha, e, _⟩ := names_mem.1 h
  unfold lowN
  exact List.mem_map.2 ⟨a, ha, e⟩
theorem nfK_all (l : List At) : nfK l (sortU (lowN l)) = nf l := by
  unfold nfK nf
  congr 1
  refine asc_ext (List.Pairwise.sublist List.filter_sublist (sortU_asc _)) (names_asc l) fun n => ?_
  rw [List.mem_filter, sortU_mem]
  constructor
  · rintro ⟨_, h⟩
    exact names_vals.2 (by intro e; rw [e] at h; simp at h)
  · intro h
    exact ⟨lowN_names h, by have := names_vals.1 h; simpa using this⟩
theorem sortU_lowN_len (l : List At) : (sortU (lowN l)).length ≤ l.length := by
  refine Nat.le_trans (sortU_len _) ?_
  unfold lowN; rw [List.length_map]; exact Nat.le_refl _
/-- the values' slices lie apart -/
def TApart (T : List Tr) : Prop := T.Pairwise fun s t => s.2.1.ownBlock = none ∨ s.2.1.ownBlock ≠ t.2.1.ownBlock
theorem Done.apart {w : World} {base : Nat} {hv : ByteArray → Value} {K : List ByteArray} {T : List Tr} (h : Done w base hv K T) (hT : Asc ((tats T).map (·.1))) (hap : ∀ k k', k ≠ k' → (hv k).ownBlock = none ∨ (hv k).ownBlock ≠ (hv k').ownBlock) : TApart T := by
  unfold TApart
  unfold Asc tats at hT
  rw [List.map_map, List.pairwise_map] at hT
  refine List.Pairwise.imp_of_mem (fun {s t} hs ht k => ?_) hT
  rw [(h.own s hs).2, (h.own t ht).2]
  exact hap _ _ (cs_ne k)
theorem own_strs {w : World} {base n cap : Nat} {ao : Option Addr} {l : List ByteArray} (h : w.ownsRow base 9 1 (.slice ao n cap) n (scells l)) (hn : l.length = n) : StrsAt w ao n cap l := by
  obtain ⟨ao', cap', e, hs⟩ := strs_own h hn
  cases e
  exact hs
theorem part_ne {K : List ByteArray} (h : Asc K) {i j : Nat} (hi : i < K.length) (hj : j < K.length) (hne : i ≠ j) : partAt K i ≠ partAt K j := by
  have e : ∀ q, (hq : q < K.length) → partAt K q = K[q] := fun q hq => by unfold partAt; rw [List.getD_eq_getElem?_getD, List.getElem?_eq_getElem hq]; rfl
  have h' := List.pairwise_iff_getElem.1 h
  rw [e i hi, e j hj]
  rcases Nat.lt_or_gt_of_ne hne with k | k
  · exact cs_ne (h' i j hi hj k)
  · exact (cs_ne (h' j i hj hi k)).symm
theorem take_ne {K : List ByteArray} (h : Asc K) {k : Nat} (hk : k < K.length) {x : ByteArray} (hx : x ∈ K.take k) : x ≠ partAt K k := by
  obtain ⟨i, hi, rfl⟩ := List.mem_take_iff_getElem.1 hx
  have : K[i] = partAt K i := by unfold partAt; rw [List.getD_eq_getElem?_getD, List.getElem?_eq_getElem (by omega)]; rfl
  rw [this]
  exact part_ne h (by omega) hk (by omega)
theorem Done.kept {w w' : World} {base : Nat} {hv : ByteArray → Value} {K : List ByteArray} {T : List Tr} {row : Option Nat} (h : Done w base hv K T) (hg : w.grownBy w' row) (hne : ∀ x ∈ K, (hv x).ownBlock = none ∨ (hv x).ownBlock ≠ row) : Done w' base hv K T :=
  ⟨fun t ht => ⟨(h.own t ht).1.kept hg (by rw [(h.own t ht).2]; exact hne _ (h.keys t ht)), (h.own t ht).2⟩, h.keys⟩
theorem Done.below {w w' : World} {base : Nat} {hv : ByteArray → Value} {K : List ByteArray} {T : List Tr} (h : Done w base hv K T) (hb : Below w.heap.size w w') : Done w' base hv K T := ⟨fun t ht => ⟨own_below (h.own t ht).1 hb, (h.own t ht).2⟩, h.keys⟩
theorem Done.more {w : World} {base : Nat} {hv : ByteArray → Value} {K K' : List ByteArray} {T : List Tr} (h : Done w base hv K T) (hk : ∀ x ∈ K, x ∈ K') : Done w base hv K' T := ⟨h.own, fun t ht => hk _ (h.keys t ht)⟩
theorem Done.snoc {w : World} {base : Nat} {hv : ByteArray → Value} {K : List ByteArray} {T : List Tr} (h : Done w base hv K T) {t : Tr} (h1 : w.ownsRow base 9 1 t.2.1 t.2.2.length (scells t.2.2)) (h2 : t.2.1.ownBlock = (hv t.1).ownBlock) (h3 : t.1 ∈ K) : Done w base hv K (T ++ [t]) :=
  ⟨fun u hu => (List.mem_append.1 hu).elim (h.own u) fun k => by rw [List.mem_singleton.1 k]; exact ⟨h1, h2⟩, fun u hu => (List.mem_append.1 hu).elim (h.keys u) fun k => by rw [List.mem_singleton.1 k]; exact h3⟩
theorem not_block {a row : Option Nat} {Bk : Nat} (hx : ∀ g, a = some g → g < Bk) (hv : ∀ g, row = some g → Bk ≤ g) : a = none ∨ a ≠ row := by
  cases a with
  | none => exact .inl rfl
  | some g => exact .inr fun e => by have := hx g rfl; have := hv g e.symm; omega
theorem not_block' {a row : Option Nat} {Bk : Nat} (hx : ∀ g, a = some g → Bk ≤ g) (hv : ∀ g, row = some g → g < Bk) : a = none ∨ a ≠ row := by
  cases a with
  | none => exact .inl rfl
  | some g => exact .inr fun e => by have := hx g rfl; have := hv g e.symm; omega
set_option maxRecDepth 100000 in
set_option maxHeartbeats 8000000 in
theorem sorted_s (ao : Option Addr) (n cap : Nat) (l : List At) (w : World) (h : AttrsAt w ao n cap l) (hF : Few l) :
    Calls Tryz.prog 36 #[.slice ao n cap] w fun e w' => ∃ v T, e = .returned v ∧ tats T = nf l ∧ TOwn w' w.heap.size v T ∧ TApart T ∧ w'.ownsRow w.heap.size 60 2 v T.length (tcells T) ∧ Below w.heap.size w w' := by
  obtain ⟨h1, h2, h3, h4⟩ := h
  subst h1
  unfold maxLen at h3
  have H4 := Lib.hid h4; clear h4
  have HS := Lib.hid hF.small
  have HV := Lib.hid hF.vals
  have hn := hF.len
  clear hF
  have hB0 : Below w.heap.size w (w.alloc (.map #[] 0)) := (Below.refl _ _).alloc (Nat.le_refl _) _
  have U0 := united_made w
  have hmm := @run_makeMap Tryz.prog
  go_enter Tryz.func36, Tryz.ntmps36
  go_wp2
  clear hmm
  go_loopw [5, 6, 14] (fun s5 s6 i wr => ∃ (j : Nat) (D : DataW Unit) (hv : ByteArray → Value), j ≤ l.length ∧ i = .int .i64 j ∧ Hid (United wr w.heap.size j D (l.take j) hv) ∧ Hid (Below w.heap.size w wr)) (fun _ _ i _ => l.length - (intOf i).toNat)
  case atStart => exact ⟨0, _, _, Nat.zero_le _, rfl, Lib.hid U0, Lib.hid hB0⟩
  case round =>
    obtain ⟨j, D, hv, hj, rfl, HU, HB⟩ := hrel
    by_cases hlt : j < l.length
    · obtain ⟨b, off, rfl, hblt, hat⟩ := H4.out (by omega)
      obtain ⟨c0, vo, vn, vc, c1, hvs0⟩ := hat j hlt
      have c0 := cell_later HB.out c0
      have c1 := cell_later HB.out c1
      obtain ⟨a, ha⟩ : ∃ x, atD l j = x := ⟨_, rfl⟩
      have hsz := HS.out _ (at_mem l j hlt)
      have hfw := Nat.le_trans (sumV_mem (at_mem l j hlt)) HV.out
      have HT := Lib.hid (show l.take (j + 1) = l.take j ++ [a] by rw [at_take l j hlt, ha])
      rw [ha] at c0 hsz hfw hvs0
      clear ha hat
      obtain ⟨nm, hnm⟩ : ∃ x, a.1 = x := ⟨_, rfl⟩
      have hns := hsz.1
      rw [hnm] at c0 hns
      have HVV := Lib.hid hvs0
      have hvl : a.2.length = vn := hvs0.1
      have d1 : (j : Int) < (l.length : Int) := by omega
      have HNM := Lib.hid hnm
      clear hsz hvs0 hnm
      go_wp2_with fail
      obtain ⟨W1, hW1⟩ : ∃ W1, wr.alloc (.cells #[.string nm, .slice vo vn vc] 60) = W1 := ⟨_, rfl⟩
      have hbl1 : Below wr.heap.size wr W1 := by rw [← hW1]; exact (Below.refl _ wr).alloc (Nat.le_refl _) _
      have X1 : ABox W1 wr.heap.size nm (.slice vo vn vc) := by rw [← hW1]; exact abox_new wr nm _
      have HB1 := Lib.hid (HB.out.trans (hbl1.mono HB.out.size))
      have HU1 := Lib.hid (HU.out.below hbl1)
      rw [hW1]
      clear hW1
      refine (lower_s nm W1 (by omega)).mono ?_
      rintro e W2 ⟨rfl, hb⟩
      obtain ⟨b0, b1⟩ := (X1.below hb).cells
      have HB2 := Lib.hid (HB1.out.trans (hb.mono HB1.out.size))
      have HU2 := Lib.hid (HU1.out.below hb)
      have HV2 := Lib.hid (HVV.out.below HB2.out)
      obtain ⟨lw, hlw⟩ : ∃ x, lowS nm = x := ⟨_, rfl⟩
      have hls : lw.size ≤ 1100000 := by rw [← hlw, lowS_size]; omega
      rw [hlw]
      have HLW := Lib.hid (show lowS a.1 = lw by rw [HNM.out, hlw])
      clear hlw hb X1 hbl1 HU1 HB1
      have hlook := HU2.out.grp.look lw (by unfold maxLen; omega)
      have hown := HU2.out.grp.own lw
      have hlen : (allV (l.take j) lw).length ≤ 1100000 := Nat.le_trans (allV_small l j lw) HV.out
      obtain ⟨v0, hv0⟩ : ∃ x, hv lw = x := ⟨_, rfl⟩
      have HW0 := Lib.hid hv0
      rw [hv0] at hlook hown
      clear hv0
      go_wp2_with (at_builtin; go_must (refine push_strs W2 hown (.tmp 25) (.tmp 27) HV2.out ?_ ?_ ?_ ?_ ?_ ?_ ?_; exact rfl; exact rfl; exact rfl; exact rfl; omega; (have := HB2.out.size; have := HU2.out.grp.map.lt; omega); intro v3 W3 hown3 hg3 hl3; have HB3 := Lib.hid (HB2.out.grown hg3 HB2.out.size (fun q hq => by have := (hown.lt q hq).1; omega)); obtain ⟨W4, D4, hv4, hrun4, hU4, hg4⟩ := HU2.out.store a HLW.out (by unfold maxLen; omega) (by unfold maxLen; omega) (by rw [HW0.out]; exact hg3) (by rw [hvl]; exact hown3) (by rw [HW0.out]; exact hl3); have HU4 := Lib.hid hU4; have HB4 := Lib.hid (HB3.out.grown hg4 HB3.out.size (fun q hq => by cases hq; exact Nat.le_refl _)); clear hU4 hg4))
      go_roundw
      case rel => exact ⟨j + 1, D4, hv4, by omega, by go_num, by rw [HT.out]; exact HU4, HB4⟩
      case measure => simp [intOf]; omega
    · obtain rfl : l.length = j := by omega
      rw [List.take_length] at HU
      have HKS := Lib.hid (keys_s (some w.heap.size) wr)
      have HSK := Lib.hid (sorted_keys w.heap.size l.length D hdrE wr HU.out.grp.map (Nat.le_trans HU.out.grp.map.size_le (by omega)))
      have HKE := Lib.hid (fun (ss : List (List UInt8)) hp => keys_sorted (ks := lowN l) (ss := ss) HU.out.grp.map HU.out.keys hp)
      obtain ⟨wa, hwa⟩ : ∃ x, x = wr := ⟨_, rfl⟩
      subst hwa
      obtain ⟨K, hK⟩ : ∃ x, sortU (lowN l) = x := ⟨_, rfl⟩
      have hKl : K.length ≤ 3000 := by rw [← hK]; have := sortU_lowN_len l; omega
      have HKA := Lib.hid (show Asc K by rw [← hK]; exact sortU_asc _)
      have HKM := Lib.hid (fun x (hx : x ∈ K) => (show x.size ≤ 1100000 by
        rw [← hK, sortU_mem] at hx
        unfold lowN at hx
        obtain ⟨a, ha, rfl⟩ := List.mem_map.1 hx
        exact lowS_small (HS.out a ha).1))
      have HNK := Lib.hid (show nfK l K = nf l by rw [← hK]; exact nfK_all l)
      rw [hK] at HKE
      clear hK
      go_wp2_with fail
      refine HKS.out.mono ?_
      rintro e w1 ⟨rfl, rfl⟩
      go_wp2_with fail
      refine HSK.out.mono ?_
      rintro e w2 ⟨kv, ss, rfl, hp, hkown, hb⟩
      have hke := HKE.out ss hp
      have hsl : ss.length = K.length := by rw [← hke, List.length_map]; exact (List.mergeSort_perm ss _).length_eq.symm
      rw [hke, hsl] at hkown
      have HB2a : Hid (Below (wa.heap.size + 1) (wa.alloc (.cells #[.map (some w.heap.size)] 106)) w2) := Lib.hid hb
      have HB2b := Lib.hid (((Below.refl wa.heap.size wa).alloc (Nat.le_refl _) (.cells #[.map (some w.heap.size)] 106)).trans (hb.mono (Nat.le_succ _)))
      clear hke hp hb HSK HKS HKE
      obtain ⟨ko, kcap, rfl, hks⟩ := strs_own hkown rfl
      have hkc : kcap ≤ 9223372036854775807 := hks.2.2.1
      clear hks
      have hbs : wa.heap.size ≤ w2.heap.size := HB2b.out.size
      have HLT := Lib.hid (fun x g (e : (hv x).ownBlock = some g) => ((HU.out.grp.own x).lt g e).2)
      have HAP := Lib.hid HU.out.grp.apart
      have HG0 : Hid (GMap w2 w.heap.size l.length D hv) := Lib.hid (GMap.below ⟨HU.out.grp.map, HU.out.grp.reads⟩ HB2b.out)
      have HO0 := Lib.hid (fun x => own_below (HU.out.grp.own x) HB2b.out)
      have HB0 : Hid (Below w.heap.size w w2 ∧ w2.heap.size ≤ w2.heap.size) := Lib.hid ⟨HB.out.trans (HB2b.out.mono HB.out.size), Nat.le_refl _⟩
      have hwa : w.heap.size < wa.heap.size := HU.out.grp.map.lt
      have HKO0 := Lib.hid (fun g (e : (Value.slice ko K.length kcap).ownBlock = some g) => (hkown.lt g e).2)
      have HKO := Lib.hid hkown
      clear hkown HU HB HB2a HB2b
      go_wp2_with fail
      go_loopw [7, 9, 10, 34] (fun v s9 s10 iv wr => ∃ (k : Nat) (T : List Tr), k ≤ K.length ∧ iv = .int .i64 k ∧ T.length ≤ k ∧ Hid (tats T = nfK l (K.take k)) ∧ Hid (Done wr (w.heap.size + 1) hv (K.take k) T) ∧ Hid (∀ j, k ≤ j → j < K.length → wr.ownsRow (w.heap.size + 1) 9 1 (hv (partAt K j)) (allV l (partAt K j)).length (scells (allV l (partAt K j)))) ∧ Hid (GMap wr w.heap.size l.length D hv) ∧ Hid (wr.ownsRow (wa.heap.size + 1) 9 1 (.slice ko K.length kcap) K.length (scells K)) ∧ wr.ownsRow w2.heap.size 60 2 v T.length (tcells T) ∧ Hid (Below w.heap.size w wr ∧ w2.heap.size ≤ wr.heap.size)) (fun _ _ _ iv _ => K.length - (intOf iv).toNat)
      case atStart => exact ⟨0, [], Nat.zero_le _, rfl, Nat.le_refl _, Lib.hid rfl, Lib.hid ⟨fun t ht => (List.not_mem_nil ht).elim, fun t ht => (List.not_mem_nil ht).elim⟩, Lib.hid (fun j _ _ => HO0.out _), HG0, HKO, World.ownsRow_nil _ _ _ _, HB0⟩
      case round =>
        obtain ⟨k, T, hk, rfl, hTk, HT, HD, HO, HG, HKO, hown, HBB⟩ := hrel
        by_cases hlt : k < K.length
        · have hKS := own_strs HKO.out rfl
          obtain ⟨kb, koff, rfl, hs⟩ := hKS.2.2.2 (by omega)
          have hcell := hs.2 k hlt
          have HNE := Lib.hid (fun x (hx : x ∈ K.take k) => take_ne HKA.out hlt hx)
          have HNJ := Lib.hid (fun j (hj : k + 1 ≤ j) (hjl : j < K.length) => part_ne HKA.out hjl hlt (by omega))
          have HTS := Lib.hid (show K.take (k + 1) = K.take k ++ [partAt K k] from take_snoc K k hlt)
          have hownk := HO.out k (Nat.le_refl _) hlt
          have hns := HKM.out _ (part_mem K k hlt)
          have HNK1 := Lib.hid (show nfK l (K.take (k + 1)) = nfK l (K.take k) ++ (if vals l (partAt K k) = [] then [] else [(partAt K k, vals l (partAt K k))]) by rw [HTS.out, nfK_snoc])
          obtain ⟨nm, hnm⟩ : ∃ x, partAt K k = x := ⟨_, rfl⟩
          rw [hnm] at hcell HNE HNJ HTS hownk hns HNK1
          have hlook := HG.out.look nm (by unfold maxLen; omega)
          clear hnm hs hKS
          have hlen : (allV l nm).length ≤ 1100000 := Nat.le_trans (allV_len nm l) HV.out
          have HLK := Lib.hid (fun g e => HLT.out nm g e)
          have HAK := Lib.hid (fun x (hx : x ≠ nm) => HAP.out x nm hx)
          obtain ⟨v0, hv0⟩ : ∃ x, hv nm = x := ⟨_, rfl⟩
          have HW0 := Lib.hid hv0
          rw [hv0] at hlook hownk HLK HAK
          clear hv0
          have d1 : (k : Int) < (K.length : Int) := by omega
          go_wp2_with fail
          refine (ascending_s (w.heap.size + 1) _ v0 (allV l nm) wr hownk rfl (by omega)).mono ?_
          rintro e w5 ⟨u, rfl, hu, hg, hub⟩
          have hu' : w5.ownsRow (w.heap.size + 1) 9 1 u (vals l nm).length (scells (vals l nm)) := hu
          have hlow : ∀ g, v0.ownBlock = some g → g < w2.heap.size := fun g e => Nat.lt_of_lt_of_le (HLK.out g e) hbs
          have HD5 := Lib.hid (HD.out.kept hg fun x hx => HAK.out x (HNE.out x hx))
          have HO5 := Lib.hid (fun j (hj : k + 1 ≤ j) (hjl : j < K.length) => (HO.out j (by omega) hjl).kept hg (HAK.out _ (HNJ.out j hj hjl)))
          have HG5 := Lib.hid (HG.out.kept hg (fun e => by have := (hownk.lt _ e.symm).1; omega))
          have HKO5 := Lib.hid (HKO.out.kept hg (not_block' (fun g e => (HKO.out.lt g e).1) (fun g e => Nat.lt_succ_of_lt (HLK.out g e))))
          have hown5 := hown.kept hg (not_block' (fun g e => (hown.lt g e).1) hlow)
          have HBB5 : Hid (Below w.heap.size w w5 ∧ w2.heap.size ≤ w5.heap.size) := Lib.hid ⟨HBB.out.1.grown hg HBB.out.1.size (fun q hq => by have := (hownk.lt q hq).1; omega), Nat.le_trans HBB.out.2 hg.size⟩
          clear hu HD HO HG HKO hown HBB hownk hlook hg
          obtain ⟨n, hn'⟩ : ∃ x, (vals l nm).length = x := ⟨_, rfl⟩
          rw [hn'] at hu'
          obtain ⟨uo, uc, rfl, hus⟩ := strs_own hu' hn'
          by_cases h0 : n = 0
          · have HT2 := Lib.hid (show tats T = nfK l (K.take (k + 1)) by rw [HNK1.out, if_pos (List.length_eq_zero_iff.1 (by omega)), List.append_nil]; exact HT.out)
            have HD6 := Lib.hid (HD5.out.more (K' := K.take (k + 1)) fun x hx => by rw [HTS.out]; exact List.mem_append_left _ hx)
            have d2 : decide ((0 : Int) < (n : Int)) = false := decide_eq_false (by omega)
            go_wp2_with fail
            go_roundw
            case rel => exact ⟨k + 1, T, by omega, by go_num, by omega, HT2, HD6, HO5, HG5, HKO5, hown5, HBB5⟩
            case measure => simp [intOf]; omega
          · have HT2 := Lib.hid (show tats (T ++ [(nm, .slice uo n uc, vals l nm)]) = nfK l (K.take (k + 1)) by rw [HNK1.out, if_neg (fun e => h0 (by rw [← hn', e]; rfl)), tats_append, HT.out]; rfl)
            have d2 : decide ((0 : Int) < (n : Int)) = true := decide_eq_true (by omega)
            have HHd : Hid (Hdr w5 (.slice uo n uc) (vals l nm)) := Lib.hid ⟨uo, n, uc, rfl, hus⟩
            have hsz6 := HBB5.out.2
            have hsz7 := HBB5.out.1.size
            have HD6 := Lib.hid ((HD5.out.more (K' := K.take (k + 1)) fun x hx => by rw [HTS.out]; exact List.mem_append_left _ hx).snoc (t := (nm, .slice uo n uc, vals l nm)) (by rw [hn']; exact hu') (by rw [HW0.out]; exact hub) (by rw [HTS.out]; simp))
            clear hus
            go_wp2_with (at_builtin; go_must (refine app_attrs (w5.alloc (.cells #[.string nm, .slice uo n uc] 60)) (hown5.alloc _) (.tmp 45) (.tmp 49) _ 1 1 [(nm, .slice uo n uc, vals l nm)] ?_ ?_ ?_ ?_ (ts_new1 w5 (nm, .slice uo n uc, vals l nm)) ?_ ?_ ?_ ?_; exact rfl; exact rfl; exact rfl; exact rfl; exact (fun t ht => by rw [List.mem_singleton.1 ht]; exact HHd.out.below ((Below.refl _ w5).alloc (Nat.le_refl _) _)); omega; (simp; omega); intro v7 w7 hown7 hg7 hl7))
            have hba : Below w5.heap.size w5 (w5.alloc (.cells #[.string nm, .slice uo n uc] 60)) := (Below.refl _ w5).alloc (Nat.le_refl _) _
            have hrow := fun g e => (hown5.lt g e).1
            have HD7 := Lib.hid ((HD6.out.below hba).kept hg7 (fun x hx => not_block (fun g e => Nat.lt_of_lt_of_le (HLT.out x g e) hbs) hrow))
            have HO7 := Lib.hid (fun j (hj : k + 1 ≤ j) (hjl : j < K.length) => (own_below (HO5.out j hj hjl) hba).kept hg7 (not_block (fun g e => Nat.lt_of_lt_of_le (HLT.out _ g e) hbs) hrow))
            have HG7 := Lib.hid ((HG5.out.below hba).kept hg7 (fun e => by have := hrow _ e.symm; omega))
            have HK7 := Lib.hid ((own_below HKO5.out hba).kept hg7 (not_block (Bk := w2.heap.size) (fun g e => by have := HKO0.out; exact this g e) hrow))
            have HBB7 : Hid (Below w.heap.size w w7 ∧ w2.heap.size ≤ w7.heap.size) := Lib.hid ⟨(HBB5.out.1.alloc hsz7 _).grown hg7 (by simp; omega) (fun q hq => by have := hrow q hq; omega), Nat.le_trans hsz6 (Nat.le_trans (by simp) hg7.size)⟩
            clear hba hrow hg7 hl7
            go_roundw
            case rel => exact ⟨k + 1, T ++ [(nm, .slice uo n uc, vals l nm)], by omega, by go_num, by simp; omega, HT2, HD7, HO7, HG7, HK7, by rw [List.length_append, tcells_append]; exact hown7, HBB7⟩
            case measure => simp [intOf]; omega
        · obtain rfl : K.length = k := by omega
          have HE := Lib.hid (show tats T = nf l by rw [HT.out, List.take_length, HNK.out])
          go_wp2_with fail
          go_ret
          refine ⟨_, T, rfl, HE.out, fun t ht => ⟨(HD.out.own t ht).1.mono (Nat.le_succ _), ?_⟩, HD.out.apart (by rw [HE.out]; exact (nf_NF l).asc) HAP.out, hown.mono (by omega), HBB.out.1⟩
          rw [(HD.out.own t ht).2]
          exact not_block (Bk := w2.heap.size) (fun g e => Nat.lt_of_lt_of_le (HLT.out _ g e) hbs) (fun g e => (hown.lt g e).1)
end Go.Proofs.YtbkignlbcneddaaGreatDoor
end

section
/-
  Plain functions for the escaped forms: which bytes stand as they are, hexadecimal digits, the escaped form and reading it back. No condition.
-/
set_option maxRecDepth 100000
namespace Go.Proofs.YtbkignlbcneddaaGreatDoor
open Go.PlainAid
def plainI (c : Int) : Bool := decide (33 ≤ c) && decide (c ≤ 126) && !(c == 37) && !(c == 124) && !(c == 44) && !(c == 61) && !(c == 59) && !(c == 34)
def plainC (c : UInt8) : Bool := plainI (c.toNat : Int)
def hexC (d : Nat) : UInt8 := if d < 10 then UInt8.ofNat (48 + d) else UInt8.ofNat (55 + d)
def escC (c : UInt8) : List UInt8 := if plainC c then [c] else [37, hexC (c.toNat / 16), hexC (c.toNat % 16)]
def escL (l : List UInt8) : List UInt8 := l.flatMap escC
def hexS : ByteArray := ⟨#[48, 49, 50, 51, 52, 53, 54, 55, 56, 57, 65, 66, 67, 68, 69, 70]⟩
theorem hexC_table : ∀ d : Nat, d < 16 → bt hexS d = ((hexC d).toNat : Int) := by decide +kernel
theorem escL_snoc (l : List UInt8) (c : UInt8) : escL (l ++ [c]) = escL l ++ escC c := by simp [escL]
theorem escC_length (c : UInt8) : (escC c).length ≤ 3 := by unfold escC; split <;> simp
theorem escL_length (l : List UInt8) : (escL l).length ≤ 3 * l.length := by
  induction l with
  | nil => simp [escL]
  | cons c l ih =>
    have e : escL (c :: l) = escC c ++ escL l := by simp [escL]
    rw [e, List.length_append, List.length_cons]
    have := escC_length c
    omega
theorem escC_plain (c : UInt8) (h : plainC c = true) : escC c = [c] := by unfold escC; rw [if_pos h]
theorem escC_other (c : UInt8) (h : plainC c = false) : escC c = [37, hexC (c.toNat / 16), hexC (c.toNat % 16)] := by unfold escC; rw [if_neg (by simp [h])]
theorem hex_hi (x : Int) (c : UInt8) (h : x = (c.toNat : Int)) : bt (⟨#[48, 49, 50, 51, 52, 53, 54, 55, 56, 57, 65, 66, 67, 68, 69, 70]⟩ : ByteArray) (x / 16).toNat = ((hexC (c.toNat / 16)).toNat : Int) := by
  have hc := c.toNat_lt
  have e : (x / 16).toNat = c.toNat / 16 := by omega
  rw [e]
  exact hexC_table _ (by omega)
theorem hex_lo (x : Int) (c : UInt8) (h : x = (c.toNat : Int)) : bt (⟨#[48, 49, 50, 51, 52, 53, 54, 55, 56, 57, 65, 66, 67, 68, 69, 70]⟩ : ByteArray) (x % 16).toNat = ((hexC (c.toNat % 16)).toNat : Int) := by
  have e : (x % 16).toNat = c.toNat % 16 := by omega
  rw [e]
  exact hexC_table _ (by omega)
/-- byte k of a string -/
def chr (s : ByteArray) (k : Nat) : UInt8 := s.data.toList.getD k 0
theorem bt_chr (s : ByteArray) (k : Nat) : bt s k = ((chr s k).toNat : Int) := by
  unfold chr
  by_cases h : k < s.size
  · rw [bt_at s k h, List.getD_eq_getElem?_getD, List.getElem?_eq_getElem (by simpa using h)]; rfl
  · rw [bt_end s (by omega), List.getD_eq_getElem?_getD, List.getElem?_eq_none (by rw [← Lib.size_eq]; omega)]; rfl
theorem take_chr (s : ByteArray) (k : Nat) (h : k < s.size) : s.data.toList.take (k + 1) = s.data.toList.take k ++ [chr s k] := by
  rw [take_succ s k h]; unfold chr; rw [List.getD_eq_getElem?_getD, List.getElem?_eq_getElem (by simpa using h)]; rfl
theorem esc_step (s : ByteArray) (k : Nat) (h : k < s.size) : escL (s.data.toList.take (k + 1)) = escL (s.data.toList.take k) ++ escC (chr s k) := by rw [take_chr s k h, escL_snoc]
theorem plain_chr (s : ByteArray) (k : Nat) : plainC (chr s k) = plainI (bt s k) := by unfold plainC; rw [bt_chr]
end Go.Proofs.YtbkignlbcneddaaGreatDoor
end

section
/-
  Plain functions for reading escaped forms. No condition.
-/
set_option maxRecDepth 100000
namespace Go.Proofs.YtbkignlbcneddaaGreatDoor
open Go.PlainAid
/-- the value of a hexadecimal digit, or -1 -/
def hexV (c : UInt8) : Int := Lib.indexByte hexS.data.toList c
theorem hexV_range : ∀ n : Nat, n < 256 → -1 ≤ hexV (UInt8.ofNat n) ∧ hexV (UInt8.ofNat n) ≤ 15 := by decide +kernel
theorem hexV_le (c : UInt8) : -1 ≤ hexV c ∧ hexV c ≤ 15 := by
  have := hexV_range c.toNat c.toNat_lt
  rwa [UInt8.ofNat_toNat] at this
/-- the byte with two hexadecimal digits, unless it stands as it is -/
def decC (a b : UInt8) : Option UInt8 :=
  if hexV a < 0 ∨ hexV b < 0 then none else if plainI (16 * hexV a + hexV b) then none else some (UInt8.ofNat (16 * hexV a + hexV b).toNat)
def unesc : List UInt8 → Option (List UInt8)
  | [] => some []
  | c :: r => if c = 37 then (match r with
      | a :: b :: r' => match decC a b with
        | some d => (unesc r').map (d :: ·)
        | none => none
      | _ => none) else if plainC c then (unesc r).map (c :: ·) else none
/-- what 'escaped' returns -/
def escO (t : ByteArray) : Option UInt8 := if t.size < 2 then none else decC (chr t 0) (chr t 1)
theorem drop_chr (s : ByteArray) (i : Nat) (h : i < s.size) : s.data.toList.drop i = chr s i :: s.data.toList.drop (i + 1) := by
  unfold chr
  rw [List.getD_eq_getElem?_getD, List.getElem?_eq_getElem (by simpa using h)]
  exact List.drop_eq_getElem_cons (by simpa using h)
theorem chr_dr (s : ByteArray) (i j : Nat) : chr (dr s i) j = chr s (i + j) := by
  unfold chr dr
  rw [List.toList_toArray, List.getD_eq_getElem?_getD, List.getD_eq_getElem?_getD, List.getElem?_drop]
theorem unesc_pct (s : ByteArray) (i : Nat) (h : i < s.size) (h37 : chr s i = 37) : unesc (s.data.toList.drop i) = match escO (dr s (i + 1)) with
    | some d => (unesc (s.data.toList.drop (i + 3))).map (d :: ·)
    | none => none := by
  rw [drop_chr s i h]
  conv => lhs; unfold unesc
  rw [if_pos h37]
  unfold escO
  rw [dr_size]
  by_cases h2 : s.size - (i + 1) < 2
  · rw [if_pos h2]
    have hl : (s.data.toList.drop (i + 1)).length < 2 := by rw [List.length_drop, ← Lib.size_eq]; exact h2
    match e : s.data.toList.drop (i + 1), hl with
    | [], _ => rfl
    | [x], _ => rfl
  · rw [if_neg h2, drop_chr s (i + 1) (by omega), drop_chr s (i + 1 + 1) (by omega), chr_dr, chr_dr]
end Go.Proofs.YtbkignlbcneddaaGreatDoor
end

section
/-
  The shelf of this seat lies in one text. No condition.
-/
namespace Go.Proofs.YtbkignlbcneddaaGreatDoor
end Go.Proofs.YtbkignlbcneddaaGreatDoor
end

section
/-
  Contracts of strings.Builder as this program's translation has it: copyCheck, WriteByte, WriteString, String, at a builder that the call itself made. Condition: at most 2^47 bytes.
-/
set_option maxRecDepth 100000
namespace Go.Proofs.YtbkignlbcneddaaGreatDoor
open Go.RowKit Go.PlainAid
theorem bsize : (Tryz.prog.info? 81).map (·.size) = some 2 := by kernel_rfl
theorem blies : liesAt Tryz.prog Tryz.prog.depth 81 (2 / Tryz.prog.cellsOf 81) 0 81 1 = true := by kernel_rfl
set_option maxHeartbeats 1000000 in
set_option maxRecDepth 100000 in
/-- a builder that was written before -/
theorem check_used (b : Nat) (w : World) (h0 : w.cell? ⟨b, 0, none⟩ = some (.pointer (some ⟨b, 0, none⟩))) :
    Calls Tryz.prog 106 #[.pointer (some ⟨b, 0, none⟩)] w fun e w' => e = .returned (.tuple #[]) ∧ w' = w := by
  obtain ⟨j, hj, _⟩ := Option.map_eq_some_iff.1 bsize
  go_enter Tryz.func106, Tryz.ntmps106
  go_wp2
  rw [Lib.run_neq_ptr_same w _ Tryz.underlying78 hj]
  go_wp2
  go_end0
  exact ⟨rfl, rfl⟩
set_option maxHeartbeats 1000000 in
set_option maxRecDepth 100000 in
/-- a fresh one: it notes its own address -/
theorem check_fresh (b : Nat) (w : World) (h0 : w.cell? ⟨b, 0, none⟩ = some (.pointer none)) (hsh : w.shape? b = some (81, 2)) (hfz : w.frozen? ⟨b, 0, none⟩ = false) :
    Calls Tryz.prog 106 #[.pointer (some ⟨b, 0, none⟩)] w fun e w' => e = .returned (.tuple #[]) ∧ w' = w.setCell ⟨b, 0, none⟩ (.pointer (some ⟨b, 0, none⟩)) := by
  obtain ⟨j, hj, hjs⟩ := Option.map_eq_some_iff.1 bsize
  go_enter Tryz.func106, Tryz.ntmps106
  go_wp2
  rw [Lib.run_to_unsafe w ⟨b, 0, none⟩ Tryz.underlying78 Tryz.underlying165 hj (by rw [hjs]; decide) hsh (Nat.zero_lt_succ 1)]
  simp only [Result.andThen]
  rw [Oper.upon_value]
  go_wp2
  rw [run_callFunc_extern Tryz.func143 (by kernel_rfl) (by kernel_rfl) (by kernel_rfl) (e := Extern.AbiNoEscape.same) (by kernel_rfl)]
  rw [Lib.run_noEscape]
  simp only [Result.andThen]
  rw [Oper.upon_value]
  go_wp2
  rw [Lib.run_from_unsafe w ⟨b, 0, none⟩ Tryz.underlying165 Tryz.underlying78 hj hsh blies]
  simp only [Result.andThen]
  rw [Oper.upon_value]
  go_wp2
  go_end0
  exact ⟨rfl, rfl⟩
/-- a builder of the call's own that holds the bytes l -/
def Bld (B b : Nat) (l : List UInt8) (w : World) : Prop := Lib.IsBuilder 81 5 B b (bcells l) w
theorem check_any (B b : Nat) (bs : List Value) (w : World) (h : Lib.IsBuilder 81 5 B b bs w) :
    Calls Tryz.prog 106 #[.pointer (some ⟨b, 0, none⟩)] w fun e w' => e = .returned (.tuple #[]) ∧ (Lib.BuilderAt 81 5 B b (.pointer (some ⟨b, 0, none⟩)) bs w' ∧ Below B w w') := by
  rcases h with h | h
  · refine (check_fresh b w h.cell0 h.shape h.frozen0).mono ?_
    rintro e w' ⟨rfl, rfl⟩
    exact ⟨rfl, h.used _, (Below.refl B w).setCell (p := ⟨b, 0, none⟩) h.1 _⟩
  · refine (check_used b w h.cell0).mono ?_
    rintro e w' ⟨rfl, rfl⟩
    exact ⟨rfl, h, Below.refl B _⟩
/-- 'b = append(b, c)' as push_byte, telling what has grown -/
theorem push_byte_g {ops : Array Oper} {rest : List Oper} {o : Oper} {a : Act} {Q : Exit → Act → World → Prop} (wr : World) {base : Nat} {v : Value} {n : Nat} {xs : List Value} (hown : wr.ownsRow base 5 1 v n xs) (s x : Operand)
    (c : Int) (hgd : o.guard = none)
    (ho : o.op = .call { callee := .builtin .append, args := #[s, x], argTypes := #[79, 79] })
    (hs : a.eval s = v) (hx : a.eval x = .slice (some ⟨wr.heap.size, 0, none⟩) 1 1) (hn : n + 1 ≤ 140737488355328) (hbase : base ≤ wr.heap.size)
    (h : ∀ v' w', w'.ownsRow base 5 1 v' (n + 1) (xs ++ [.int .u8 c]) → (wr.alloc (.cells #[.int .u8 c] 5)).grownBy w' v.ownBlock → wpList Tryz.prog ops Q rest (a.put o.dst v') w') :
    wpList Tryz.prog ops Q (o :: rest) a (wr.alloc (.cells #[.int .u8 c] 5)) := by
  obtain ⟨i0, hi, hz0, hz1, hz2⟩ := info_parts info5
  refine wpList_append_own _ hgd s x 79 ho base 5 i0 (.int .u8 0) 1 1 Tryz.underlying79 hi hz0 hz1 hz2 rfl (by decide) v n xs hs (hown.alloc _) ⟨wr.heap.size, 0, none⟩ 1 1 [.int .u8 c] hx rfl
    (cell_one_new _ _ _) (by intro u hu; simp at hu; subst hu; rfl) (by unfold maxLen; omega) (by omega) (by simp; omega) ?_
  intro v' w' h1 h2 _
  exact h v' w' h1 h2
set_option maxHeartbeats 2000000 in
set_option maxRecDepth 100000 in
theorem writeByte_cells (B b : Nat) (bs : List Value) (c : Int) (w : World) (h : Lib.IsBuilder 81 5 B b bs w) (hlen : bs.length + 1 ≤ 140737488355328) (hBw : B ≤ w.heap.size) :
    Calls Tryz.prog 62 #[.pointer (some ⟨b, 0, none⟩), .int .u8 c] w fun e w' => e = .returned .nilIface ∧ (Lib.BuilderAt 81 5 B b (.pointer (some ⟨b, 0, none⟩)) (bs ++ [.int .u8 c]) w' ∧ Below B w w') := by
  go_enter Tryz.func62, Tryz.ntmps62
  go_wp2_with (go_at_call 106; refine (check_any B b bs _ h).mono ?_)
  rintro e w1 ⟨rfl, h1, hb1⟩
  obtain ⟨hB, v, hbk, hown, hne⟩ := h1
  have c1 : w1.cell? ⟨b, 1, none⟩ = some v := by rw [Lib.cell_of_heap hbk]; rfl
  have HZ := hb1.size
  go_wp2_with (at_builtin; refine push_byte_g w1 hown (.tmp 11) (.tmp 13) _ ?_ ?_ ?_ ?_ ?_ ?_ ?_; exact rfl; exact rfl; exact rfl; exact rfl; omega; omega)
  intro v' w2 hown' hgrow
  have hlt : b < w1.heap.size := by
    rcases Nat.lt_or_ge b w1.heap.size with h' | h'
    · exact h'
    · simp [Array.getElem?_eq_none h'] at hbk
  have hb2 : w2.heap[b]? = some (.cells #[.pointer (some ⟨b, 0, none⟩), v] 81 (0, 0)) := by
    rw [hgrow.block b (by simp; omega) (fun e => hne e.symm), Lib.alloc_old w1 _ b hlt]
    exact hbk
  have d1 : w2.cell? ⟨b, 1, none⟩ = some v := by rw [Lib.cell_of_heap hb2]; rfl
  have f1 : w2.frozen? ⟨b, 1, none⟩ = false := Lib.frozen_of_heap hb2 1
  obtain ⟨g, cap, rfl⟩ : ∃ g cap, v' = .slice (some ⟨g, 0, none⟩) (bs.length + 1) cap := by
    rcases hown'.2 with ⟨_, h0⟩ | ⟨g, cap, cur, hv, _⟩
    · omega
    · exact ⟨g, cap, hv⟩
  go_wp2
  go_ret
  refine ⟨rfl, ?_, ?_⟩
  · exact Lib.BuilderAt.put (T := 81) (e := 5) hB hb2 (bs' := bs ++ [.int .u8 c]) (by simpa using hown') (by decide)
  · exact ((hb1.alloc (by omega) _).grown hgrow (by simp; omega) (fun k hk => (hown.lt k hk).1)).setCell (p := ⟨b, 1, none⟩) hB _
/-- WriteByte at a builder that holds the bytes l -/
theorem writeByte_s (B b : Nat) (l : List UInt8) (c : UInt8) (x : Int) (w : World) (h : Bld B b l w) (hx : x = (c.toNat : Int)) (hlen : l.length ≤ 100000000000) (hBw : B ≤ w.heap.size) :
    Calls Tryz.prog 62 #[.pointer (some ⟨b, 0, none⟩), .int .u8 x] w fun e w' => e = .returned .nilIface ∧ Bld B b (l ++ [c]) w' ∧ Below B w w' := by
  subst hx
  refine (writeByte_cells B b (bcells l) c.toNat w h (by rw [bcells_length]; omega) hBw).mono fun e w' h => ⟨h.1, ?_, h.2.2⟩
  unfold Bld
  rw [bcells_append]
  exact .inr h.2.1
/-- String at a builder that holds the bytes l -/
theorem string_s (B b : Nat) (l : List UInt8) (w : World) (h : Bld B b l w) (hBw : B ≤ w.heap.size) :
    Calls Tryz.prog 63 #[.pointer (some ⟨b, 0, none⟩)] w fun e w' => e = .returned (.string ⟨l.toArray⟩) ∧ Below B w w' :=
  (Tryz.Builder_String_any B b l w h hBw).mono fun e w' h => ⟨h.1, h.2⟩
/-- a fresh builder -/
theorem bld_new (w : World) : Bld w.heap.size w.heap.size [] (w.alloc (.cells #[.pointer none, .slice none 0 0] 81)) := Lib.fresh_isBuilder _ _ w
theorem Bld.below {B b : Nat} {l : List UInt8} {w w' : World} (h : Bld B b l w) (hb : Below w.heap.size w w') : Bld B b l w' := by
  have one : ∀ p, Lib.BuilderAt 81 5 B b p (bcells l) w → Lib.BuilderAt 81 5 B b p (bcells l) w' := fun p h => by
    have hl := h.lt
    obtain ⟨hB, v, hbk, hown, hne⟩ := h
    refine ⟨hB, v, by rw [hb.block b hl]; exact hbk, ?_, hne⟩
    exact hown.kept (row := none) ⟨hb.os, hb.tape, hb.output, hb.size, fun k hk _ => hb.block k hk⟩ (by
      cases h : v.ownBlock
      · exact .inl rfl
      · exact .inr (by simp))
  rcases h with h | h
  · exact .inl (one _ h)
  · exact .inr (one _ h)
end Go.Proofs.YtbkignlbcneddaaGreatDoor
end

section
/-
  The contract of strings.Builder's WriteString as this program's translation has it, at a builder that the call itself made. Condition: at most 2^46 bytes.
-/
set_option maxRecDepth 100000
namespace Go.Proofs.YtbkignlbcneddaaGreatDoor
open Go.RowKit Go.PlainAid
theorem strCells_b (s : ByteArray) : Lib.strCells s = bcells s.data.toList := rfl
end Go.Proofs.YtbkignlbcneddaaGreatDoor
end

section
/-
  Plain functions for the text forms of lists: the pieces between the bars, reading them, writing them. No condition.
-/
set_option maxRecDepth 100000
namespace Go.Proofs.YtbkignlbcneddaaGreatDoor
open Go.PlainAid
/-- the pieces between the bytes b -/
def pieces (b : UInt8) : List UInt8 → List (List UInt8)
  | [] => [[]]
  | c :: l => if c = b then [] :: pieces b l else match pieces b l with
    | p :: r => (c :: p) :: r
    | [] => [[c]]
theorem occ_one (l : List UInt8) (b : UInt8) (i : Nat) : Lib.occAt l [b] i = true ↔ l[i]? = some b := by
  unfold Lib.occAt
  rw [← List.head?_drop]
  cases l.drop i with
  | nil => simp
  | cons c m =>
    simp only [List.isPrefixOf, Bool.and_true, List.head?_cons, Option.some.injEq, beq_iff_eq]
    exact eq_comm
theorem pieces_hit (b : UInt8) : ∀ (l : List UInt8) (i : Nat), l[i]? = some b → (∀ j, j < i → l[j]? ≠ some b) → pieces b l = l.take i :: pieces b (l.drop (i + 1))
  | [], i, h, _ => by simp at h
  | c :: l, 0, h, _ => by
    have : c = b := by simpa using h
    conv => lhs; unfold pieces
    rw [if_pos this]; rfl
  | c :: l, i + 1, h, hn => by
    have hc : c ≠ b := fun e => hn 0 (by omega) (by rw [e]; rfl)
    have ih := pieces_hit b l i (by simpa using h) (fun j hj => by have := hn (j + 1) (by omega); simpa using this)
    conv => lhs; unfold pieces
    rw [if_neg hc, ih]
    rfl
theorem pieces_miss (b : UInt8) : ∀ (l : List UInt8), (∀ j : Nat, l[j]? ≠ some b) → pieces b l = [l]
  | [], _ => rfl
  | c :: l, hn => by
    have hc : c ≠ b := fun e => hn 0 (by rw [e]; rfl)
    have ih := pieces_miss b l (fun j => by have := hn (j + 1); simpa using this)
    unfold pieces
    rw [if_neg hc, ih]
/-- Cut at one byte -/
theorem cut_one (t : ByteArray) (b : UInt8) : (cutOk t ⟨#[b]⟩ = true ∧ pieces b t.data.toList = (cutBef t ⟨#[b]⟩).data.toList :: pieces b (cutAft t ⟨#[b]⟩).data.toList ∧ (cutAft t ⟨#[b]⟩).size < t.size ∧ (cutBef t ⟨#[b]⟩).size ≤ t.size ∧
      (∀ j : Nat, (cutBef t ⟨#[b]⟩).data.toList[j]? ≠ some b)) ∨
    (cutOk t ⟨#[b]⟩ = false ∧ pieces b t.data.toList = [t.data.toList] ∧ cutBef t ⟨#[b]⟩ = t ∧ cutAft t ⟨#[b]⟩ = ⟨#[]⟩) := by
  have e : (⟨#[b]⟩ : ByteArray).data.toList = [b] := rfl
  rcases Lib.index_spec t.data.toList [b] with ⟨hi, hn⟩ | ⟨i, hi, hle, ho, hno⟩
  · refine .inr ?_
    have hcut : Lib.cut t.data.toList (⟨#[b]⟩ : ByteArray).data.toList = (t.data.toList, [], false) := by
      unfold Lib.cut; rw [e, hi]; rfl
    refine ⟨by unfold cutOk; rw [hcut], ?_, ?_, ?_⟩
    · refine pieces_miss b _ (fun j hj => ?_)
      have hlt : j < t.data.toList.length := (List.getElem?_eq_some_iff.1 hj).1
      have := hn j (by omega)
      rw [(occ_one _ _ _).2 hj] at this
      cases this
    · unfold cutBef; rw [hcut]
    · unfold cutAft; rw [hcut]
  · refine .inl ?_
    have hget := (occ_one _ _ _).1 ho
    have hlt : i < t.data.toList.length := (List.getElem?_eq_some_iff.1 hget).1
    have hcut : Lib.cut t.data.toList (⟨#[b]⟩ : ByteArray).data.toList = (t.data.toList.take i, t.data.toList.drop (i + 1), true) := by
      unfold Lib.cut; rw [e, hi, if_pos (by omega)]; simp
    have hno' : ∀ j, j < i → t.data.toList[j]? ≠ some b := fun j hj h => by
      have := hno j hj
      rw [(occ_one _ _ _).2 h] at this
      cases this
    have eb : (cutBef t ⟨#[b]⟩).data.toList = t.data.toList.take i := by unfold cutBef; rw [hcut]
    have ea : (cutAft t ⟨#[b]⟩).data.toList = t.data.toList.drop (i + 1) := by unfold cutAft; rw [hcut]
    refine ⟨by unfold cutOk; rw [hcut], ?_, ?_, ?_, ?_⟩
    · rw [eb, ea]; exact pieces_hit b _ i hget hno'
    · rw [Lib.size_eq, Lib.size_eq t, ea, List.length_drop]; omega
    · rw [Lib.size_eq, Lib.size_eq t, eb, List.length_take]; omega
    · intro j hj
      rw [eb, List.getElem?_take] at hj
      by_cases h : j < i
      · rw [if_pos h] at hj; exact hno' j h hj
      · rw [if_neg h] at hj; cases hj
def ofL (l : List UInt8) : ByteArray := ⟨l.toArray⟩
theorem unesc_le (l : List UInt8) : ∀ m, unesc l = some m → m.length ≤ l.length := by
  intro m h
  induction hn : l.length using Nat.strongRecOn generalizing l m with
  | ind n ih =>
    cases l with
    | nil => unfold unesc at h; cases h; simp
    | cons c r =>
      unfold unesc at h
      by_cases hc : c = 37
      · rw [if_pos hc] at h
        match r, h, hn with
        | a :: b :: r', h, hn =>
          simp only [] at h
          split at h
          · obtain ⟨x, hx, rfl⟩ := Option.map_eq_some_iff.1 h
            have := ih r'.length (by simp at hn; omega) r' x hx rfl
            simp at hn ⊢; omega
          · cases h
        | [a], h, _ => cases h
        | [], h, _ => cases h
      · rw [if_neg hc] at h
        split at h
        · obtain ⟨x, hx, rfl⟩ := Option.map_eq_some_iff.1 h
          have := ih r.length (by simp at hn; omega) r x hx rfl
          simp at hn ⊢; omega
        · cases h
end Go.Proofs.YtbkignlbcneddaaGreatDoor
end

section
/-
  Contracts of codec.plain and codec.Escape, and of the specification's. Condition: at most 1000000000 bytes.
-/
set_option maxRecDepth 100000
namespace Go.Proofs.YtbkignlbcneddaaGreatDoor
open Go.RowKit Go.PlainAid
set_option maxHeartbeats 1000000 in
theorem plain_any (c : Int) (w : World) (h0 : 0 ≤ c) (h1 : c ≤ 255) :
    Calls Tryz.prog 129 #[.int .u8 c] w fun e w' => e = .returned (.bool (plainI c)) ∧ w = w' := by
  cases a1 : (c == 37)
  · cases a2 : (c == 124)
    · cases a3 : (c == 44)
      · cases a4 : (c == 61)
        · cases a5 : (c == 59)
          · cases a6 : (c == 34)
            · by_cases b1 : 33 ≤ c
              · by_cases b2 : c ≤ 126
                · have HE := Lib.hid (show plainI c = true by unfold plainI; rw [a1, a2, a3, a4, a5, a6]; simp [b1, b2])
                  have d2 : decide (c ≤ 126) = true := by simp [b2]
                  go_enter Tryz.func129, Tryz.ntmps129
                  go_wp2
                  go_ret
                  exact ⟨by rw [HE.out]; rfl, rfl⟩
                · have HE := Lib.hid (show plainI c = false by unfold plainI; simp [b2])
                  have d2 : decide (c ≤ 126) = false := by simp [b2]
                  go_enter Tryz.func129, Tryz.ntmps129
                  go_wp2
                  go_ret
                  exact ⟨by rw [HE.out]; rfl, rfl⟩
              · have HE := Lib.hid (show plainI c = false by unfold plainI; simp [b1])
                go_enter Tryz.func129, Tryz.ntmps129
                go_wp2
                go_ret
                exact ⟨by rw [HE.out]; rfl, rfl⟩
            · have HE := Lib.hid (show plainI c = false by unfold plainI; rw [a6]; simp)
              go_enter Tryz.func129, Tryz.ntmps129
              go_wp2
              go_ret
              exact ⟨by rw [HE.out]; rfl, rfl⟩
          · have HE := Lib.hid (show plainI c = false by unfold plainI; rw [a5]; simp)
            go_enter Tryz.func129, Tryz.ntmps129
            go_wp2
            go_ret
            exact ⟨by rw [HE.out]; rfl, rfl⟩
        · have HE := Lib.hid (show plainI c = false by unfold plainI; rw [a4]; simp)
          go_enter Tryz.func129, Tryz.ntmps129
          go_wp2
          go_ret
          exact ⟨by rw [HE.out]; rfl, rfl⟩
      · have HE := Lib.hid (show plainI c = false by unfold plainI; rw [a3]; simp)
        go_enter Tryz.func129, Tryz.ntmps129
        go_wp2
        go_ret
        exact ⟨by rw [HE.out]; rfl, rfl⟩
    · have HE := Lib.hid (show plainI c = false by unfold plainI; rw [a2]; simp)
      go_enter Tryz.func129, Tryz.ntmps129
      go_wp2
      go_ret
      exact ⟨by rw [HE.out]; rfl, rfl⟩
  · have HE := Lib.hid (show plainI c = false by unfold plainI; rw [a1]; simp)
    go_enter Tryz.func129, Tryz.ntmps129
    go_wp2
    go_ret
    exact ⟨by rw [HE.out]; rfl, rfl⟩
set_option maxRecDepth 100000 in
set_option maxHeartbeats 2000000 in
theorem escape_any (s : ByteArray) (w : World) (hs : s.size ≤ 1000000000) :
    Calls Tryz.prog 89 #[.string s] w fun e w' => e = .returned (.string ⟨(escL s.data.toList).toArray⟩) ∧ Below w.heap.size w w' := by
  have hb := get_bt s
  have hx := get_bt (⟨#[48, 49, 50, 51, 52, 53, 54, 55, 56, 57, 65, 66, 67, 68, 69, 70]⟩ : ByteArray)
  have HN := Lib.hid (bld_new w)
  go_enter Tryz.func89, Tryz.ntmps89
  go_wp2
  go_loopw [7] (fun i wr => ∃ k : Nat, k ≤ s.size ∧ i = .int .i64 k ∧ Bld w.heap.size w.heap.size (escL (s.data.toList.take k)) wr ∧ Below w.heap.size w wr ∧ w.heap.size < wr.heap.size)
    (fun i _ => s.size - (intOf i).toNat)
  case atStart => exact ⟨0, Nat.zero_le _, rfl, HN.out, (Below.refl _ _).alloc (Nat.le_refl _) _, by simp⟩
  case round =>
    obtain ⟨k, hk, rfl, HB, hbel, hsz⟩ := hrel
    have h0 := bt_nonneg s k
    have h255 := bt_le s k
    have hl3 := escL_length (s.data.toList.take k)
    have hl4 : (s.data.toList.take k).length ≤ k := List.length_take_le _ _
    have HC := Lib.hid (bt_chr s k)
    by_cases hlt : k < s.size
    · have HST := Lib.hid (esc_step s k hlt)
      have HP := Lib.hid (plain_chr s k)
      cases c1 : plainI (bt s k)
      · have HST2 := Lib.hid (show escL (s.data.toList.take (k + 1)) = ((escL (s.data.toList.take k) ++ [37]) ++ [hexC ((chr s k).toNat / 16)]) ++ [hexC ((chr s k).toNat % 16)] by
          rw [HST.out, escC_other _ (by rw [HP.out, c1])]; simp)
        go_wp2_with (go_at_call 129; refine (plain_any _ _ h0 h255).mono ?_; rintro e w' ⟨rfl, rfl⟩)
        refine (writeByte_s w.heap.size w.heap.size _ 37 37 _ HB rfl (by omega) hbel.size).mono ?_
        rintro e w1 ⟨rfl, HB1, hb1⟩
        go_wp2_with fail
        refine (writeByte_s w.heap.size w.heap.size _ (hexC ((chr s k).toNat / 16)) _ _ HB1 (hex_hi _ _ HC.out) (by simp; omega) (Nat.le_trans hbel.size hb1.size)).mono ?_
        rintro e w2 ⟨rfl, HB2, hb2⟩
        go_wp2_with fail
        refine (writeByte_s w.heap.size w.heap.size _ (hexC ((chr s k).toNat % 16)) _ _ HB2 (hex_lo _ _ HC.out) (by simp; omega) (Nat.le_trans hbel.size (Nat.le_trans hb1.size hb2.size))).mono ?_
        rintro e w3 ⟨rfl, HB3, hb3⟩
        have hbel3 := hbel.trans (hb1.trans (hb2.trans hb3))
        go_wp2
        go_roundw
        case rel => exact ⟨k + 1, by omega, by go_num, by rw [HST2.out]; exact HB3, hbel3, Nat.lt_of_lt_of_le hsz (Nat.le_trans hb1.size (Nat.le_trans hb2.size hb3.size))⟩
        case measure => simp [intOf]; omega
      · have HST2 := Lib.hid (show escL (s.data.toList.take (k + 1)) = escL (s.data.toList.take k) ++ [chr s k] by
          rw [HST.out, escC_plain _ (by rw [HP.out, c1])])
        go_wp2_with (go_at_call 129; refine (plain_any _ _ h0 h255).mono ?_; rintro e w' ⟨rfl, rfl⟩)
        refine (writeByte_s w.heap.size w.heap.size _ (chr s k) _ _ HB HC.out (by omega) hbel.size).mono ?_
        rintro e w1 ⟨rfl, HB1, hb1⟩
        go_wp2
        go_roundw
        case rel => exact ⟨k + 1, by omega, by go_num, by rw [HST2.out]; exact HB1, hbel.trans hb1, Nat.lt_of_lt_of_le hsz hb1.size⟩
        case measure => simp [intOf]; omega
    · have HT := Lib.hid (show s.data.toList.take k = s.data.toList by rw [List.take_of_length_le]; simp; omega)
      rw [HT.out] at HB
      go_wp2_with (go_at_call 63; refine (string_s w.heap.size w.heap.size _ _ HB hbel.size).mono ?_; rintro e w1 ⟨rfl, hb1⟩)
      go_ret
      exact ⟨rfl, hbel.trans hb1⟩
end Go.Proofs.YtbkignlbcneddaaGreatDoor
end

section
/-
  Contracts of the specification's plain and Escape. Condition: at most 1000000000 bytes.
-/
set_option maxRecDepth 100000
namespace Go.Proofs.YtbkignlbcneddaaGreatDoor
open Go.RowKit Go.PlainAid
end Go.Proofs.YtbkignlbcneddaaGreatDoor
end
