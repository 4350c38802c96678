/-
  Texts of the schema layer and of those beneath it, joined: EntDf, EntDfW, EntSt, EntDfP, EntTu, EntLn. Conditions stand at each contract.
-/
import Derived.Test.YtonfkhkalodldabGreatDoorP03
import Derived.Test.YtonfkhkalodldabGreatDoorP04
import Derived.Test.YtonfkhkalodldabGreatDoorP07
import Derived.Test.YtonfkhkalodldabGreatDoorP15
import Derived.Test.YtonfkhkalodldabGreatDoorP16
import Derived.Test.YtonfkhkalodldabGreatDoorP17
import Derived.Test.YtonfkhkalodldabGreatDoorP18
set_option linter.unusedVariables false
set_option linter.unusedSimpArgs false
set_option linter.unnecessarySimpa false

section
/-
  Contract of entry.Diff. Condition: names of at most 1100000 bytes, small attributes with few values.
-/
set_option maxRecDepth 100000
set_option maxRecDepth 100000
namespace Go.Proofs.YtonfkhkalodldabGreatDoor
open Go.RowKit Go.PlainAid Go.Maps
theorem has_merge {D1 D2 : DataW Value} {w : World} {b1 n1 b2 n2 : Nat} (h1 : w.ownsMap Tryz.prog 9 rawE b1 n1 D1) (h2 : w.ownsMap Tryz.prog 9 rawE b2 n2 D2) (k : Lit) : Maps.has (Lib.mergeD D1 D2) k = (Maps.has D1 k || Maps.has D2 k) := by
  obtain ⟨es, rfl, _, ks⟩ := h2.canonK (string_keyed Tryz.underlying9)
  show Maps.has (es.foldl (fun D p => D.put p.1 p.2) D1) k = _
  rw [has_foldPut k es D1 h1.isMap (fun p hp => (string_keyed Tryz.underlying9).one.key (ks p hp))]
  rfl
/-- 'l = append(l, m...)' where l is the call's own -/
theorem push_mods {ops : Array Oper} {rest : List Oper} {o : Oper} {a : Act} {Q : Exit → Act → World → Prop} (wr : World) {base base2 : Nat} {v : Value} {n : Nat} {xs : List Value} (hown : wr.ownsRow base 57 3 v n xs) (s x : Operand)
    {v2 : Value} {T : List Mv} (hv : wr.ownsRow base2 57 3 v2 T.length (mcells T)) (hone : ∀ t ∈ T, t.hd.oneCell' = true) (hgd : o.guard = none)
    (ho : o.op = .call { callee := .builtin .append, args := #[s, x], argTypes := #[29, 29] })
    (hs : a.eval s = v) (hx : a.eval x = v2) (hn : n + T.length ≤ 1000000000) (hbase : base ≤ wr.heap.size)
    (h : ∀ v' w', w'.ownsRow base 57 3 v' (n + T.length) (xs ++ mcells T) → wr.grownBy w' v.ownBlock → (v'.ownBlock = v.ownBlock ∨ v'.ownBlock = some wr.heap.size) → wpList Tryz.prog ops Q rest (a.put o.dst v') w') :
    wpList Tryz.prog ops Q (o :: rest) a wr := by
  obtain ⟨i0, hi, hz0, hz1, hz2⟩ := info_parts info_mod
  rcases hv.2 with ⟨rfl, h0⟩ | ⟨g, cap, cur, rfl, _⟩
  · have hT : T = [] := List.length_eq_zero_iff.1 h0
    subst hT
    have hrun : (Builtin.append_ #[29, 29] o.type #[v, .slice none 0 0]).run Tryz.prog wr = .ok v wr := by
      rcases hown.2 with ⟨rfl, _⟩ | ⟨g, cap, cur, rfl, _, _, hc, _⟩
      · exact run_append_nothing wr 29 29 o.type 57 i0 Tryz.underlying29 hi none 0 0 (Nat.le_refl _) _ (Src.ofNil wr Tryz.underlying29 0)
      · exact run_append_nothing wr 29 29 o.type 57 i0 Tryz.underlying29 hi _ _ _ hc _ (Src.ofNil wr Tryz.underlying29 0)
    refine wpList_plain hgd fun K hK => ?_
    unfold Oper.wp execOp
    simp only [ho, resolve, invoke, builtin, Sem.run_bind, Sem.run_pure, Result.andThen_ok, List.map_toArray, List.map_cons, List.map_nil, hs, hx, hrun]
    exact hK _ _ (h v wr (by simpa [mcells] using hown) ⟨rfl, rfl, rfl, Nat.le_refl _, fun _ _ _ => rfl⟩ (.inl rfl))
  · exact wpList_append_own_at _ hgd s x 29 ho base 57 i0 (.agg #[.int .i64 0, .string ⟨#[]⟩, .slice none 0 0]) 3 48 Tryz.underlying29 hi hz0 hz1 hz2 rfl (by decide) v n xs hs hown ⟨g, 0, none⟩ T.length cap (mcells T) hx (mcells_len T)
      (fun j u hj => hv.cells (g := g) rfl j u hj) (mcells_one hone) (by unfold maxLen; omega) (by omega) hbase (fun v' w' k1 k2 _ k4 => h v' w' k1 k2 k4)
theorem DvI.one {w W : World} {v : Value} {T : List Mv} (h : DvI w v T W) : ∀ t ∈ T, t.hd.oneCell' = true := fun t ht => by
  obtain ⟨ao, cap, e⟩ := row_slice (h.own t ht).1
  rw [e]; rfl
theorem DvI.app {w W5 W w' : World} {vL v v' : Value} {TL T : List Mv} (h : DvI w vL TL W5) (k : DvI W5 v T W) (hrow : w'.ownsRow w.heap.size 57 3 v' (TL.length + T.length) (mcells TL ++ mcells T)) (hg : W.grownBy w' vL.ownBlock) (hl : v'.ownBlock = vL.ownBlock ∨ v'.ownBlock = some W.heap.size) : DvI w v' (TL ++ T) w' := by
  have hl' : v'.ownBlock = vL.ownBlock ∨ ∃ g, v'.ownBlock = some g ∧ W.heap.size ≤ g := hl.imp id fun e => ⟨_, e, Nat.le_refl _⟩
  refine ⟨?_, ((h.own.below k.low).grown hg hl').app fun t ht => ?_, (h.low.trans (k.low.mono h.low.size)).grown hg (Nat.le_trans h.low.size k.low.size) (fun q hq => (h.row.lt q hq).1)⟩
  · rw [List.length_append]
    unfold mcells at hrow ⊢
    rw [List.flatMap_append]; exact hrow
  · obtain ⟨r1, r2⟩ := k.own t ht
    have hne : t.hd.ownBlock = none ∨ t.hd.ownBlock ≠ vL.ownBlock := by
      cases hk : t.hd.ownBlock with
      | none => exact .inl rfl
      | some q => exact .inr fun e => by have := (r1.lt q hk).1; have := (h.row.lt q e.symm).2; omega
    refine ⟨row_lower (r1.kept hg hne) h.low.size, ?_⟩
    cases hk : t.hd.ownBlock with
    | none => exact .inl rfl
    | some q =>
      refine .inr fun e => ?_
      have hlt := (r1.lt q hk).2
      rcases hl with z | z
      · rw [hk] at hne
        rcases hne with c | c
        · cases c
        · exact c (e.trans z)
      · have := Option.some.inj (e.trans z); omega
theorem DvI.lower {w W0 W : World} {v : Value} {T : List Mv} (h : DvI W0 v T W) (hw : Below w.heap.size w W0) : DvI w v T W :=
  ⟨row_lower h.row hw.size, h.own.mono hw.size, hw.trans (h.low.mono hw.size)⟩
/-- the modifications that turn the one list of attributes into the other -/
def difL (a b : List At) : List Md := (sortU (names a ++ names b)).flatMap fun n => dif1 n (vals a n) (vals b n)
def enD (ea : ByteArray) (a : List At) (eb : ByteArray) (b : List At) : List Md := if enC ea a ≠ 0 ∨ enC eb b ≠ 0 then [] else difL a b
theorem VnM.look {W : World} {base b N : Nat} {f : ByteArray → Option Value} {l : List At} (h : VnM W base b N f l) (p : ByteArray) (hp : p.size ≤ maxLen) :
    ∃ ao n cap, (Instr.lookup 63 (.map (some b)) (.string p) false).run Tryz.prog W = .ok (.slice ao n cap) W ∧ StrsAt W ao n cap (vals l p) := by
  have hr := MapVal.look (t := 63) (e := 38) (z := .slice none 0 0) (.inr ⟨b, N, rfl, h.map⟩) Tryz.underlying63 (Tryz.zeroValue38 _) p hp
  cases e : f p with
  | none =>
    rw [e] at hr
    have h1 : memB (names l) p = false := by rw [← h.is p, e]; rfl
    have h2 : vals l p = [] := Classical.not_not.1 fun k => by
      have := memB_iff.2 (names_vals.2 k); rw [h1] at this; cases this
    rw [h2]
    exact ⟨none, 0, 0, hr, strs_nil W⟩
  | some v =>
    rw [e] at hr
    obtain ⟨ao, cap, e2, hs⟩ := strs_own (h.own p v e) rfl
    rw [e2] at hr
    exact ⟨ao, _, cap, hr, hs⟩
theorem chk_of {en : ByteArray} {l : List At} (h : enC en l = 0) : chkA l = 0 := by
  unfold enC at h
  split at h
  · cases h
  · exact h
theorem enD_no {ea eb : ByteArray} {a b : List At} (h : enC ea a ≠ 0 ∨ enC eb b ≠ 0) : enD ea a eb b = [] := if_pos h
theorem enD_yes {ea eb : ByteArray} {a b : List At} (h : enC ea a = 0) (k : enC eb b = 0) : enD ea a eb b = difL a b := if_neg (fun q => q.elim (fun z => z h) (fun z => z k))
end Go.Proofs.YtonfkhkalodldabGreatDoor
end

section
/-
  Contract of entry.Diff: its walk. Condition: names of at most 1100000 bytes, small attributes with few values.
-/
set_option maxRecDepth 100000
set_option maxRecDepth 100000
namespace Go.Proofs.YtonfkhkalodldabGreatDoor
open Go.RowKit Go.PlainAid Go.Maps
theorem map_below {w w' : World} {b n : Nat} {D : DataW Value} (h : w.ownsMap Tryz.prog 9 rawE b n D) (hb : Below w.heap.size w w') : w'.ownsMap Tryz.prog 9 rawE b n D :=
  h.kept (row := none) ⟨hb.os, hb.tape, hb.output, hb.size, fun k hk _ => hb.block k hk⟩ (by simp)
theorem vals_fewE {l : List At} (h : LightE (nf l)) (p : ByteArray) : (vals l p).length ≤ 20 := by
  by_cases e : vals l p = []
  · rw [e]; simp
  · exact (h.each (p, vals l p) (nf_mem.2 ⟨rfl, e⟩)).len
theorem names_fewE {l : List At} (h : LightE (nf l)) : (names l).length ≤ 40 := by rw [← nf_lenN]; exact h.len
theorem names_szE {l : List At} (h : LightE (nf l)) {p : ByteArray} (hp : p ∈ names l) : p.size ≤ 1100000 := by
  have := (h.each (p, vals l p) (nf_mem.2 ⟨rfl, names_vals.1 hp⟩)).nm
  simp only at this
  omega
theorem dif1_len (n : ByteArray) (a b : List ByteArray) : (dif1 n a b).length ≤ 2 := by
  unfold dif1
  split
  · simp
  · split
    · simp
    · split
      · split <;> simp
      · split <;> simp
/-- the union of the two maps has the names of both -/
theorem union_keys {W : World} {b5 b6 N5 N6 : Nat} {D5 D6 : DataW Value} {f5 f6 : ByteArray → Option Value} {a b : List At} (h5 : W.ownsMap Tryz.prog 9 rawE b5 N5 D5) (h6 : W.ownsMap Tryz.prog 9 rawE b6 N6 D6)
    (k5 : ∀ k, Maps.has D5 (klit k) = (f5 k).isSome) (k6 : ∀ k, Maps.has D6 (klit k) = (f6 k).isSome) (i5 : ∀ k, (f5 k).isSome = memB (names a) k) (i6 : ∀ k, (f6 k).isSome = memB (names b) k) (k : ByteArray) :
    Maps.has (Lib.mergeD D5 D6) (klit k) = true ↔ k ∈ names a ++ names b := by
  rw [has_merge h5 h6, k5, k6, i5, i6, Bool.or_eq_true, memB_iff, memB_iff, List.mem_append]
/-- what the loop keeps over the world at its start -/
def DfI (wK : World) (K : List ByteArray) (a b : List At) (i : Nat) (v : Value) (wr : World) : Prop :=
  ∃ T, DvI wK v T wr ∧ mmds T = ((K.take i).flatMap fun n => dif1 n (vals a n) (vals b n)) ∧ T.length ≤ 2 * i
theorem DfI.next {wK W w5 w' : World} {K : List ByteArray} {a b : List At} {i : Nat} {TL T5 : List Mv} {v v5 v' : Value} (hi : i < K.length) (h : DvI wK v TL W) (hm : mmds TL = ((K.take i).flatMap fun n => dif1 n (vals a n) (vals b n))) (hl : TL.length ≤ 2 * i)
    (k : DvI W v5 T5 w5) (hm5 : mmds T5 = dif1 (partAt K i) (vals a (partAt K i)) (vals b (partAt K i)))
    (hrow : w'.ownsRow wK.heap.size 57 3 v' (TL.length + T5.length) (mcells TL ++ mcells T5)) (hg : w5.grownBy w' v.ownBlock) (hlb : v'.ownBlock = v.ownBlock ∨ v'.ownBlock = some w5.heap.size) : DfI wK K a b (i + 1) v' w' := by
  refine ⟨TL ++ T5, h.app k hrow hg hlb, ?_, ?_⟩
  · unfold mmds at hm hm5 ⊢
    rw [List.map_append, hm, hm5, take_snoc K i hi, List.flatMap_append, List.flatMap_cons, List.flatMap_nil, List.append_nil]
  · have h1 : T5.length = (dif1 (partAt K i) (vals a (partAt K i)) (vals b (partAt K i))).length := by rw [← hm5]; unfold mmds; rw [List.length_map]
    have h2 := dif1_len (partAt K i) (vals a (partAt K i)) (vals b (partAt K i))
    rw [List.length_append]; omega
set_option maxHeartbeats 16000000 in
theorem diff_s (ea : ByteArray) (ao : Option Addr) (n cap : Nat) (a : List At) (eb : ByteArray) (bo : Option Addr) (m dap : Nat) (b : List At) (w : World) (hea : ea.size ≤ 1100000) (heb : eb.size ≤ 1100000) (ha : AttrsAt w ao n cap a) (hb : AttrsAt w bo m dap b) (hSa : SmallA a) (hFa : FewV a) (hSb : SmallA b) (hFb : FewV b) :
    Calls Tryz.prog 9 #[.agg #[.string ea, .slice ao n cap], .agg #[.string eb, .slice bo m dap]] w fun e w' => DvP (enD ea a eb b) w e w' := by
  have HA := Lib.hid ha
  have HO := Lib.hid hb
  clear ha hb
  have hb0 : Below w.heap.size w ((w.alloc (.cells #[.string ea, .slice ao n cap] 28)).alloc (.cells #[.string eb, .slice bo m dap] 28)) := (below_al w _).alloc (by simp) _
  have HK := Lib.hid (And.intro ((kbl_new w (.cells #[.string ea, .slice ao n cap] 28)).step (below_al _ (.cells #[.string eb, .slice bo m dap] 28)))
    (show Kb ((w.alloc (.cells #[.string ea, .slice ao n cap] 28)).alloc (.cells #[.string eb, .slice bo m dap] 28)) (w.heap.size + 1) (.cells #[.string eb, .slice bo m dap] 28) by
      have := kbl_new (w.alloc (.cells #[.string ea, .slice ao n cap] 28)) (.cells #[.string eb, .slice bo m dap] 28)
      simpa using this))
  have HC1 := Lib.hid (enCheck_s ea ao n cap a _ hea (HA.out.below hb0) hSa hFa)
  have HC2 := Lib.hid (fun (V : World) (hV : Below w.heap.size w V) => enCheck_s eb bo m dap b V heb (HO.out.below hV) hSb hFb)
  have HB0 := Lib.hid hb0
  obtain ⟨c1, hc1⟩ : ∃ c, enC ea a = c := ⟨_, rfl⟩
  obtain ⟨c2, hc2⟩ : ∃ c, enC eb b = c := ⟨_, rfl⟩
  rw [hc1] at HC1
  rw [hc2] at HC2
  have HE := Lib.hid (And.intro hc1 hc2)
  obtain ⟨x0, x1⟩ : ((w.alloc (.cells #[.string ea, .slice ao n cap] 28)).alloc (.cells #[.string eb, .slice bo m dap] 28)).cell? ⟨w.heap.size, 0, none⟩ = some (.string ea) ∧ ((w.alloc (.cells #[.string ea, .slice ao n cap] 28)).alloc (.cells #[.string eb, .slice bo m dap] 28)).cell? ⟨w.heap.size, 1, none⟩ = some (.slice ao n cap) := ⟨HK.out.1.cell rfl, HK.out.1.cell rfl⟩
  clear hb0 hc1 hc2
  go_enter Tryz.func9, Tryz.ntmps9
  go_wp2_with fail
  refine HC1.out.mono ?_
  rintro e w1 ⟨rfl, hb⟩
  have HB1 := Lib.hid (HB0.out.trans (hb.mono HB0.out.size))
  have HK1 := Lib.hid (And.intro (HK.out.1.step hb) (HK.out.2.step hb))
  clear hb x0 x1 HC1 HB0 HK
  by_cases h1 : c1 = 0
  · subst h1
    obtain ⟨y0, y1⟩ : w1.cell? ⟨w.heap.size + 1, 0, none⟩ = some (.string eb) ∧ w1.cell? ⟨w.heap.size + 1, 1, none⟩ = some (.slice bo m dap) := ⟨HK1.out.2.cell rfl, HK1.out.2.cell rfl⟩
    go_wp2_with fail
    refine (HC2.out w1 HB1.out).mono ?_
    rintro e w2 ⟨rfl, hb⟩
    have HB2 := Lib.hid (HB1.out.trans (hb.mono HB1.out.size))
    have HK2 := Lib.hid (And.intro (HK1.out.1.step hb) (HK1.out.2.step hb))
    clear hb y0 y1 HC2 HB1 HK1
    by_cases h2 : c2 = 0
    · subst h2
      have HLa := Lib.hid (chk_light (chk_of HE.out.1))
      have HLb := Lib.hid (chk_light (chk_of HE.out.2))
      have HNa := Lib.hid (chk_light (nf_chk (chk_of HE.out.1)))
      have HNb := Lib.hid (chk_light (nf_chk (chk_of HE.out.2)))
      obtain ⟨x1, y1⟩ : w2.cell? ⟨w.heap.size, 1, none⟩ = some (.slice ao n cap) ∧ w2.cell? ⟨w.heap.size + 1, 1, none⟩ = some (.slice bo m dap) := ⟨HK2.out.1.cell rfl, HK2.out.2.cell rfl⟩
      have HBd : Hid (Below w.heap.size w w2.drew ∧ w.heap.size ≤ w2.drew.heap.size) := Lib.hid ⟨HB2.out.drew, HB2.out.size⟩
      have hs2 : w.heap.size ≤ w2.heap.size := HB2.out.size
      go_wp2_with fail
      refine wp_region_held_drew (S := fun W => W.cell? ⟨w.heap.size, 1, none⟩ = some (.slice ao n cap) ∧ W.cell? ⟨w.heap.size + 1, 1, none⟩ = some (.slice bo m dap) ∧ Hid (Below w.heap.size w W ∧ w.heap.size ≤ W.heap.size)) (by kernel_rfl) (⟨x1, y1, HBd⟩) (fun hS => ?_)
      refine wpAnyH_take (i := 0) (oi := { dst := some 19, op := _, type := _, pos := _, after := _, guard := _ }) (v := ?_) rfl (by kernel_rfl) (by kernel_rfl) (by kernel_rfl) (fun _ _ _ h => h) (Or.inl ⟨by rfl, ?_⟩) (by assumption) ?_
      rotate_left
      · intro w hSw
        try dsimp only at hSw
        go_simp
        try with_reducible rfl
      try simp only [Act.put, List.setIfInBounds_toArray, List.set_cons_zero, List.set_cons_succ]
      refine wpAnyH_take (i := 1) (oi := { dst := some 20, op := _, type := _, pos := _, after := _, guard := _ }) (v := ?_) rfl (by kernel_rfl) (by kernel_rfl) (by kernel_rfl) (fun _ _ _ h => h) (Or.inl ⟨by rfl, ?_⟩) (by assumption) ?_
      rotate_left
      · intro w hSw
        try dsimp only at hSw
        go_simp
        try with_reducible rfl
      try simp only [Act.put, List.setIfInBounds_toArray, List.set_cons_zero, List.set_cons_succ]
      refine wpAnyH_take (i := 3) (oi := { dst := some 22, op := _, type := _, pos := _, after := _, guard := _ }) (v := ?_) rfl (by kernel_rfl) (by kernel_rfl) (by kernel_rfl) (fun _ _ _ h => h) (Or.inl ⟨by rfl, ?_⟩) (by assumption) ?_
      rotate_left
      · intro w hSw
        try dsimp only at hSw
        go_simp
        try with_reducible rfl
      try simp only [Act.put, List.setIfInBounds_toArray, List.set_cons_zero, List.set_cons_succ]
      refine wpAnyH_take (i := 4) (oi := { dst := some 23, op := _, type := _, pos := _, after := _, guard := _ }) (v := ?_) rfl (by kernel_rfl) (by kernel_rfl) (by kernel_rfl) (fun _ _ _ h => h) (Or.inl ⟨by rfl, ?_⟩) (by assumption) ?_
      rotate_left
      · intro w hSw
        try dsimp only at hSw
        go_simp
        try with_reducible rfl
      try simp only [Act.put, List.setIfInBounds_toArray, List.set_cons_zero, List.set_cons_succ]
      refine wpAnyH_ready (rs := [2]) (by kernel_rfl) (by simp) ?_
      refine AllReadyH.cons rfl (fun K hK => ?_) AllReadyH.nil
      go_simp
      refine (valuesByName_s ao n cap a _ (HA.out.below HBd.out.1) HLa.out HNa.out).mono ?_
      rintro e w5 hv5
      obtain ⟨b5, N5, f5, rfl, hle5, hV5, hb5⟩ := hv5
      have HV5 := Lib.hid hV5
      have HBe := Lib.hid (HBd.out.1.trans (hb5.mono HBd.out.2))
      clear hV5
      go_wp2_with fail
      refine hK.out _ _ ?_ (fun hHeld => ?_)
      · exact keep2b (by assumption) hb5
      clear hK K
      try simp only [Act.put, List.setIfInBounds_toArray, List.set_cons_zero, List.set_cons_succ]
      refine wpAnyH_ready (rs := [5]) (by kernel_rfl) (by simp) ?_
      refine AllReadyH.cons rfl (fun K hK => ?_) AllReadyH.nil
      go_simp
      refine (valuesByName_s bo m dap b _ (HO.out.below HBe.out) HLb.out HNb.out).mono ?_
      rintro e w6 hv6
      obtain ⟨b6, N6, f6, rfl, hle6, hV6, hb6⟩ := hv6
      have HV6 := Lib.hid hV6
      clear hV6
      go_wp2_with fail
      refine hK.out _ _ ?_ (fun hHeld => ?_)
      · exact keep2b (by assumption) hb6
      clear hK K
      try simp only [Act.put, List.setIfInBounds_toArray, List.set_cons_zero, List.set_cons_succ]
      refine wpAnyH_take (i := 6) (oi := { dst := some 5, op := _, type := _, pos := _, after := _, guard := _ }) (v := ?_) rfl (by kernel_rfl) (by kernel_rfl) (by kernel_rfl) (fun _ _ _ h => h) (Or.inl ⟨by rfl, ?_⟩) (by assumption) ?_
      rotate_left
      · intro w hSw
        try dsimp only at hSw
        go_simp
        try with_reducible rfl
      try simp only [Act.put, List.setIfInBounds_toArray, List.set_cons_zero, List.set_cons_succ]
      refine wpAnyH_take (i := 7) (oi := { dst := some 6, op := _, type := _, pos := _, after := _, guard := _ }) (v := ?_) rfl (by kernel_rfl) (by kernel_rfl) (by kernel_rfl) (fun _ _ _ h => h) (Or.inl ⟨by rfl, ?_⟩) (by assumption) ?_
      rotate_left
      · intro w hSw
        try dsimp only at hSw
        go_simp
        try with_reducible rfl
      try simp only [Act.put, List.setIfInBounds_toArray, List.set_cons_zero, List.set_cons_succ]
      refine wpAnyH_done (by kernel_rfl) ?_ _
      have HB6 := Lib.hid (HBe.out.trans (hb6.mono HBe.out.size))
      have h56 : b5 ≠ b6 := by have := HV5.out.map.lt; omega
      have HV5b := Lib.hid (HV5.out.below hb6)
      obtain ⟨D5, hm5, hf5⟩ := HV5b.out.map
      obtain ⟨D6, hm6, hf6⟩ := HV6.out.map
      have h5l : b5 < w6.heap.size := hm5.lt
      have h6l : b6 < w6.heap.size := hm6.lt
      have HM := Lib.hid (And.intro hm5 hm6)
      have HF := Lib.hid (And.intro hf5 hf6)
      have HCl : Hid (Calls Tryz.prog 28 #[.map (some b5)] w6 fun e w' => e = .returned (.map (some w6.heap.size)) ∧ w'.ownsMap Tryz.prog 9 rawE w6.heap.size N5 D5 ∧ w'.ownsMap Tryz.prog 9 rawE b5 N5 D5 ∧ Below w6.heap.size w6 w') := Lib.hid (AnyW.maps_Clone_owns Tryz.mclone 9 rawE b5 N5 D5 w6 hm5)
      clear hm5 hm6 hf5 hf6 HV5 HBe hb6 hb5 hle5 hle6 x1 y1 HBd
      go_wp2_with fail
      refine HCl.out.mono ?_
      rintro e w7 ⟨rfl, hc7, _, hb7⟩
      have HN5 := HV5b.out.few
      have HN6 := HV6.out.few
      have hD6 : Maps.size D6 ≤ 40 := Nat.le_trans HM.out.2.size_le HN6
      have HCo : Hid (Calls Tryz.prog 29 #[.map (some w6.heap.size), .map (some b6)] w7 fun e w' => e = .returned (.tuple #[]) ∧ w'.ownsMap Tryz.prog 9 rawE w6.heap.size (N5 + Maps.size D6) (Lib.mergeD D5 D6) ∧ w'.ownsMap Tryz.prog 9 rawE b6 N6 D6 ∧ w7.grownBy w' (some w6.heap.size)) :=
        Lib.hid (AnyX.maps_Copy Tryz.mcopy (string_keyed Tryz.underlying9) rawE w6.heap.size b6 N5 N6 D5 D6 w7 hc7 (map_below HM.out.2 hb7) (Nat.ne_of_gt h6l) (by unfold maxLen; omega))
      have HB7 := Lib.hid hb7
      clear hc7 hb7 HCl
      go_wp2_with fail
      refine HCo.out.mono ?_
      rintro e w8 ⟨rfl, hu8, _, hg8⟩
      have HB8 := Lib.hid (HB7.out.grown hg8 HB7.out.size (fun q hq => by cases hq; exact Nat.le_refl _))
      have HKS := Lib.hid (keys_s (some w6.heap.size) w8)
      have HSK := Lib.hid (sorted_keys w6.heap.size (N5 + Maps.size D6) (Lib.mergeD D5 D6) rawE w8 hu8 (Nat.le_trans hu8.size_le (by omega)))
      have HKE := Lib.hid (fun (ss : List (List UInt8)) hp => keys_sorted (ks := names a ++ names b) (ss := ss) hu8 (union_keys HM.out.1 HM.out.2 (fun k => (HF.out.1 k).1) (fun k => (HF.out.2 k).1) HV5b.out.is HV6.out.is) hp)
      have HV5c := Lib.hid (HV5b.out.below HB8.out)
      have HV6c := Lib.hid (HV6.out.below HB8.out)
      have HB8w := Lib.hid (HB6.out.trans (HB8.out.mono HB6.out.size))
      clear hu8 hg8 HCo HB7 HM HF HV5b HV6
      obtain ⟨K, hK⟩ : ∃ x, sortU (names a ++ names b) = x := ⟨_, rfl⟩
      have HKd := Lib.hid hK
      have hKl : K.length ≤ 80 := by
        rw [← hK]
        have h1 := sortU_len (names a ++ names b)
        rw [List.length_append] at h1
        have h2 := names_fewE HNa.out
        have h3 := names_fewE HNb.out
        omega
      have HKM := Lib.hid (fun x (hx : x ∈ K) => (show x.size ≤ 1100000 by
        rw [← HKd.out, sortU_mem] at hx
        exact (List.mem_append.1 hx).elim (names_szE HNa.out) (names_szE HNb.out)))
      rw [hK] at HKE
      clear hK
      obtain ⟨c6, hc6⟩ : ∃ x, w6.heap.size = x := ⟨_, rfl⟩
      rw [hc6] at HKS HSK
      rw [hc6]
      clear hc6
      go_wp2_with fail
      refine HKS.out.mono ?_
      rintro e w9 ⟨rfl, rfl⟩
      go_wp2_with fail
      refine HSK.out.mono ?_
      rintro e wK ⟨kv, ss, rfl, hp, hkown, hbk⟩
      have hke := HKE.out ss hp
      have hsl : ss.length = K.length := by rw [← hke, List.length_map]; exact (List.mergeSort_perm ss _).length_eq.symm
      rw [hke, hsl] at hkown
      have hbA : Below w8.heap.size w8 wK := (below_al w8 _).trans (hbk.mono (Nat.le_succ _))
      have HBK := Lib.hid (HB8w.out.trans (hbA.mono HB8w.out.size))
      have HVa := Lib.hid (HV5c.out.below hbA)
      have HVb := Lib.hid (HV6c.out.below hbA)
      obtain ⟨ko, kcap, rfl, hks⟩ := strs_own hkown rfl
      have HKs := Lib.hid hks
      obtain ⟨k, hk⟩ : ∃ x, K.length = x := ⟨_, rfl⟩
      rw [hk] at HKs hKl ⊢
      have HKl := Lib.hid hk
      have hkc : kcap ≤ 9223372036854775807 := HKs.out.2.2.1
      have hkk : k ≤ kcap := HKs.out.2.1
      clear hks hkown hbk hke hsl hp hk hbA HSK HKS HKE HV5c HV6c HB8w HB8
      have HI0 := Lib.hid (show DfI wK K a b 0 (.slice none 0 0) wK from ⟨[], DvI.nil (Below.refl _ _), rfl, Nat.zero_le _⟩)
      go_wp2_with fail
      go_loopw [8, 10, 34] (fun s8 _ s34 wr => ∃ (i : Nat), i ≤ k ∧ s34 = .int .i64 i ∧ Hid (DfI wK K a b i s8 wr)) (fun _ _ s34 _ => k - (intOf s34).toNat)
      case atStart => exact ⟨0, Nat.zero_le _, rfl, HI0⟩
      case round =>
        clear HI0
        obtain ⟨i, hi, rfl, HI⟩ := hrel
        by_cases hlt : i < k
        · have d1 : (i : Int) < (k : Int) := by omega
          obtain ⟨T, hD, hmm, hTl⟩ := HI.out
          have HD := Lib.hid hD
          have HT := Lib.hid hmm
          have hiK : i < K.length := by rw [HKl.out]; exact hlt
          obtain ⟨g, off, rfl, _, hc⟩ := (HKs.out.below HD.out.low).2.2.2 (by omega)
          have hcell := hc i hiK
          have HPm := Lib.hid (part_mem K i hiK)
          obtain ⟨p, hp⟩ : ∃ x, partAt K i = x := ⟨_, rfl⟩
          have HP := Lib.hid hp
          rw [hp] at hcell HPm
          have hps := HKM.out p HPm.out
          obtain ⟨ao5, n5, cp5, hl5, hs5⟩ := (HVa.out.below HD.out.low).look p (by unfold maxLen; omega)
          obtain ⟨ao6, n6, cp6, hl6, hs6⟩ := (HVb.out.below HD.out.low).look p (by unfold maxLen; omega)
          have HDv := Lib.hid (diffValues_s p ao5 ao6 n5 n6 cp5 cp6 (vals a p) (vals b p) _ hs5 hs6 (by have := vals_fewE HNa.out p; rw [hs5.1] at this; omega) (by have := vals_fewE HNb.out p; rw [hs6.1] at this; omega))
          clear hD hmm hc hp hs5 hs6
          go_wp2_with fail
          refine HDv.out.mono ?_
          intro e w5 hdv
          obtain ⟨v5, T5, rfl, hT5, hD5⟩ := hdv
          obtain ⟨xo, xc, rfl⟩ := row_slice hD5.row
          have HD5 := Lib.hid hD5
          have HT5 := Lib.hid hT5
          have hown := own_below HD.out.row HD5.out.low
          have hsz5 : wK.heap.size ≤ w5.heap.size := Nat.le_trans HD.out.low.size HD5.out.low.size
          have hl2 : T5.length ≤ 2 := by
            have h1 := congrArg List.length HT5.out
            unfold mmds at h1
            rw [List.length_map] at h1
            rw [h1]; exact dif1_len _ _ _
          clear hD5 hT5 HDv hl5 hl6
          go_wp2_with (at_builtin; go_must (refine push_mods w5 hown (.tmp 38) (.tmp 46) HD5.out.row HD5.out.one ?_ ?_ ?_ ?_ ?_ ?_ ?_; exact rfl; exact rfl; exact rfl; exact rfl; omega; exact hsz5; intro v6 w6' g1 g2 g3; obtain ⟨vo6, vc6, rfl⟩ := row_slice g1; have HI6 := Lib.hid (DfI.next hiK HD.out HT.out hTl HD5.out (by rw [HP.out]; exact HT5.out) g1 g2 g3); clear g1 g2 g3))
          go_roundw
          case rel => exact ⟨i + 1, by omega, by go_num, HI6⟩
          case measure => simp [intOf]; omega
        · obtain rfl : i = k := by omega
          have d1 : ¬ (i : Int) < (i : Int) := by omega
          go_wp2_with fail
          go_ret
          obtain ⟨T, hD, hmm, _⟩ := HI.out
          refine ⟨_, T, rfl, ?_, hD.lower HBK.out⟩
          rw [enD_yes HE.out.1 HE.out.2]
          unfold difL
          rw [HKd.out, hmm, ← HKl.out, List.take_length]
    · have d1 : (c2 != 0) = true := by simpa using h2
      go_wp2_with fail
      go_ret
      exact ⟨_, [], rfl, by rw [enD_no (.inr (by rw [HE.out.2]; exact h2))]; rfl, DvI.nil HB2.out⟩
  · have d1 : (c1 != 0) = true := by simpa using h1
    go_wp2_with fail
    go_ret
    exact ⟨_, [], rfl, by rw [enD_no (.inl (by rw [HE.out.1]; exact h1))]; rfl, DvI.nil HB1.out⟩
end Go.Proofs.YtonfkhkalodldabGreatDoor
end

section
/-
  A normal entry is its own normal form, and what Apply returns is normal. No condition.
-/
set_option maxRecDepth 100000
set_option maxRecDepth 100000
namespace Go.Proofs.YtonfkhkalodldabGreatDoor
open Go.RowKit Go.PlainAid
theorem firstE_each {f : Nat → Int} {m : Nat} (h : firstE f m = 0) (j : Nat) (hj : j < m) : f j = 0 := by
  induction j using Nat.strongRecOn with
  | _ j ih =>
    by_cases e : f j = 0
    · exact e
    · exact absurd ((firstE_hit (fun k hk => ih k hk (Nat.lt_trans hk hj)) e hj).symm.trans h) e
theorem ty_low (T : List Ty) (n : ByteArray) : tyOf T (lowS n) = tyOf T n := by unfold tyOf; rw [lowS_low]
theorem nrm_low1 (T : List Ty) (n v : ByteArray) : nrmE T (lowS n) v = nrmE T n v ∧ nrmV T (lowS n) v = nrmV T n v := by
  unfold nrmE nrmV; rw [ty_low]; exact ⟨rfl, rfl⟩
theorem nrm_again {T : List Ty} {n v : ByteArray} (h : nrmE T n v = 0) : nrmE T n (nrmV T n v) = 0 ∧ nrmV T n (nrmV T n v) = nrmV T n v := by
  unfold nrmE nrmV at *
  cases e : tyOf T n with
  | none => rw [e] at h; cases h
  | some t =>
    rw [e] at h
    simp only at h ⊢
    unfold normE at h ⊢
    cases f : normS t.syn v with
    | none => rw [f] at h; cases h
    | some g =>
      rw [Option.getD_some, norm_again f]
      exact ⟨rfl, rfl⟩
/-- a value in normal form -/
def NrV (T : List Ty) (n v : ByteArray) : Prop := nrmE T n v = 0 ∧ nrmV T n v = v
theorem NrV.low {T : List Ty} {n v : ByteArray} (h : NrV T n v) : NrV T (lowS n) v := by unfold NrV; rw [(nrm_low1 T n v).1, (nrm_low1 T n v).2]; exact h
theorem fms_id {T : List Ty} {n : ByteArray} : ∀ {vs : List ByteArray}, (∀ v ∈ vs, NrV T n v) → fmsL T n vs = vs
  | [], _ => rfl
  | v :: vs, h => by
    have ih := fms_id (vs := vs) fun x hx => h x (by simp [hx])
    unfold fmsL at ih ⊢
    rw [List.map_cons, ih, (h v (by simp)).2]
theorem fmsE_all {T : List Ty} {n : ByteArray} {vs : List ByteArray} (h : fmsE T n vs = 0) : ∀ v ∈ vs, nrmE T n v = 0 := fun v hv => by
  obtain ⟨j, hj, e⟩ := List.mem_iff_getElem.1 hv
  by_cases h0 : nrmE T n v = 0
  · exact h0
  · exfalso
    have key : ∀ (f : Nat → Int) (m : Nat), firstE f m = 0 → ∀ j, j < m → f j = 0 := fun f m => firstE_each
    have := key _ _ h j hj
    rw [part_get vs j hj, e] at this
    exact h0 this
theorem nv_ok {T : List Ty} {n : ByteArray} {vs : List ByteArray} (h : nvE T n vs = 0) : fmsE T n vs = 0 ∧ (fmsL T n vs).Nodup := by
  unfold nvE at h
  split at h
  · rename_i k; exact absurd h k
  · rename_i k
    split at h
    · rename_i q; exact ⟨Classical.not_not.1 k, q⟩
    · cases h
theorem fms_nr {T : List Ty} {n : ByteArray} {vs : List ByteArray} (h : nvE T n vs = 0) : ∀ v ∈ fmsL T n vs, NrV T n v := fun v hv => by
  obtain ⟨u, hu, rfl⟩ := List.mem_map.1 hv
  exact nrm_again (fmsE_all (nv_ok h).1 u hu)
/-- attributes whose values are in normal form -/
def NrA (T : List Ty) (l : List At) : Prop := ∀ n v, v ∈ vals l n → NrV T n v
theorem NrA.at {T : List Ty} {l : List At} (h : NrA T l) (hN : NF l) {a : At} (ha : a ∈ l) : ∀ v ∈ a.2, NrV T a.1 v := fun v hv => h a.1 v (by rw [nf_get hN ha]; exact hv)
theorem nra_nm {T : List Ty} {l : List At} (h : NrA T l) (hN : NF l) : nmE T l = 0 ∧ nmL T l = l := by
  constructor
  · refine firstE_zero fun j hj => ?_
    have ha := at_mem l j hj
    have h1 := h.at hN ha
    have h2 : fmsE T (atD l j).1 (atD l j).2 = 0 := firstE_zero fun k hk => (h1 _ (part_mem _ k hk)).1
    exact (nvE_ok h2 (by rw [fms_id h1]; exact asc_nodup (hN.vasc _ ha))).1
  · unfold nmL
    have : ∀ a ∈ l, (a.1, sortU (fmsL T a.1 a.2)) = a := fun a ha => by rw [fms_id (h.at hN ha), sortU_id (hN.vasc a ha)]
    exact (List.map_congr_left this).trans (List.map_id' l)
theorem nm_nra {T : List Ty} {L : List At} (hN : NF L) (h : nmE T L = 0) : NrA T (nmL T L) := fun n v hv => by
  have hF := nm_NF (T := T) hN
  rw [vals_mem, hl_low hF.low, hs_nm] at hv
  obtain ⟨a, ha, rfl, hm⟩ := hv
  obtain ⟨j, hj, rfl⟩ := mem_at ha
  have key : ∀ (f : Nat → Int) (m : Nat), firstE f m = 0 → ∀ j, j < m → f j = 0 := fun f m => firstE_each
  exact fms_nr (key _ _ h j hj) v hm
/-- what is normal -/
structure NmE (T : List Ty) (cs : List Cl) (en : ByteArray) (l : List At) : Prop where
  nz : en ≠ ⟨#[]⟩
  nm : Nam.cleanE en = 0 ∧ Nam.cleanV en = en
  chk : chkA l = 0
  nof : NF l
  nr : NrA T l
  vld : vldE T cs l = 0
theorem NmE.en {T : List Ty} {cs : List Cl} {en : ByteArray} {l : List At} (h : NmE T cs en l) : enE T cs en l = 0 ∧ enN T cs en l = en ∧ enL T cs en l = l ∧ nmL T (nf l) = l := by
  obtain ⟨h1, h2⟩ := nra_nm h.nr h.nof
  have h0 : enE T cs en l = 0 := by
    unfold enE
    rw [if_neg (by rw [h.nm.1, h.nm.2]; exact fun k => k.elim (fun e => e rfl) h.nz), if_neg (by rw [h.chk]; exact fun e => e rfl), nf_id h.nof, if_neg (by rw [h1]; exact fun e => e rfl), h2, h.vld]
  have h3 : nmL T (nf l) = l := by rw [nf_id h.nof, h2]
  unfold enN enL
  rw [if_pos h0, if_pos h0, h3]
  exact ⟨h0, h.nm.2, (by first | rfl | exact h3), (by first | rfl | exact h3)⟩
theorem en_nm {T : List Ty} {cs : List Cl} {en : ByteArray} {l : List At} (h : enE T cs en l = 0) : NmE T cs (enN T cs en l) (enL T cs en l) := by
  have hN : enN T cs en l = Nam.cleanV en := if_pos h
  have hL : enL T cs en l = nmL T (nf l) := if_pos h
  rw [hN, hL]
  unfold enE at h
  split at h
  · cases h
  · rename_i k1
    split at h
    · rename_i k; exact absurd h k
    · rename_i k2
      split at h
      · rename_i k; exact absurd h k
      · rename_i k3
        have c0 : Nam.cleanE en = 0 := Classical.not_not.1 fun e => k1 (.inl e)
        obtain ⟨_, c1, c2⟩ := Nam.clean_again c0
        exact ⟨fun e => k1 (.inr e), ⟨c2, c1⟩, nm_chk (Classical.not_not.1 k2) (Classical.not_not.1 k3), nm_NF (nf_NF l), nm_nra (nf_NF l) (Classical.not_not.1 k3), h⟩
/-! ### modifications -/
theorem with_nra {T : List Ty} {l : List At} {name : ByteArray} {us : List ByteArray} (h : NrA T l) (hu : ∀ v ∈ us, NrV T (lowS name) v) : NrA T (withL l name us) := fun n v hv => by
  by_cases e : n = lowS name
  · subst e
    rw [vals_with, sortU_mem] at hv
    exact hu v hv
  · rw [vals_other e] at hv
    exact h n v hv
theorem mod_nra {T : List Ty} {l : List At} {m : Md} (h : NrA T l) (he : (modR T l m).2 = 0) : NrA T (modR T l m).1 ∧ NF (modR T l m).1 := by
  by_cases h1 : m.op = 1 ∨ m.op = 2 ∨ m.op = 3
  · cases ht : (tyOf T m.name).isSome
    · rw [mod_type h1 ht] at he; cases he
    · by_cases hc : nvE T m.name m.vs = 0
      · have hf : ∀ v ∈ fmsL T m.name m.vs, NrV T (lowS m.name) v := fun v hv => (fms_nr hc v hv).low
        have hv : ∀ v ∈ vals l (lowS m.name), NrV T (lowS m.name) v := fun v hv => h _ v hv
        rcases h1 with h1 | h1 | h1
        · rw [mod_add h1 ht hc] at he ⊢
          rw [(add_ok he).eq]
          exact ⟨with_nra h fun v hv' => (List.mem_append.1 hv').elim (hv v) (hf v), nf_NF _⟩
        · rw [mod_rem h1 ht hc] at he ⊢
          rw [(rem_ok he).eq]
          exact ⟨with_nra h fun v hv' => hv v (List.mem_filter.1 hv').1, nf_NF _⟩
        · rw [mod_rep h1 ht hc] at he ⊢
          rw [(rep_ok he).eq]
          exact ⟨with_nra h hf, nf_NF _⟩
      · rw [mod_val h1 ht rfl hc] at he; exact absurd he hc
  · rw [mod_op h1] at he; cases he
theorem mods_nra {T : List Ty} : ∀ {ms : List Md} {l : List At}, NrA T l → NF l → chkA l = 0 → (modsR T l ms).2 = 0 → NrA T (modsR T l ms).1 ∧ NF (modsR T l ms).1 ∧ chkA (modsR T l ms).1 = 0
  | [], l, h, hN, hk, _ => ⟨h, hN, hk⟩
  | m :: ms, l, h, hN, hk, he => by
    by_cases h0 : (modR T l m).2 = 0
    · have e : modsR T l (m :: ms) = modsR T (modR T l m).1 ms := if_pos h0
      rw [e] at he ⊢
      obtain ⟨k1, k2⟩ := mod_nra h h0
      exact mods_nra k1 k2 (mod_chk hk h0) he
    · rw [mods_no rfl h0] at he; exact absurd he h0
/-- what Apply returns is normal -/
theorem ap_nm {T : List Ty} {cs : List Cl} {en : ByteArray} {l : List At} {ms : List Md} (hn : NmE T cs en l) (h : apE T cs en l ms = 0) : NmE T cs (apN T cs en l ms) (apL T cs en l ms) := by
  have hN : apN T cs en l ms = en := if_pos h
  have hL : apL T cs en l ms = (modsR T l ms).1 := if_pos h
  rw [hN, hL]
  unfold apE at h
  split at h
  · cases h
  · split at h
    · cases h
    · split at h
      · rename_i k; exact absurd h k
      · rename_i k
        obtain ⟨k1, k2, k3⟩ := mods_nra hn.nr hn.nof hn.chk (Classical.not_not.1 k)
        exact ⟨hn.nz, hn.nm, k3, k2, k1, h⟩
end Go.Proofs.YtonfkhkalodldabGreatDoor
end

section
/-
  The specification's merge of two sorted lists of attributes, as lists; modifications in a slice whose values lie in rows that the call laid. No condition.
-/
set_option maxRecDepth 100000
set_option maxRecDepth 100000
namespace Go.Proofs.YtonfkhkalodldabGreatDoor
open Go.RowKit Go.PlainAid
theorem minus_all {a b : List ByteArray} (h : (minusL a b).length = a.length) : minusL b a = b := by
  have hs : minusL a b = a := (List.filter_sublist (l := a)).eq_of_length h
  unfold minusL
  refine List.filter_eq_self.2 fun v hv => ?_
  have hn : v ∉ a := fun hva => by
    have := List.filter_eq_self.1 hs v hva
    rw [memB_iff.2 hv] at this; cases this
  cases e : memB a v
  · rfl
  · exact absurd (memB_iff.1 e) hn
/-- modifications in a slice that the loop laid; their values lie in rows that the call laid -/
structure RvI (w wL : World) (v : Value) (T : List Mv) (W : World) : Prop where
  row : W.ownsRow wL.heap.size 57 3 v T.length (mcells T)
  own : MOwn W w.heap.size v T
  low : Below wL.heap.size wL W
theorem RvI.nil {w wL W : World} (h : Below wL.heap.size wL W) : RvI w wL (.slice none 0 0) [] W := ⟨World.ownsRow_nil _ _ _ _, (fun t ht => by cases ht), h⟩
theorem RvI.below {w wL W V : World} {v : Value} {T : List Mv} (h : RvI w wL v T W) (hb : Below W.heap.size W V) : RvI w wL v T V := ⟨own_below h.row hb, h.own.below hb, h.low.trans (hb.mono h.low.size)⟩
theorem RvI.push {w wL W w' : World} {v v' : Value} {T : List Mv} (h : RvI w wL v T W) {op : Int} {nm : ByteArray} {vs : List ByteArray} {hd : Value} (hh : W.ownsRow w.heap.size 9 1 hd vs.length (scells vs)) (hne : hd.ownBlock = none ∨ hd.ownBlock ≠ v.ownBlock) (o : Obj)
    (hown : w'.ownsRow wL.heap.size 57 3 v' (T.length + 1) (mcells T ++ [.int .i64 op, .string nm, hd])) (hg : (W.alloc o).grownBy w' v.ownBlock) (hl : v'.ownBlock = v.ownBlock ∨ ∃ g, v'.ownBlock = some g ∧ W.heap.size < g) : RvI w wL v' (T ++ [⟨⟨op, nm, vs⟩, hd⟩]) w' := by
  have hal := below_al W o
  have hl' : v'.ownBlock = v.ownBlock ∨ ∃ g, v'.ownBlock = some g ∧ (W.alloc o).heap.size ≤ g := hl.imp id fun ⟨g, e, q⟩ => ⟨g, e, by simp; omega⟩
  refine ⟨?_, ((h.own.below hal).grown hg hl').app fun t ht => ?_, (h.low.trans (hal.mono h.low.size)).grown hg (by have := h.low.size; simp; omega) (fun k hk => (h.row.lt k hk).1)⟩
  · rw [List.length_append]
    unfold mcells
    rw [List.flatMap_append, List.flatMap_cons, List.flatMap_nil, List.append_nil]
    exact hown
  · rw [List.mem_singleton.1 ht]
    refine ⟨(own_below hh hal).kept hg hne, ?_⟩
    show hd.ownBlock = none ∨ hd.ownBlock ≠ v'.ownBlock
    cases hk : hd.ownBlock with
    | none => exact .inl rfl
    | some k =>
      refine .inr fun e => ?_
      have hlt := (hh.lt k hk).2
      rcases hl with q | ⟨g, q, hq⟩
      · rw [hk] at hne
        rcases hne with c | c
        · cases c
        · exact c (e.trans q)
      · have := Option.some.inj (e.trans q); omega
/-- a row that lies ahead of the loop's start is apart from the modifications -/
theorem RvI.apart {w wL W : World} {v : Value} {T : List Mv} (h : RvI w wL v T W) {u : Value} {n base : Nat} {xs : List Value} {e : TypeId} {size : Nat} (k : wL.ownsRow base e size u n xs) : u.ownBlock = none ∨ u.ownBlock ≠ v.ownBlock := by
  cases hu : u.ownBlock with
  | none => exact .inl rfl
  | some g => exact .inr fun q => by have := (k.lt g hu).2; have := (h.row.lt g q.symm).1; omega
end Go.Proofs.YtonfkhkalodldabGreatDoor
end

section
/-
  The difference of two normal entries, if both together have at most 32 attributes, turns the first one's attributes into the second one's. No condition.
-/
set_option maxRecDepth 100000
set_option maxRecDepth 100000
namespace Go.Proofs.YtonfkhkalodldabGreatDoor
open Go.RowKit Go.PlainAid
theorem nodup_sub_len : ∀ {l K : List ByteArray}, l.Nodup → (∀ x ∈ l, x ∈ K) → l.length ≤ K.length
  | [], K, _, _ => Nat.zero_le _
  | x :: l, K, hd, hs => by
    have h1 := List.nodup_cons.1 hd
    obtain ⟨s, t, rfl⟩ := List.append_of_mem (hs x (by simp))
    have h2 := nodup_sub_len (l := l) (K := s ++ t) h1.2 fun y hy => by
      have h3 := hs y (by simp [hy])
      rcases List.mem_append.1 h3 with h3 | h3
      · exact List.mem_append.2 (.inl h3)
      · rcases List.mem_cons.1 h3 with h3 | h3
        · rw [h3] at hy; exact absurd hy h1.1
        · exact List.mem_append.2 (.inr h3)
    simp only [List.length_append, List.length_cons] at h2 ⊢
    omega
theorem nodup_take_no {l : List ByteArray} (h : l.Nodup) {j : Nat} (hj : j < l.length) : memB (l.take j) (partAt l j) = false := by
  cases e : memB (l.take j) (partAt l j)
  · rfl
  · exfalso
    obtain ⟨i, hi, k⟩ := List.mem_iff_getElem.1 (memB_iff.1 e)
    rw [List.length_take] at hi
    rw [List.getElem_take, part_get l j hj] at k
    exact List.pairwise_iff_getElem.1 h i j (by omega) hj (by omega) k
theorem names_low {l : List At} {n : ByteArray} (h : n ∈ names l) : lowS n = n := by
  obtain ⟨v, a, _, e, _⟩ := names_mem.1 h
  rw [← e, lowS_low]
theorem vals_withn {l : List At} {n : ByteArray} {us : List ByteArray} (hn : lowS n = n) (m : ByteArray) : vals (withL l n us) m = if m = n then sortU us else vals l m := by
  by_cases e : m = n
  · subst e
    rw [if_pos rfl]
    have := vals_with (l := l) (name := m) (us := us)
    rwa [hn] at this
  · rw [if_neg e]
    exact vals_other (by rw [hn]; exact e)
theorem nf_short {l : List At} {K : List ByteArray} (hN : NF l) (h : ∀ m, vals l m ≠ [] → m ∈ K) : l.length ≤ K.length := by
  have e : l.map (·.1) = names l := by conv => lhs; rw [← nf_id hN]
                                       exact nf_names l
  have := nodup_sub_len (l := l.map (·.1)) (K := K) (asc_nodup hN.asc) fun m hm => h m (names_vals.1 (by rw [← e]; exact hm))
  rwa [List.length_map] at this
theorem nrv_ok {T : List Ty} {n : ByteArray} {us : List ByteArray} (h : ∀ v ∈ us, NrV T n v) (hd : us.Nodup) : nvE T n us = 0 := by
  have h2 : fmsE T n us = 0 := firstE_zero fun k hk => (h _ (part_mem _ k hk)).1
  exact (nvE_ok h2 (by rw [fms_id h]; exact hd)).1
theorem NrV.clean {T : List Ty} {n v : ByteArray} (h : NrV T n v) : cleanB v = true := by have := nrm_clean h.1; rwa [h.2] at this
theorem NrV.typed {T : List Ty} {n v : ByteArray} (h : NrV T n v) : (tyOf T n).isSome = true := by
  have := h.1
  unfold nrmE at this
  cases e : tyOf T n with
  | none => rw [e] at this; cases this
  | some t => rfl
theorem step_rem {T : List Ty} {l : List At} {n : ByteArray} {us : List ByteArray} (hn : lowS n = n) (hb : nameB n = true) (ht : (tyOf T n).isSome = true) (hr : ∀ v ∈ us, NrV T n v) (hd : us.Nodup) (hne : vals l n ≠ []) (hin : ∀ v ∈ us, v ∈ vals l n) :
    modR T l ⟨2, n, us⟩ = (withL l n (leftV (vals l n) us), 0) := by
  rw [mod_rem (m := ⟨2, n, us⟩) rfl ht (nrv_ok hr hd)]
  show remR l n (fmsL T n us) = _
  rw [fms_id hr]
  unfold remR
  rw [hn, if_neg (by rw [hb]; decide), if_neg (fun e => hne (List.length_eq_zero_iff.1 e)), if_neg (fun k => k (firstE_zero fun j hj => by
    unfold errR
    have hm := memB_iff.2 (hin _ (part_mem us j hj))
    simp [hm, nodup_take_no hd hj]))]
theorem step_add {T : List Ty} {l : List At} {n : ByteArray} {us : List ByteArray} (hn : lowS n = n) (hb : nameB n = true) (ht : (tyOf T n).isSome = true) (hr : ∀ v ∈ us, NrV T n v) (hd : us.Nodup) (hne : us ≠ []) (hnew : ∀ v ∈ us, v ∉ vals l n)
    (h16 : (vals l n ++ us).length ≤ 16) (h32 : (withL l n (vals l n ++ us)).length ≤ 32) : modR T l ⟨1, n, us⟩ = (withL l n (vals l n ++ us), 0) := by
  rw [mod_add (m := ⟨1, n, us⟩) rfl ht (nrv_ok hr hd)]
  show addR l n (fmsL T n us) = _
  rw [fms_id hr]
  unfold addR
  rw [hn, if_neg (by rw [hb]; decide), if_neg (fun e => hne (List.length_eq_zero_iff.1 e)), if_neg (fun k => k (fit_chk ⟨fun v hv => (hr v hv).clean, hd, hnew⟩))]
  unfold limR
  rw [if_neg (by omega)]
theorem step_rep {T : List Ty} {l : List At} {n : ByteArray} {us : List ByteArray} (hn : lowS n = n) (hb : nameB n = true) (ht : (tyOf T n).isSome = true) (hr : ∀ v ∈ us, NrV T n v) (hd : us.Nodup)
    (h16 : us.length ≤ 16) (h32 : (withL l n us).length ≤ 32) : modR T l ⟨3, n, us⟩ = (withL l n us, 0) := by
  rw [mod_rep (m := ⟨3, n, us⟩) rfl ht (nrv_ok hr hd)]
  show repR l n (fmsL T n us) = _
  rw [fms_id hr]
  unfold repR
  rw [if_neg (by rw [hb]; decide), if_neg (fun k => k (fit_chk ⟨fun v hv => (hr v hv).clean, hd, fun _ _ h => by cases h⟩))]
  unfold limR
  rw [if_neg (by omega)]
theorem minus_mem {a b : List ByteArray} {v : ByteArray} : v ∈ minusL a b ↔ v ∈ a ∧ v ∉ b := by
  unfold minusL
  rw [List.mem_filter]
  constructor
  · rintro ⟨h, k⟩
    exact ⟨h, fun e => by rw [memB_iff.2 e] at k; cases k⟩
  · rintro ⟨h, k⟩
    refine ⟨h, ?_⟩
    cases e : memB b v
    · rfl
    · exact absurd (memB_iff.1 e) k
theorem minus_nil {a b : List ByteArray} (h : ¬ 0 < (minusL a b).length) : ∀ v ∈ a, v ∈ b := fun v hv => Classical.byContradiction fun e => h (List.length_pos_of_mem (minus_mem.2 ⟨hv, e⟩))
theorem minus_nd {a b : List ByteArray} (h : a.Nodup) : (minusL a b).Nodup := h.sublist List.filter_sublist
theorem left_mem {old vs : List ByteArray} {v : ByteArray} (h0 : 0 < vs.length) : v ∈ leftV old vs ↔ v ∈ old ∧ v ∉ vs := by
  unfold leftV
  rw [List.mem_filter, decide_eq_true h0, Bool.true_and]
  constructor
  · rintro ⟨h, k⟩
    exact ⟨h, fun e => by rw [memB_iff.2 e] at k; cases k⟩
  · rintro ⟨h, k⟩
    refine ⟨h, ?_⟩
    cases e : memB vs v
    · rfl
    · exact absurd (memB_iff.1 e) k
/-- the attributes when the names of P are done -/
structure Tn (a b : List At) (P : List ByteArray) (l : List At) : Prop where
  nof : NF l
  val : ∀ n, (n ∈ P → vals l n = vals b n) ∧ (n ∉ P → vals l n = vals a n)
/-- a name of one of both entries -/
structure NmK (T : List Ty) (a b : List At) (n : ByteArray) : Prop where
  low : lowS n = n
  nm : nameB n = true
  ty : (tyOf T n).isSome = true
  nrA : ∀ v ∈ vals a n, NrV T n v
  nrB : ∀ v ∈ vals b n, NrV T n v
  some : vals a n ≠ [] ∨ vals b n ≠ []
  cntB : (vals b n).length ≤ 16
theorem nm_facts {T : List Ty} {cs : List Cl} {e : ByteArray} {a : List At} (h : NmE T cs e a) {n : ByteArray} (hn : n ∈ names a) : lowS n = n ∧ nameB n = true ∧ (tyOf T n).isSome = true := by
  obtain ⟨v, hv⟩ := names_mem.1 hn
  have hl := hv
  obtain ⟨x, hx, ex, hvx⟩ := hv
  have hxn : x.1 = n := (h.nof.low x hx).symm.trans ex
  refine ⟨names_low hn, ?_, (h.nr n v (vals_mem.2 hl)).typed⟩
  rw [← hxn]
  exact ((chk_ok h.chk).each x hx).1
theorem vals_cnt {T : List Ty} {cs : List Cl} {e : ByteArray} {a : List At} (h : NmE T cs e a) (n : ByteArray) : (vals a n).length ≤ 16 := by
  by_cases k : n ∈ names a
  · obtain ⟨v, x, hx, ex, _⟩ := names_mem.1 k
    have hxn : x.1 = n := (h.nof.low x hx).symm.trans ex
    rw [← hxn, nf_get h.nof hx]
    exact ((chk_ok h.chk).each x hx).2.1
  · have : vals a n = [] := Classical.byContradiction fun e => k (names_vals.2 e)
    rw [this]; exact Nat.zero_le _
theorem nm_k {T : List Ty} {cs : List Cl} {ea eb : ByteArray} {a b : List At} (ha : NmE T cs ea a) (hb : NmE T cs eb b) {n : ByteArray} (hn : n ∈ names a ++ names b) : NmK T a b n := by
  rcases List.mem_append.1 hn with h | h
  · obtain ⟨h1, h2, h3⟩ := nm_facts ha h
    exact ⟨h1, h2, h3, ha.nr n, hb.nr n, .inl (names_vals.1 h), vals_cnt hb n⟩
  · obtain ⟨h1, h2, h3⟩ := nm_facts hb h
    exact ⟨h1, h2, h3, ha.nr n, hb.nr n, .inr (names_vals.1 h), vals_cnt hb n⟩
theorem Tn.short {a b : List At} {P : List ByteArray} {l : List At} (h : Tn a b P l) {K : List ByteArray} (hK : ∀ m, m ∈ names a ++ names b → m ∈ K) {n : ByteArray} (hn : n ∈ K) (hlow : lowS n = n) (us : List ByteArray) : (withL l n us).length ≤ K.length :=
  nf_short (nf_NF _) fun m hm => by
    rw [vals_withn hlow] at hm
    by_cases e : m = n
    · rw [e]; exact hn
    · rw [if_neg e] at hm
      by_cases q : m ∈ P
      · rw [(h.val m).1 q] at hm; exact hK m (List.mem_append.2 (.inr (names_vals.2 hm)))
      · rw [(h.val m).2 q] at hm; exact hK m (List.mem_append.2 (.inl (names_vals.2 hm)))
theorem Tn.put {a b : List At} {P : List ByteArray} {l : List At} (h : Tn a b P l) {n : ByteArray} (hlow : lowS n = n) {us : List ByteArray} (hu : sortU us = vals b n) : Tn a b (n :: P) (withL l n us) :=
  ⟨nf_NF _, fun m => by
    rw [vals_withn hlow]
    by_cases e : m = n
    · rw [if_pos e, e]
      exact ⟨fun _ => hu, fun q => absurd (by simp) q⟩
    · rw [if_neg e]
      exact ⟨fun q => (h.val m).1 ((List.mem_cons.1 q).elim (fun k => absurd k e) id), fun q => (h.val m).2 fun k => q (List.mem_cons.2 (.inr k))⟩⟩
theorem tn_step {T : List Ty} {a b l : List At} {K P : List ByteArray} {n : ByteArray} (hK : ∀ m, m ∈ names a ++ names b → m ∈ K) (h32 : K.length ≤ 32) (hnK : n ∈ K) (hk : NmK T a b n) (hP : n ∉ P) (h : Tn a b P l) :
    ∃ l', (∀ ms, modsR T l (dif1 n (vals a n) (vals b n) ++ ms) = modsR T l' ms) ∧ Tn a b (n :: P) l' := by
  have hv : vals l n = vals a n := (h.val n).2 hP
  have hA := vals_asc a n
  have hB := vals_asc b n
  have hlen := fun us => Nat.le_trans (h.short hK hnK hk.low us) h32
  unfold dif1
  by_cases c1 : (vals b n).length = 0
  · rw [if_pos c1]
    have hb0 := List.length_eq_zero_iff.1 c1
    have hne : vals l n ≠ [] := by rw [hv]; exact hk.some.elim id fun k => absurd hb0 k
    have hs := step_rem (T := T) (l := l) (us := []) hk.low hk.nm hk.ty (fun v hv => by cases hv) List.nodup_nil hne (fun v hv => by cases hv)
    exact ⟨_, fun ms => mods_ok hs, h.put hk.low (by rw [hb0, show leftV (vals l n) [] = [] from List.filter_eq_nil_iff.2 (by simp)]; rfl)⟩
  · rw [if_neg c1]
    by_cases c2 : 0 < (vals a n).length ∧ (minusL (vals a n) (vals b n)).length = (vals a n).length
    · rw [if_pos c2, minus_all c2.2]
      have hs := step_rep (T := T) (l := l) hk.low hk.nm hk.ty hk.nrB (asc_nodup hB) hk.cntB (hlen _)
      exact ⟨_, fun ms => mods_ok hs, h.put hk.low (sortU_id hB)⟩
    · rw [if_neg c2]
      by_cases c3 : 0 < (minusL (vals a n) (vals b n)).length
      · rw [if_pos c3]
        have hne : vals l n ≠ [] := by
          rw [hv]; intro e
          rw [e] at c3; exact absurd c3 (by unfold minusL; simp)
        have hs := step_rem (T := T) (l := l) (us := minusL (vals a n) (vals b n)) hk.low hk.nm hk.ty (fun v hv => hk.nrA v (minus_mem.1 hv).1) (minus_nd (asc_nodup hA)) hne (fun v hv' => by rw [hv]; exact (minus_mem.1 hv').1)
        rw [hv] at hs
        obtain ⟨C, hC⟩ : ∃ x, leftV (vals a n) (minusL (vals a n) (vals b n)) = x := ⟨_, rfl⟩
        have hCm : ∀ v, v ∈ C ↔ v ∈ vals a n ∧ v ∈ vals b n := fun v => by
          rw [← hC, left_mem c3, minus_mem]
          exact ⟨fun ⟨p, q⟩ => ⟨p, Classical.byContradiction fun e => q ⟨p, e⟩⟩, fun ⟨p, q⟩ => ⟨p, fun e => e.2 q⟩⟩
        rw [hC] at hs
        by_cases c4 : (minusL (vals b n) (vals a n)).length = 0
        · rw [if_pos c4]
          have hsub := minus_nil (a := vals b n) (b := vals a n) (by omega)
          exact ⟨_, fun ms => mods_ok hs, h.put hk.low (asc_ext (sortU_asc _) hB fun v => by rw [sortU_mem, hCm]; exact ⟨fun k => k.2, fun k => ⟨hsub v k, k⟩⟩)⟩
        · rw [if_neg c4]
          have hv1 : vals (withL l n C) n = sortU C := by rw [vals_withn hk.low, if_pos rfl]
          have hm2 : ∀ v, v ∈ sortU C ++ minusL (vals b n) (vals a n) ↔ v ∈ vals b n := fun v => by
            rw [List.mem_append, sortU_mem, hCm, minus_mem]
            by_cases q : v ∈ vals a n
            · exact ⟨fun k => k.elim (fun k => k.2) fun k => k.1, fun k => .inl ⟨q, k⟩⟩
            · exact ⟨fun k => k.elim (fun k => k.2) fun k => k.1, fun k => .inr ⟨k, q⟩⟩
          have hnd : (sortU C ++ minusL (vals b n) (vals a n)).Nodup := by
            rw [List.nodup_append]
            refine ⟨asc_nodup (sortU_asc _), minus_nd (asc_nodup hB), fun x hx y hy e => ?_⟩
            subst e
            exact (minus_mem.1 hy).2 ((hCm x).1 (sortU_mem.1 hx)).1
          have h16 : (sortU C ++ minusL (vals b n) (vals a n)).length ≤ 16 := Nat.le_trans (nodup_sub_len hnd fun v hv => (hm2 v).1 hv) hk.cntB
          have hl2 : (withL (withL l n C) n (sortU C ++ minusL (vals b n) (vals a n))).length ≤ 32 := Nat.le_trans (nf_short (K := K) (nf_NF _) fun m hm => by
            rw [vals_withn hk.low] at hm
            by_cases e : m = n
            · rw [e]; exact hnK
            · rw [if_neg e, vals_withn hk.low, if_neg e] at hm
              by_cases q : m ∈ P
              · rw [(h.val m).1 q] at hm; exact hK m (List.mem_append.2 (.inr (names_vals.2 hm)))
              · rw [(h.val m).2 q] at hm; exact hK m (List.mem_append.2 (.inl (names_vals.2 hm)))) h32
          have hs2 := step_add (T := T) (l := withL l n C) (us := minusL (vals b n) (vals a n)) hk.low hk.nm hk.ty (fun v hv => hk.nrB v (minus_mem.1 hv).1) (minus_nd (asc_nodup hB)) (fun e => c4 (by rw [e]; rfl))
            (fun v hv' => by rw [hv1, sortU_mem, hCm]; exact fun k => (minus_mem.1 hv').2 k.1) (by rw [hv1]; exact h16) (by rw [hv1]; exact hl2)
          rw [hv1] at hs2
          refine ⟨_, fun ms => (mods_ok hs).trans (mods_ok hs2), nf_NF _, fun m => ?_⟩
          rw [vals_withn hk.low]
          by_cases e : m = n
          · rw [if_pos e, e]
            exact ⟨fun _ => asc_ext (sortU_asc _) hB fun v => by rw [sortU_mem]; exact hm2 v, fun q => absurd (by simp) q⟩
          · rw [if_neg e, vals_withn hk.low, if_neg e]
            exact ⟨fun q => (h.val m).1 ((List.mem_cons.1 q).elim (fun k => absurd k e) id), fun q => (h.val m).2 fun k => q (List.mem_cons.2 (.inr k))⟩
      · rw [if_neg c3]
        have hsub := minus_nil (a := vals a n) (b := vals b n) c3
        by_cases c5 : 0 < (minusL (vals b n) (vals a n)).length
        · rw [if_pos c5]
          have hm2 : ∀ v, v ∈ vals a n ++ minusL (vals b n) (vals a n) ↔ v ∈ vals b n := fun v => by
            rw [List.mem_append, minus_mem]
            by_cases q : v ∈ vals a n
            · exact ⟨fun _ => hsub v q, fun _ => .inl q⟩
            · exact ⟨fun k => k.elim (fun k => absurd k q) fun k => k.1, fun k => .inr ⟨k, q⟩⟩
          have hnd : (vals a n ++ minusL (vals b n) (vals a n)).Nodup := by
            rw [List.nodup_append]
            refine ⟨asc_nodup hA, minus_nd (asc_nodup hB), fun x hx y hy e => ?_⟩
            subst e
            exact (minus_mem.1 hy).2 hx
          have h16 := Nat.le_trans (nodup_sub_len hnd fun v hv => (hm2 v).1 hv) hk.cntB
          have hs := step_add (T := T) (l := l) (us := minusL (vals b n) (vals a n)) hk.low hk.nm hk.ty (fun v hv => hk.nrB v (minus_mem.1 hv).1) (minus_nd (asc_nodup hB)) (fun e => by rw [e] at c5; cases c5)
            (fun v hv' => by rw [hv]; exact (minus_mem.1 hv').2) (by rw [hv]; exact h16) (hlen _)
          rw [hv] at hs
          exact ⟨_, fun ms => mods_ok hs, h.put hk.low (asc_ext (sortU_asc _) hB fun v => by rw [sortU_mem]; exact hm2 v)⟩
        · rw [if_neg c5]
          have hsub2 := minus_nil (a := vals b n) (b := vals a n) c5
          have e : vals a n = vals b n := asc_ext hA hB fun v => ⟨hsub v, hsub2 v⟩
          refine ⟨l, fun ms => rfl, h.nof, fun m => ?_⟩
          by_cases k : m = n
          · rw [k, hv]
            exact ⟨fun _ => e, fun q => absurd (by simp) q⟩
          · exact ⟨fun q => (h.val m).1 ((List.mem_cons.1 q).elim (fun z => absurd z k) id), fun q => (h.val m).2 fun z => q (List.mem_cons.2 (.inr z))⟩
theorem tn_all {T : List Ty} {a b : List At} {K : List ByteArray} (hK : ∀ m, m ∈ names a ++ names b → m ∈ K) (h32 : K.length ≤ 32) : ∀ (Q P : List ByteArray) (l : List At), (∀ n ∈ Q, n ∈ K ∧ NmK T a b n) → Q.Nodup → (∀ n ∈ Q, n ∉ P) → Tn a b P l →
    ∃ l' P', modsR T l (Q.flatMap fun n => dif1 n (vals a n) (vals b n)) = (l', 0) ∧ Tn a b P' l' ∧ ∀ n, n ∈ P' ↔ n ∈ Q ∨ n ∈ P
  | [], P, l, _, _, _, h => ⟨l, P, rfl, h, fun n => by simp⟩
  | n :: Q, P, l, hQ, hd, hP, h => by
    obtain ⟨l1, h1, h2⟩ := tn_step hK h32 (hQ n (by simp)).1 (hQ n (by simp)).2 (hP n (by simp)) h
    have hd' := List.nodup_cons.1 hd
    obtain ⟨l', P', k1, k2, k3⟩ := tn_all hK h32 Q (n :: P) l1 (fun m hm => hQ m (by simp [hm])) hd'.2 (fun m hm => by
      intro e
      rcases List.mem_cons.1 e with e | e
      · exact hd'.1 (e ▸ hm)
      · exact hP m (by simp [hm]) e) h2
    refine ⟨l', P', by rw [List.flatMap_cons, h1]; exact k1, k2, fun m => ?_⟩
    rw [k3, List.mem_cons, List.mem_cons]
    constructor
    · rintro (k | k | k)
      · exact .inl (.inr k)
      · exact .inl (.inl k)
      · exact .inr k
    · rintro ((k | k) | k)
      · exact .inr (.inl k)
      · exact .inl k
      · exact .inr (.inr k)
/-- the difference turns the first one into the second one -/
theorem turns {T : List Ty} {cs : List Cl} {ea eb : ByteArray} {a b : List At} (ha : NmE T cs ea a) (hb : NmE T cs eb b) (h32 : (sortU (names a ++ names b)).length ≤ 32) : modsR T a (difL a b) = (b, 0) := by
  obtain ⟨l', P', h1, h2, h3⟩ := tn_all (T := T) (a := a) (b := b) (K := sortU (names a ++ names b)) (fun m hm => sortU_mem.2 hm) h32 (sortU (names a ++ names b)) [] a (fun n hn => ⟨hn, nm_k ha hb (sortU_mem.1 hn)⟩) (asc_nodup (sortU_asc _)) (fun _ _ h => by cases h) ⟨ha.nof, fun n => ⟨fun q => (List.not_mem_nil q).elim, fun _ => rfl⟩⟩
  have e : l' = b := nf_ext h2.nof hb.nof fun n v => by
    rw [← hl_low h2.nof.low, ← hl_low hb.nof.low, ← vals_mem, ← vals_mem]
    by_cases k : n ∈ P'
    · rw [(h2.val n).1 k]
    · rw [(h2.val n).2 k]
      have hn : n ∉ names a ++ names b := fun q => k ((h3 n).2 (.inl (sortU_mem.2 q)))
      have e1 : vals a n = [] := Classical.byContradiction fun e => hn (List.mem_append.2 (.inl (names_vals.2 e)))
      have e2 : vals b n = [] := Classical.byContradiction fun e => hn (List.mem_append.2 (.inr (names_vals.2 e)))
      rw [e1, e2]
  rw [e] at h1; exact h1
end Go.Proofs.YtonfkhkalodldabGreatDoor
end

section
/-
  Contract of entry.line; the text of an entry, its pieces. Condition: at most 1100000 bytes.
-/
set_option maxRecDepth 100000
set_option maxRecDepth 100000
namespace Go.Proofs.YtonfkhkalodldabGreatDoor
open Go.RowKit Go.PlainAid
def entW : ByteArray := ⟨#[101, 110, 116, 114, 121]⟩
/-- a line: a word, a space, the escaped string, a line feed -/
def lineB (wd s : ByteArray) : List UInt8 := wd.data.toList ++ 32 :: (escL s.data.toList ++ [10])
def valsB (nm : ByteArray) (vs : List ByteArray) : List UInt8 := vs.flatMap (lineB nm)
def attsB (L : List At) : List UInt8 := L.flatMap fun a => valsB a.1 a.2
/-- the text form -/
def entB (en : ByteArray) (l : List At) : List UInt8 := lineB entW en ++ attsB (nf l)
def txV (en : ByteArray) (l : List At) : ByteArray := if enC en l = 0 then ⟨(entB en l).toArray⟩ else ⟨#[]⟩
theorem valsB_take (nm : ByteArray) (vs : List ByteArray) (k : Nat) (h : k < vs.length) : valsB nm (vs.take (k + 1)) = valsB nm (vs.take k) ++ lineB nm (partAt vs k) := by
  unfold valsB
  rw [take_snoc vs k h, List.flatMap_append]; simp
theorem attsB_take (L : List At) (k : Nat) (h : k < L.length) : attsB (L.take (k + 1)) = attsB (L.take k) ++ valsB (atD L k).1 (atD L k).2 := by
  unfold attsB
  rw [at_take L k h, List.flatMap_append]; simp
theorem lineB_le (wd s : ByteArray) : (lineB wd s).length ≤ wd.size + 3 * s.size + 2 := by
  unfold lineB
  have := escL_length s.data.toList
  have h1 : s.data.toList.length = s.size := str_len s
  have h2 : wd.data.toList.length = wd.size := str_len wd
  rw [List.length_append, List.length_cons, List.length_append, List.length_cons, List.length_nil]
  omega
theorem valsB_le {nm : ByteArray} (hn : nm.size ≤ 300) : ∀ {vs : List ByteArray}, (∀ v ∈ vs, v.size ≤ 300) → (valsB nm vs).length ≤ vs.length * 2000
  | [], _ => Nat.zero_le _
  | v :: vs, h => by
    have ih := valsB_le hn (vs := vs) fun x hx => h x (List.mem_cons_of_mem _ hx)
    have h1 := lineB_le nm v
    have h2 := h v List.mem_cons_self
    unfold valsB at ih ⊢
    rw [List.flatMap_cons, List.length_append, List.length_cons]
    omega
theorem attsB_le : ∀ {L : List At}, (∀ a ∈ L, AtS a) → (attsB L).length ≤ L.length * 40000
  | [], _ => Nat.zero_le _
  | a :: L, h => by
    have ih := attsB_le (L := L) fun x hx => h x (List.mem_cons_of_mem _ hx)
    have ha := h a List.mem_cons_self
    have h1 := valsB_le ha.nm ha.each
    have h2 := ha.len
    unfold attsB at ih ⊢
    rw [List.flatMap_cons, List.length_append, List.length_cons]
    omega
set_option maxHeartbeats 4000000 in
theorem line_s (wd s : ByteArray) (w : World) (hw : wd.size ≤ 1100000) (hs : s.size ≤ 1100000) :
    Calls Tryz.prog 50 #[.string wd, .string s] w fun e w' => e = .returned (.string ⟨(lineB wd s).toArray⟩) ∧ Below w.heap.size w w' := by
  have HE := Lib.hid (escape_any s w (by omega))
  have hl := escL_length s.data.toList
  rw [str_len] at hl
  obtain ⟨es, hes⟩ : ∃ es : ByteArray, (⟨(escL s.data.toList).toArray⟩ : ByteArray) = es := ⟨_, rfl⟩
  have hsz : es.size ≤ 3400000 := by rw [← hes, Lib.size_mk]; omega
  have HR := Lib.hid (show (⟨(lineB wd s).toArray⟩ : ByteArray) = wd ++ ⟨#[32]⟩ ++ es ++ ⟨#[10]⟩ by
    rw [← hes]
    apply ba_ext
    unfold lineB
    simp [ByteArray.data_append])
  rw [hes] at HE
  clear hes hl
  rw [HR.out]
  go_enter Tryz.func50, Tryz.ntmps50
  go_wp2_with fail
  refine HE.out.mono ?_
  rintro e w1 ⟨rfl, hb⟩
  go_wp2_with fail
  go_ret
  exact ⟨rfl, hb⟩
end Go.Proofs.YtonfkhkalodldabGreatDoor
end
