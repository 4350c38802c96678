/-
  Texts of the schema layer and of those beneath it, joined: EntB, EntNs, EntRn, EntTx. Conditions stand at each contract.
-/
import Derived.Test.YtonfkhkalodldabGreatDoorP03
import Derived.Test.YtonfkhkalodldabGreatDoorP04
import Derived.Test.YtonfkhkalodldabGreatDoorP07
import Derived.Test.YtonfkhkalodldabGreatDoorP15
import Derived.Test.YtonfkhkalodldabGreatDoorP16
import Derived.Test.YtonfkhkalodldabGreatDoorP17
import Derived.Test.YtonfkhkalodldabGreatDoorP19
set_option linter.unusedVariables false
set_option linter.unusedSimpArgs false
set_option linter.unnecessarySimpa false

section
/-
  Contract of strings.Builder's WriteString at a builder that the call itself made, with what it keeps: every block of attributes or strings. Condition: at most 2^46 bytes.
-/
set_option maxRecDepth 100000
set_option maxRecDepth 100000
namespace Go.Proofs.YtonfkhkalodldabGreatDoor
open Go.RowKit Go.PlainAid
/-- blocks of attributes and of strings stand as they stood -/
def EKeep (w w' : World) : Prop := ∀ (X : Nat) (cs : Array Value) (t : TypeId) (m : Nat × Nat), (t = 41 ∨ t = 9) → w.heap[X]? = some (.cells cs t m) → w'.heap[X]? = w.heap[X]?
theorem EKeep.refl (w : World) : EKeep w w := fun _ _ _ _ _ _ => rfl
theorem EKeep.trans {a b c : World} (h : EKeep a b) (k : EKeep b c) : EKeep a c := fun X cs t m ht e => by
  have h1 := h X cs t m ht e
  rw [k X cs t m ht (by rw [h1]; exact e), h1]
theorem EKeep.below {w w' : World} (h : Below w.heap.size w w') : EKeep w w' := fun X cs t m ht e => by
  refine h.block X ?_
  rcases Nat.lt_or_ge X w.heap.size with h' | h'
  · exact h'
  · simp [Array.getElem?_eq_none h'] at e
theorem EKeep.setCell {w wx : World} (h : EKeep w wx) {b : Nat} {cs : Array Value} {m : Nat × Nat} (hb : wx.heap[b]? = some (.cells cs 95 m)) (j : Nat) (v : Value) : EKeep w (wx.setCell ⟨b, j, none⟩ v) := fun X cs2 t m2 ht e => by
  have h1 := h X cs2 t m2 ht e
  have hne : X ≠ b := fun e2 => by
    rw [e2] at h1 e
    rw [h1, e] at hb
    have := Option.some.inj hb
    have h3 : t = 95 := by injection this
    rcases ht with ht | ht <;> rw [ht] at h3 <;> exact absurd h3 (by decide)
  rw [Below.heap_setCell _ _ _ _ hne, h1]
theorem EKeep.grown {w wx w' : World} (h : EKeep w wx) {v : Value} {B n : Nat} {xs : List Value} (hown : wx.ownsRow B 5 1 v n xs) (hg : wx.grownBy w' v.ownBlock) : EKeep w w' := fun X cs t m ht e => by
  have h1 := h X cs t m ht e
  have h2 : wx.heap[X]? = some (.cells cs t m) := by rw [h1]; exact e
  have hlt : X < wx.heap.size := by
    rcases Nat.lt_or_ge X wx.heap.size with h' | h'
    · exact h'
    · simp [Array.getElem?_eq_none h'] at h2
  have hne : v.ownBlock ≠ some X := by
    rcases ht with ht | ht <;> subst ht
    · exact Lib.ownBlock_ne hown h2 (by decide)
    · exact Lib.ownBlock_ne hown h2 (by decide)
  rw [hg.block X hlt (fun e2 => hne e2.symm), h1]
theorem check_any_e (B b : Nat) (bs : List Value) (w : World) (h : Lib.IsBuilder 95 5 B b bs w) :
    Calls Tryz.prog 97 #[.pointer (some ⟨b, 0, none⟩)] w fun e w' => e = .returned (.tuple #[]) ∧ (Lib.BuilderAt 95 5 B b (.pointer (some ⟨b, 0, none⟩)) bs w' ∧ Below B w w') ∧ EKeep w w' := by
  rcases h with h | h
  · refine (check_fresh b w h.cell0 h.shape h.frozen0).mono ?_
    rintro e w' ⟨rfl, rfl⟩
    refine ⟨rfl, ⟨h.used _, (Below.refl B w).setCell (p := ⟨b, 0, none⟩) h.1 _⟩, ?_⟩
    obtain ⟨hB, v, hbk, _⟩ := h
    exact (EKeep.refl w).setCell hbk 0 _
  · refine (check_used b w h.cell0).mono ?_
    rintro e w' ⟨rfl, rfl⟩
    exact ⟨rfl, ⟨h, Below.refl B _⟩, EKeep.refl _⟩
set_option maxHeartbeats 2000000 in
set_option maxRecDepth 100000 in
theorem writeString_ek (B b : Nat) (bs : List Value) (s : ByteArray) (w : World) (h : Lib.IsBuilder 95 5 B b bs w) (hlen : bs.length + s.size ≤ 140737488355328) (hBw : B ≤ w.heap.size) :
    Calls Tryz.prog 49 #[.pointer (some ⟨b, 0, none⟩), .string s] w fun e w' => e = .returned (.tuple #[.int .i64 s.size, .nilIface]) ∧ (Lib.BuilderAt 95 5 B b (.pointer (some ⟨b, 0, none⟩)) (bs ++ Lib.strCells s) w' ∧ Below B w w') ∧ EKeep w w' := by
  obtain ⟨i0, hi, hz0, hz1, hz2⟩ := info_parts info5
  go_enter Tryz.func49, Tryz.ntmps49
  go_wp2_with (go_at_call 97; refine (check_any_e B b bs _ h).mono ?_)
  rintro e w1 ⟨rfl, ⟨h1, hb1⟩, hk1⟩
  obtain ⟨hB, v, hbk, hown, hne⟩ := h1
  have c1 : w1.cell? ⟨b, 1, none⟩ = some v := by rw [Lib.cell_of_heap hbk]; rfl
  have HZ := hb1.size
  have hlt : b < w1.heap.size := by
    rcases Nat.lt_or_ge b w1.heap.size with h' | h'
    · exact h'
    · simp [Array.getElem?_eq_none h'] at hbk
  go_wp2_with (at_builtin; refine Lib.wpList_append_own_string w1 ?_ (.tmp 12) (.tmp 13) 93 9 ?_ B 5 i0 Tryz.underlying93 Tryz.underlying9 hi hz0 hz1 hz2 v bs.length bs ?_ hown s ?_ ?_ ?_ ?_ ?_; exact rfl; exact rfl; exact rfl; exact rfl; (unfold maxLen; omega); omega; omega)
  intro v' w2 hown' hgrow hnil
  have hk2 : EKeep w w2 := hk1.grown hown hgrow
  have hb2 : w2.heap[b]? = some (.cells #[.pointer (some ⟨b, 0, none⟩), v] 95 (0, 0)) := by
    rw [hgrow.block b hlt (fun e => hne e.symm)]
    exact hbk
  have d1 : w2.cell? ⟨b, 1, none⟩ = some v := by rw [Lib.cell_of_heap hb2]; rfl
  have f1 : w2.frozen? ⟨b, 1, none⟩ = false := Lib.frozen_of_heap hb2 1
  have hlen' : (bs ++ Lib.strCells s).length = bs.length + s.size := by simp [Lib.strCells_length]
  have hbel : Below B w w2 := hb1.grown hgrow (by omega) (fun k hk => (hown.lt k hk).1)
  have hcase : v' = .slice none 0 0 ∨ ∃ g n cap, v' = .slice (some ⟨g, 0, none⟩) n cap := by
    rcases hown'.2 with ⟨h, h0⟩ | ⟨g, cap, cur, hv, _⟩
    · exact .inl h
    · exact .inr ⟨g, _, cap, hv⟩
  rcases hcase with rfl | ⟨g, n, cap, rfl⟩
  · go_wp2
    go_ret2
    refine ⟨rfl, ⟨?_, hbel.setCell (p := ⟨b, 1, none⟩) hB _⟩, hk2.setCell hb2 1 _⟩
    exact Lib.BuilderAt.put (T := 95) (e := 5) hB hb2 (bs' := bs ++ Lib.strCells s) (by rw [hlen']; exact hown') (by decide)
  · go_wp2
    go_ret2
    refine ⟨rfl, ⟨?_, hbel.setCell (p := ⟨b, 1, none⟩) hB _⟩, hk2.setCell hb2 1 _⟩
    exact Lib.BuilderAt.put (T := 95) (e := 5) hB hb2 (bs' := bs ++ Lib.strCells s) (by rw [hlen']; exact hown') (by decide)
/-- WriteString at a builder that holds the bytes l -/
theorem writeString_e (B b : Nat) (l : List UInt8) (s : ByteArray) (w : World) (h : Bld B b l w) (hlen : l.length + s.size ≤ 100000000000) (hBw : B ≤ w.heap.size) :
    Calls Tryz.prog 49 #[.pointer (some ⟨b, 0, none⟩), .string s] w fun e w' => e = .returned (.tuple #[.int .i64 s.size, .nilIface]) ∧ Bld B b (l ++ s.data.toList) w' ∧ Below B w w' ∧ EKeep w w' := by
  refine (writeString_ek B b (bcells l) s w h (by rw [bcells_length]; omega) hBw).mono fun e w' h => ⟨h.1, ?_, h.2.1.2, h.2.2⟩
  unfold Bld
  rw [bcells_append, ← strCells_b]
  exact .inr h.2.1.1
theorem EKeep.row {w w' : World} {base size n : Nat} {e : TypeId} {v : Value} {xs : List Value} (k : EKeep w w') (he : e = 41 ∨ e = 9) (h : w.ownsRow base e size v n xs) : w'.ownsRow base e size v n xs := by
  refine ⟨h.1, ?_⟩
  rcases h.2 with q | ⟨g, cap, cur, e1, h2, h3, h4⟩
  · exact .inl q
  · exact .inr ⟨g, cap, cur, e1, h2, (k g _ _ _ he h3).trans h3, h4⟩
theorem EKeep.own {w w' : World} {base : Nat} {v : Value} {T : List Tr} (k : EKeep w w') (h : TOwn w base v T) : TOwn w' base v T := fun t ht => ⟨k.row (.inr rfl) (h t ht).1, (h t ht).2⟩
end Go.Proofs.YtonfkhkalodldabGreatDoor
end

section
/-
  Contract of the specification's Names, with the row that it makes. Condition: few attributes.
-/
set_option maxRecDepth 100000
namespace Go.Proofs.YtonfkhkalodldabGreatDoor
open Go.RowKit Go.PlainAid
end Go.Proofs.YtonfkhkalodldabGreatDoor
end

section
/-
  Contract of the specification's Normal of entries. Condition: names of at most 1100000 bytes, attributes few and small.
-/
set_option maxRecDepth 100000
set_option maxRecDepth 100000
namespace Go.Proofs.YtonfkhkalodldabGreatDoor
open Go.RowKit Go.PlainAid
/-- what the loop over the names keeps -/
structure RnI (T : List Ty) (l : List At) (w : World) (b9 base : Nat) (cl : ByteArray) (sch ent : Obj) (so : Option Addr) (sc i : Nat) (U : List Tr) (wr : World) : Prop where
  kS : Kb wr w.heap.size sch
  kE : Kb wr (w.heap.size + 1) ent
  kR : Kb wr (w.heap.size + 2) (.cells #[.string ⟨#[]⟩, .slice none 0 0] 28)
  kN : Kb wr b9 (.cells #[.string cl, .slice so i sc] 28)
  row : wr.ownsRow base 41 2 (.slice so i sc) i (tcells U)
  own : TOwn wr base (.slice so i sc) U
  done : tats U = ((names l).take i).map fun n => (n, fmsL T n (orig l n))
  zero : ∀ q, q < i → nvE T (partAt (names l) q) (orig l (partAt (names l) q)) = 0
  low : Below w.heap.size w wr
  big : w.heap.size + 3 ≤ b9 ∧ b9 < base ∧ base ≤ wr.heap.size
theorem RnI.below {T : List Ty} {l : List At} {w : World} {b9 base : Nat} {cl : ByteArray} {sch ent : Obj} {so : Option Addr} {sc i : Nat} {U : List Tr} {wr V : World} (h : RnI T l w b9 base cl sch ent so sc i U wr) (hb : Below wr.heap.size wr V) : RnI T l w b9 base cl sch ent so sc i U V :=
  ⟨h.kS.step hb, h.kE.step hb, h.kR.step hb, h.kN.step hb, own_below h.row hb, h.own.below hb, h.done, h.zero, h.low.trans (hb.mono h.low.size), h.big.1, h.big.2.1, Nat.le_trans h.big.2.2 hb.size⟩
theorem RnI.push {T : List Ty} {l : List At} {w : World} {b9 base : Nat} {cl : ByteArray} {sch ent : Obj} {so : Option Addr} {sc i : Nat} {U : List Tr} {W w' : World} (h : RnI T l w b9 base cl sch ent so sc i U W) (hi : i < (names l).length) {nm : ByteArray} (hnm : partAt (names l) i = nm) {u : Value} {fs : List ByteArray} (hfs : fmsL T nm (orig l nm) = fs)
    (hu : W.ownsRow base 9 1 u fs.length (scells fs)) (hne : u.ownBlock = none ∨ u.ownBlock ≠ (Value.slice so i sc).ownBlock) (hz : nvE T nm (orig l nm) = 0) (o : Obj)
    (hg : (W.drew.alloc o).grownBy w' (Value.slice so i sc).ownBlock) {so' : Option Addr} {sc' : Nat} (hrow : w'.ownsRow base 41 2 (.slice so' (i + 1) sc') (i + 1) (tcells U ++ [.string nm, u])) (hat : (Value.slice so' (i + 1) sc').ownBlock = (Value.slice so i sc).ownBlock ∨ (Value.slice so' (i + 1) sc').ownBlock = some (W.heap.size + 1)) :
    Below base W w' ∧ Kb w' b9 (.cells #[.string cl, .slice so i sc] 28) ∧ RnI T l w b9 base cl sch ent so' sc' (i + 1) (U ++ [(nm, u, fs)]) (w'.setCell ⟨b9, 1, none⟩ (.slice so' (i + 1) sc')) := by
  have hB : Below W.heap.size W (W.drew.alloc o) := ((Below.refl _ _).drew).alloc (Nat.le_refl _) o
  have hbg := h.big
  have hW : Below base W w' := (hB.mono hbg.2.2).grown hg (by simp; omega) (fun k hk => (h.row.lt k hk).1)
  have e : ∀ {b ob}, b < base → Kb W b ob → Kb w' b ob := fun hlt hk => (hW.block _ hlt).trans hk
  have hat' : (Value.slice so' (i + 1) sc').ownBlock = (Value.slice so i sc).ownBlock ∨ (Value.slice so' (i + 1) sc').ownBlock = some (W.drew.alloc o).heap.size := by
    rcases hat with k | k
    · exact .inl k
    · exact .inr (by rw [k]; simp)
  have hT := (h.own.below hB).grown hg hat'
  have hun : u.ownBlock = none ∨ u.ownBlock ≠ (Value.slice so' (i + 1) sc').ownBlock := by
    cases hk : u.ownBlock with
    | none => exact .inl rfl
    | some k =>
      refine .inr fun e => ?_
      have hlt := (hu.lt k hk).2
      rcases hat with q | q
      · rw [hk] at hne
        rcases hne with c | c
        · cases c
        · exact c (e.trans q)
      · have := Option.some.inj (e.trans q); omega
  refine ⟨hW, e (by omega) h.kN, (e (by omega) h.kS).set _ _ (by show w.heap.size ≠ b9; omega), (e (by omega) h.kE).set _ _ (by show w.heap.size + 1 ≠ b9; omega), (e (by omega) h.kR).set _ _ (by show w.heap.size + 2 ≠ b9; omega), ?_, ?_, ?_, ?_, fun q hq => ?_, (h.low.trans (hW.mono (by omega))).setCell (p := ⟨b9, 1, none⟩) (by show w.heap.size ≤ b9; omega) _, hbg.1, hbg.2.1, ?_⟩
  · exact Lib.heap_setCell_same (e (by omega) h.kN) _
  · rw [tcells_append]
    exact ownsRow_setCell_below hrow (a := ⟨b9, 1, none⟩) hbg.2.1 _
  · exact (hT.snoc (t := (nm, u, fs)) ((own_below hu hB).kept hg hne) hun).set (a := ⟨b9, 1, none⟩) hbg.2.1 _
  · rw [tats_append, h.done, take_snoc _ i hi, List.map_append, hnm, ← hfs]; rfl
  · by_cases k : q = i
    · rw [k, hnm]; exact hz
    · exact h.zero q (by omega)
  · have := hW.size; rw [set_size]; omega
end Go.Proofs.YtonfkhkalodldabGreatDoor
end

section
/-
  Contract of entry.Text. Condition: names of at most 1100000 bytes, small attributes with few values.
-/
set_option maxRecDepth 100000
set_option maxRecDepth 100000
namespace Go.Proofs.YtonfkhkalodldabGreatDoor
open Go.RowKit Go.PlainAid
/-- what the loops over the attributes keep: the text so far, the rows of the attributes -/
structure TxI (w W0 : World) (b base : Nat) (v : Value) (U : List Tr) (t : List UInt8) (wr : World) : Prop where
  bld : Bld b b t wr
  row : wr.ownsRow base 41 2 v U.length (tcells U)
  own : TOwn wr base v U
  low : Below b W0 wr
  big : b < wr.heap.size
theorem TxI.below {w W0 wr V : World} {b base : Nat} {v : Value} {U : List Tr} {t : List UInt8} (h : TxI w W0 b base v U t wr) (hb : Below wr.heap.size wr V) : TxI w W0 b base v U t V :=
  ⟨h.bld.below hb, own_below h.row hb, h.own.below hb, h.low.trans (hb.mono (Nat.le_of_lt h.big)), Nat.lt_of_lt_of_le h.big hb.size⟩
theorem TxI.wrote {w W0 wr V : World} {b base : Nat} {v : Value} {U : List Tr} {t t' : List UInt8} (h : TxI w W0 b base v U t wr) (hB : Bld b b t' V) (hb : Below b wr V) (k : EKeep wr V) : TxI w W0 b base v U t' V :=
  ⟨hB, k.row (.inl rfl) h.row, k.own h.own, h.low.trans hb, Nat.lt_of_lt_of_le h.big hb.size⟩
set_option maxHeartbeats 16000000 in
theorem text_s (en : ByteArray) (ao : Option Addr) (n cap : Nat) (l : List At) (w : World) (hen : en.size ≤ 1100000) (ha : AttrsAt w ao n cap l) (hS : SmallA l) (hF : FewV l) :
    Calls Tryz.prog 20 #[.agg #[.string en, .slice ao n cap]] w fun e w' => e = .returned (.tuple #[.string (txV en l), .int .i64 (enC en l)]) ∧ Below w.heap.size w w' := by
  have HA := Lib.hid ha; clear ha
  have hb0 := below_al w (.cells #[.string en, .slice ao n cap] 28)
  have HK := Lib.hid (kbl_new w (.cells #[.string en, .slice ao n cap] 28))
  have HCk := Lib.hid (enCheck_s en ao n cap l _ hen (HA.out.below hb0) hS hF)
  have HB0 := Lib.hid hb0
  obtain ⟨c, hc⟩ : ∃ c, enC en l = c := ⟨_, rfl⟩
  rw [hc] at HCk ⊢
  have HC := Lib.hid hc
  obtain ⟨e0, e1⟩ : (w.alloc (.cells #[.string en, .slice ao n cap] 28)).cell? ⟨w.heap.size, 0, none⟩ = some (.string en) ∧ (w.alloc (.cells #[.string en, .slice ao n cap] 28)).cell? ⟨w.heap.size, 1, none⟩ = some (.slice ao n cap) := ⟨HK.out.cell rfl, HK.out.cell rfl⟩
  clear hb0 hc
  go_enter Tryz.func20, Tryz.ntmps20
  go_wp2_with fail
  refine HCk.out.mono ?_
  rintro e w1 ⟨rfl, hb⟩
  have HB1 := Lib.hid (HB0.out.trans (hb.mono HB0.out.size))
  have HK1 := Lib.hid (HK.out.step hb)
  clear hb e0 e1 HCk HB0
  by_cases h0 : c = 0
  · subst h0
    have HLt := Lib.hid (show chkA l = 0 from by
      have h := HC.out
      unfold enC at h
      split at h
      · cases h
      · exact h)
    have HLi := Lib.hid (chk_light HLt.out)
    have hbl := below_al w1 (.cells #[.pointer none, .slice none 0 0] 95)
    have HBd := Lib.hid (bld_new w1)
    have HK2 := Lib.hid (HK1.out.step hbl)
    have HB2 := Lib.hid (HB1.out.trans (hbl.mono HB1.out.size))
    have hs2 : w1.heap.size < (w1.alloc (.cells #[.pointer none, .slice none 0 0] 95)).heap.size := by simp
    have HLn := Lib.hid (line_s entW en (w1.alloc (.cells #[.pointer none, .slice none 0 0] 95)) (by decide) hen)
    have hll := lineB_le entW en
    have hew : entW.size = 5 := by decide
    have HRw := Lib.hid (show entW = ⟨#[101, 110, 116, 114, 121]⟩ from rfl)
    rw [HRw.out] at HLn
    obtain ⟨e0, e1⟩ : (w1.alloc (.cells #[.pointer none, .slice none 0 0] 95)).cell? ⟨w.heap.size, 0, none⟩ = some (.string en) ∧ (w1.alloc (.cells #[.pointer none, .slice none 0 0] 95)).cell? ⟨w.heap.size, 1, none⟩ = some (.slice ao n cap) := ⟨HK2.out.cell rfl, HK2.out.cell rfl⟩
    clear hbl
    go_wp2_with fail
    refine HLn.out.mono ?_
    rintro e w2 ⟨rfl, hb⟩
    have HBd2 := Lib.hid (HBd.out.below hb)
    have HK3 := Lib.hid (HK2.out.step hb)
    have HB3 := Lib.hid (HB2.out.trans (hb.mono HB2.out.size))
    have hlow2 : Below w1.heap.size w1 w2 := (below_al w1 _).trans (hb.mono (Nat.le_of_lt hs2))
    have hs3 : w1.heap.size < w2.heap.size := Nat.lt_of_lt_of_le hs2 hb.size
    obtain ⟨ln, hln⟩ : ∃ s : ByteArray, (⟨(lineB ⟨#[101, 110, 116, 114, 121]⟩ en).toArray⟩ : ByteArray) = s := ⟨_, rfl⟩
    have hlz : ln.size ≤ 4000000 := by rw [← hln, Lib.size_mk]; have := lineB_le ⟨#[101, 110, 116, 114, 121]⟩ en; have h5 : (⟨#[101, 110, 116, 114, 121]⟩ : ByteArray).size = 5 := by decide
                                       omega
    have HLn2 := Lib.hid (show ln.data.toList = lineB entW en by rw [← hln, HRw.out])
    rw [hln]
    clear hb e0 e1 HLn hll hew hln
    go_wp2_with fail
    refine (writeString_e w1.heap.size w1.heap.size [] ln w2 HBd2.out (by simp; omega) (Nat.le_of_lt hs3)).mono ?_
    rintro e w3 ⟨rfl, hbd, hb, hke⟩
    have HBd3 := Lib.hid (show Bld w1.heap.size w1.heap.size (lineB entW en) w3 by rw [← HLn2.out]; simpa using hbd)
    have HK4 := Lib.hid (show Kb w3 w.heap.size (.cells #[.string en, .slice ao n cap] 28) from (hb.block _ HK1.out.big).trans HK3.out)
    have HB4 := Lib.hid (HB3.out.trans (hb.mono HB1.out.size))
    have hs4 : w1.heap.size < w3.heap.size := Nat.lt_of_lt_of_le hs3 hb.size
    have HL4 := Lib.hid (show Below w1.heap.size w1 w3 from hlow2.trans hb)
    obtain ⟨e0, e1⟩ : w3.cell? ⟨w.heap.size, 0, none⟩ = some (.string en) ∧ w3.cell? ⟨w.heap.size, 1, none⟩ = some (.slice ao n cap) := ⟨HK4.out.cell rfl, HK4.out.cell rfl⟩
    have HSo := Lib.hid (sorted_s ao n cap l w3 (HA.out.below HB4.out) HLi.out.few)
    clear hb hbd hke hlow2
    go_wp2_with fail
    refine HSo.out.mono ?_
    rintro e w4 ⟨v, U, rfl, hU, hO, _, hrow, hb⟩
    obtain ⟨so, sc, rfl⟩ := row_slice hrow
    have HI := Lib.hid (show TxI w w1 w1.heap.size w3.heap.size (.slice so U.length sc) U (lineB entW en) w4 from
      ⟨HBd3.out.below hb, hrow, hO, HL4.out.trans (hb.mono (Nat.le_of_lt hs4)), Nat.lt_of_lt_of_le hs4 hb.size⟩)
    have HU := Lib.hid hU
    have HAl := Lib.hid (chk_light (nf_chk HLt.out))
    obtain ⟨m, hm⟩ : ∃ m, U.length = m := ⟨_, rfl⟩
    have hrl : (nf l).length = m := by rw [← hm, ← hU, tats_len]
    have hm40 : m ≤ 40 := by have := HAl.out.len; omega
    have HM := Lib.hid (And.intro hm hrl)
    obtain ⟨b1, hb1⟩ : ∃ x, w1.heap.size = x := ⟨_, rfl⟩
    have hws : w.heap.size ≤ w1.heap.size := HB1.out.size
    have HX1 := Lib.hid HB1.out
    rw [hm] at HI ⊢
    rw [hb1] at HI
    clear hb hU hO hrow HSo e0 e1 hm hrl HL4 HB4 HK4 HBd3
    have hz0 : ((lineB entW en).length) ≤ 4000000 := by rw [← HLn2.out, str_len]; exact hlz
    go_wp2_with fail
    go_loopw [7, 9, 23, 30] (fun _ _ s23 _ wr => ∃ (i : Nat), i ≤ m ∧ s23 = .int .i64 i ∧ Hid (TxI w w1 b1 w3.heap.size (.slice so m sc) U (lineB entW en ++ attsB ((nf l).take i)) wr)) (fun _ _ s23 _ _ => m - (intOf s23).toNat)
    case atStart => exact ⟨0, Nat.zero_le _, rfl, by simpa [attsB] using HI⟩
    case round =>
      clear HI
      obtain ⟨i, hi, rfl, HI⟩ := hrel
      have hbig := HI.out.big
      by_cases hlt : i < m
      · have d1 : (i : Int) < (m : Int) := by omega
        obtain ⟨g, rfl⟩ : ∃ g, so = some ⟨g, 0, none⟩ := by
          have hr := HI.out.row
          rw [HM.out.1] at hr
          rcases hr.2 with ⟨e, _⟩ | ⟨g, cp, cur, e, _⟩
          · simp only [Value.slice.injEq] at e
            omega
          · simp only [Value.slice.injEq] at e
            exact ⟨g, e.1⟩
        have hiU : i < U.length := by rw [HM.out.1]; exact hlt
        obtain ⟨s1, s2⟩ : (U.getD i default).1 = (atD (nf l) i).1 ∧ (U.getD i default).2.2 = (atD (nf l) i).2 := by
          have := tats_at hiU; rw [HU.out] at this; rw [this]; exact ⟨rfl, rfl⟩
        have hmem : U.getD i default ∈ U := by
          rw [List.getD_eq_getElem?_getD, List.getElem?_eq_getElem hiU]; exact List.getElem_mem _
        have hOwn : ∃ vo vc, (U.getD i default).2.1 = .slice vo (atD (nf l) i).2.length vc ∧ ∀ V, TxI w w1 b1 w3.heap.size (.slice (some ⟨g, 0, none⟩) m sc) U (lineB entW en ++ attsB ((nf l).take i)) V ∨ True → TOwn V w3.heap.size (.slice (some ⟨g, 0, none⟩) m sc) U → StrsAt V vo (atD (nf l) i).2.length vc (atD (nf l) i).2 := by
          obtain ⟨vo, vc, e, _⟩ := strs_own (HI.out.own _ hmem).1 rfl
          rw [s2] at e
          refine ⟨vo, vc, e, fun V _ hV => ?_⟩
          obtain ⟨vo', vc', e', hst'⟩ := strs_own (hV _ hmem).1 rfl
          rw [s2] at e' hst'
          rw [e] at e'
          simp only [Value.slice.injEq] at e'
          obtain ⟨rfl, _, rfl⟩ := e'
          exact hst'
        obtain ⟨vo, vc, ev, hst⟩ := hOwn
        obtain ⟨t1, t2⟩ := etc_at hiU
        have c1 := HI.out.row.cells (g := g) rfl _ _ t1
        have c2 := HI.out.row.cells (g := g) rfl _ _ t2
        rw [Go.WideShapes.add_plain, Nat.zero_add] at c1 c2
        rw [s1] at c1
        rw [ev] at c2
        have hTk := attsB_take (nf l) i (by rw [HM.out.2]; exact hlt)
        have hAt := HAl.out.each (atD (nf l) i) (by rw [at_get (nf l) i (by rw [HM.out.2]; exact hlt)]; exact List.getElem_mem _)
        have hpre := attsB_le (L := (nf l).take i) (fun a h => HAl.out.each a (List.mem_of_mem_take h))
        rw [List.length_take] at hpre
        have hpre2 : (attsB ((nf l).take i)).length ≤ 1600000 := by have : min i (nf l).length ≤ 40 := by omega
                                                                    omega
        obtain ⟨pre, hpr⟩ : ∃ x, lineB entW en ++ attsB ((nf l).take i) = x := ⟨_, rfl⟩
        have hprl : pre.length ≤ 5600000 := by rw [← hpr, List.length_append]; omega
        obtain ⟨nm, hnm⟩ : ∃ x, (atD (nf l) i).1 = x := ⟨_, rfl⟩
        obtain ⟨vs, hvs⟩ : ∃ x, (atD (nf l) i).2 = x := ⟨_, rfl⟩
        have hA1 := hAt.nm
        have hA2 := hAt.len
        have hA3 := hAt.each
        rw [hnm, hvs] at hTk
        rw [hnm] at c1 hA1
        rw [hvs] at c2 hst hA2 hA3
        have HA3 := Lib.hid hA3
        obtain ⟨vn, hvn⟩ : ∃ x, vs.length = x := ⟨_, rfl⟩
        rw [hvn] at c2 hst hA2
        have HVn := Lib.hid hvn
        have HSt := Lib.hid hst
        have HTk := Lib.hid (show lineB entW en ++ attsB ((nf l).take (i + 1)) = pre ++ valsB nm vs by rw [hTk, ← List.append_assoc, hpr])
        rw [hpr] at HI
        have hbl := below_al wr (.cells #[.string nm, .slice vo vn vc] 41)
        have HI4 := Lib.hid (HI.out.below hbl)
        have HKb := Lib.hid (kbl_new wr (.cells #[.string nm, .slice vo vn vc] 41))
        clear hnm hvs hAt hA3 hvn hst hTk hpre hpre2 hpr hbl s1 s2 hmem hiU t1 t2 ev
        go_wp2_with fail
        obtain ⟨g7, hg7⟩ : ∃ x, wr.heap.size = x := ⟨_, rfl⟩
        rw [hg7] at HKb ⊢
        go_loopw [9, 30] (fun _ s30 wx => ∃ (k : Nat), k ≤ vn ∧ s30 = .int .i64 k ∧ Hid (TxI w w1 b1 w3.heap.size (.slice (some ⟨g, 0, none⟩) m sc) U (pre ++ valsB nm (vs.take k)) wx) ∧ Hid (Kb wx g7 (.cells #[.string nm, .slice vo vn vc] 41))) (fun _ s30 _ => vn - (intOf s30).toNat)
        case atStart => exact ⟨0, Nat.zero_le _, rfl, by simpa [valsB] using HI4, HKb⟩
        case round =>
          clear HI4 HKb c1 c2 hg7
          obtain ⟨k, hk, rfl, HIk, HKk⟩ := hrel
          have hbigk := HIk.out.big
          by_cases hkl : k < vn
          · have d2 : (k : Int) < (vn : Int) := by omega
            have hst := HSt.out wr (.inr trivial) HIk.out.own
            obtain ⟨vb, voff, rfl, hvb, hvs⟩ := hst.2.2.2 (by omega)
            have hvc := hvs k (by rw [HVn.out]; exact hkl)
            have hvz := HA3.out _ (part_mem vs k (by rw [HVn.out]; exact hkl))
            have HTv := Lib.hid (valsB_take nm vs k (by rw [HVn.out]; exact hkl))
            have hpv := valsB_le hA1 (vs := vs.take k) (fun x h => HA3.out x (List.mem_of_mem_take h))
            rw [List.length_take] at hpv
            have hpv2 : (pre ++ valsB nm (vs.take k)).length ≤ 6000000 := by rw [List.length_append]; have : min k vs.length ≤ 20 := by omega
                                                                             omega
            obtain ⟨s, hs⟩ : ∃ x, partAt vs k = x := ⟨_, rfl⟩
            rw [hs] at hvc hvz HTv
            clear hs hvs hst hpv
            have k0 := HKk.out.cell (i := 0) rfl
            have k1 := HKk.out.cell (i := 1) rfl
            have HLs := Lib.hid (line_s nm s wr (by omega) (by omega))
            obtain ⟨q, hq⟩ : ∃ x, pre ++ valsB nm (vs.take k) = x := ⟨_, rfl⟩
            have HQ := Lib.hid hq
            rw [hq] at HIk hpv2
            obtain ⟨ls, hls⟩ : ∃ x : ByteArray, (⟨(lineB nm s).toArray⟩ : ByteArray) = x := ⟨_, rfl⟩
            have hlz2 : ls.size ≤ 4000000 := by rw [← hls, Lib.size_mk]; have := lineB_le nm s; omega
            have HLq := Lib.hid (show q ++ ls.data.toList = pre ++ valsB nm (vs.take (k + 1)) by rw [HTv.out, ← hq, ← hls, List.append_assoc])
            rw [hls] at HLs
            clear hq hls
            go_wp2_with fail
            refine HLs.out.mono ?_
            rintro e w5 ⟨rfl, hb⟩
            have HI5 := Lib.hid (HIk.out.below hb)
            have HK5 := Lib.hid (HKk.out.step hb)
            clear hb k0 k1 hvc
            go_wp2_with fail
            refine (writeString_e b1 b1 q ls w5 HI5.out.bld (by omega) (Nat.le_of_lt HI5.out.big)).mono ?_
            rintro e w6 ⟨rfl, hbd, hb, hke⟩
            have HI6 := Lib.hid (HI5.out.wrote hbd hb hke)
            have HK6 := Lib.hid (show Kb w6 g7 (.cells #[.string nm, .slice (some ⟨vb, voff, none⟩) vn vc] 41) from (hke g7 _ _ _ (.inl rfl) HK5.out).trans HK5.out)
            clear hbd hb hke
            go_wp2_with fail
            go_roundw
            case rel => exact ⟨k + 1, by omega, by go_num, by rw [← HLq.out]; exact HI6, HK6⟩
            case measure => simp [intOf]; omega
          · obtain rfl : k = vn := by omega
            have d2 : ¬ (k : Int) < (k : Int) := by omega
            have HI7 := Lib.hid (show TxI w w1 b1 w3.heap.size (.slice (some ⟨g, 0, none⟩) m sc) U (lineB entW en ++ attsB ((nf l).take (i + 1))) wr by
              have h := HIk.out
              rw [show vs.take k = vs by rw [← HVn.out]; exact List.take_length] at h
              rw [HTk.out]; exact h)
            go_wp2_with fail
            go_roundw
            case rel => exact ⟨i + 1, by omega, by go_num, HI7⟩
            case measure => simp [intOf]; omega
      · obtain rfl : i = m := by omega
        have d1 : ¬ (i : Int) < (i : Int) := by omega
        have HTx := Lib.hid (show lineB entW en ++ attsB ((nf l).take i) = entB en l by rw [← HM.out.2, List.take_length]; rfl)
        have HTv := Lib.hid (show txV en l = ⟨(entB en l).toArray⟩ from if_pos HC.out)
        rw [HTx.out] at HI
        go_wp2_with fail
        refine (string_s b1 b1 (entB en l) wr HI.out.bld (Nat.le_of_lt HI.out.big)).mono ?_
        rintro e w9 ⟨rfl, hb⟩
        have HBe := Lib.hid (show Below w.heap.size w w9 from HX1.out.trans ((HI.out.low.trans hb).mono (by omega)))
        clear hb
        go_wp2_with fail
        go_ret2
        exact ⟨by rw [HTv.out]; rfl, HBe.out⟩
  · have d1 : (c != 0) = true := by simpa using h0
    have HE := Lib.hid (show txV en l = ⟨#[]⟩ from if_neg (by rw [HC.out]; exact h0))
    go_wp2_with fail
    go_ret2
    exact ⟨by rw [HE.out]; rfl, HB1.out⟩
end Go.Proofs.YtonfkhkalodldabGreatDoor
end
