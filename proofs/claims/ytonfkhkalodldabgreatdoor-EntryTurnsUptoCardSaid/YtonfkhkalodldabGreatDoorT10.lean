/-
  Texts of the schema layer and of those beneath it, joined: AttP5, AttP6, AttP7, AttP8, AttP9, AttP10, AttP11, AttP12. Conditions stand at each contract.
-/
import Derived.Laws.OwnMore
import Derived.Lib.SliceRun
import Derived.Test.YtonfkhkalodldabGreatDoorT09
set_option linter.unusedVariables false
set_option linter.unusedSimpArgs false
set_option linter.unnecessarySimpa false

section
set_option maxRecDepth 100000
namespace Go.Proofs.YtonfkhkalodldabGreatDoor
open Go.RowKit Go.PlainAid
theorem app_grow {ops : Array Oper} {rest : List Oper} {o : Oper} {a : Act} {Q : Exit → Act → World → Prop} (wr : World) (s x : Operand) (ao : Option Addr) (ad : Addr) (n m c : Nat) (olds news : List Tr) (hgd : o.guard = none)
  (ho : o.op = .call { callee := .builtin .append, args := #[s, x], argTypes := #[26, 26] })
  (hs : a.eval s = .slice ao n n) (hx : a.eval x = .slice (some ad) m c) (hold : TsAt wr ao n n olds) (hnone : ao = none → n = 0) (hplain : ∀ ad, ao = some ad → ad.spot = none) (hw : TsAt wr (some ad) m c news) (hT : TOk wr news) (hm : 0 < m) (hn : n + m ≤ 1100000)
  (h : ∀ v' w', w'.ownsRow wr.heap.size 41 2 v' (n + m) (tcells (olds ++ news)) → Below wr.heap.size wr w' → wpList Tryz.prog ops Q rest (a.put o.dst v') w') :
  wpList Tryz.prog ops Q (o :: rest) a wr := by
 obtain ⟨i0, hi, hz0, hz1, hz2⟩ := info_parts info_attr
 cases ao with
 | none =>
  have e0 := hnone rfl
  subst e0
  have e1 : olds = [] := List.length_eq_zero_iff.1 hold.1
  subst e1
  refine app_attrs wr (World.ownsRow_nil wr wr.heap.size 41 2) s x (some ad) m c news hgd ho hs hx hw hT (by omega) (Nat.le_refl _) ?_
  intro v' w' h1 h2 _
  exact h v' w' h1 ((Below.refl _ wr).grown h2 (Nat.le_refl _) (fun k hk => by cases hk))
 | some bd =>
  have hsp := hplain bd rfl
  obtain ⟨b, off, spot⟩ := bd
  simp only at hsp
  subst hsp
  refine wpList_append_grows wr hgd s x 26 ho 41 i0 (.agg #[.string ⟨#[]⟩, .slice none 0 0]) 2 40 Tryz.underlying26 hi hz0 hz1 hz2 rfl (by decide) (some ⟨b, off, none⟩) n n (tcells olds) hs (fun e => by cases e) (by rw [tcells_len, hold.1])
   (fun ad had j u hj => by cases had; exact ts_news hold j u hj) ad m c (tcells news) hx (by rw [tcells_len, hw.1]) (ts_news hw) (tcells_one hT) (by omega) (by unfold maxLen; omega) (by omega) ?_
  intro v' w' h1 h2
  exact h v' w' (by rw [tcells_append]; exact h1) ((Below.refl _ wr).grown h2 (Nat.le_refl _) (fun k hk => by cases hk))
structure Beside (w : World) (base : Nat) (v : Value) (ao : Option Addr) (T : List Tr) : Prop where
 own : ∀ t ∈ T, w.ownsRow base 9 1 t.2.1 t.2.2.length (scells t.2.2) ∧ (t.2.1.ownBlock = none ∨ t.2.1.ownBlock ≠ v.ownBlock)
 row : ∀ b off, ao = some ⟨b, off, none⟩ → v.ownBlock ≠ some b
 lt : ∀ b off, ao = some ⟨b, off, none⟩ → b < w.heap.size
theorem Beside.below {w w' : World} {base : Nat} {v : Value} {ao : Option Addr} {T : List Tr} (h : Beside w base v ao T) (hb : Below w.heap.size w w') : Beside w' base v ao T := ⟨fun t ht => ⟨own_below (h.own t ht).1 hb, (h.own t ht).2⟩, h.row, fun b off e => Nat.lt_of_lt_of_le (h.lt b off e) hb.size⟩
theorem Beside.ok {w w' : World} {base : Nat} {v : Value} {ao : Option Addr} {T : List Tr} (h : Beside w base v ao T) (hg : w.grownBy w' v.ownBlock) : TOk w' T := fun t ht => hdr_owns ((h.own t ht).1.kept hg (h.own t ht).2)
theorem Beside.ts {w w' : World} {base n cap : Nat} {v : Value} {ao : Option Addr} {T : List Tr} (h : Beside w base v ao T) (hT : TsAt w ao n cap T) (hg : w.grownBy w' v.ownBlock) : TsAt w' ao n cap T :=
 hT.keep hg.size fun b off e hb => hg.block b hb fun k => h.row b off e k.symm
theorem grown_refl (w : World) (row : Option Nat) : w.grownBy w row := ⟨rfl, rfl, rfl, Nat.le_refl _, fun _ _ _ => rfl⟩
def joinL (B A : List At) (lw : ByteArray) (vs : List ByteArray) : List At := B ++ (if vs.length = 0 then [] else [(lw, sortU vs)]) ++ A
set_option maxRecDepth 100000 in
set_option maxHeartbeats 4000000 in
theorem joined_s (ao vo bo : Option Addr) (vn vc c base : Nat) (B A : List Tr) (name : ByteArray) (vs : List ByteArray) (w : World)
  (hB : TsAt w ao B.length B.length B) (hz : ao = none → B.length = 0) (hp : ∀ ad, ao = some ad → ad.spot = none) (hA : TsAt w bo A.length c A)
  (hBB : 0 < vn → Beside w base (.slice vo vn vc) ao B) (hBA : 0 < vn → Beside w base (.slice vo vn vc) bo A) (hOB : TOk w B) (hOA : TOk w A) (hv : 0 < vn → w.ownsRow base 9 1 (.slice vo vn vc) vn (scells vs)) (hvl : vs.length = vn)
  (hbl : B.length ≤ 3000) (hal : A.length ≤ 3000) (hvn : vn ≤ 1100000) (hns : name.size ≤ 1100000) (hbase : base ≤ w.heap.size) :
  Calls Tryz.prog 103 #[.slice ao B.length B.length, .string name, .slice vo vn vc, .slice bo A.length c] w fun e w' => ∃ xo xc, e = .returned (.slice xo (joinL (tats B) (tats A) (lowS name) vs).length xc) ∧ AttrsAt w' xo (joinL (tats B) (tats A) (lowS name) vs).length xc (joinL (tats B) (tats A) (lowS name) vs) ∧ Below base w w' := by
 have HB := Lib.hid hB
 have HA := Lib.hid hA
 have hcb : c ≤ 9223372036854775807 := hA.2.2.1
 clear hB hA
 by_cases h0 : 0 < vn
 ·have hown := hv h0
  have HBB := Lib.hid (hBB h0)
  have HBA := Lib.hid (hBA h0)
  clear hBB hBA hOB hOA
  have hu0 := hown
  have d1 : decide ((0 : Int) < (vn : Int)) = true := decide_eq_true (by omega)
  have HJ := Lib.hid (show joinL (tats B) (tats A) (lowS name) vs = tats (B ++ [(lowS name, .slice none 0 0, sortU vs)] ++ A) by unfold joinL; rw [if_neg (by omega), tats_append, tats_append]; rfl)
  clear hv
  go_enter Tryz.func103, Tryz.ntmps103
  go_wp2_with fail
  refine (lower_s name w (by omega)).mono ?_
  rintro e w1 ⟨rfl, hb⟩
  have HB1 := Lib.hid (HB.out.below hb)
  have HA1 := Lib.hid (HA.out.below hb)
  have HBB1 := Lib.hid (HBB.out.below hb)
  have HBA1 := Lib.hid (HBA.out.below hb)
  have hown1 := own_below hown hb
  have HW1 := Lib.hid (hb.mono hbase)
  have hsz1 := hb.size
  obtain ⟨lw, hlw⟩ : ∃ x, lowS name = x := ⟨_, rfl⟩
  rw [hlw] at HJ
  have HLW := Lib.hid hlw
  rw [hlw]
  clear hlw
  clear hb hown hu0 HB HA HBB HBA
  go_wp2_with fail
  refine (ascending_s base vn (.slice vo vn vc) vs w1 hown1 hvl (by omega)).mono ?_
  rintro e w2 ⟨u, rfl, hu, hg, hub⟩
  have HB2 := Lib.hid (HBB1.out.ts HB1.out hg)
  have HA2 := Lib.hid (HBA1.out.ts HA1.out hg)
  have HTB := Lib.hid (HBB1.out.ok hg)
  have HTA := Lib.hid (HBA1.out.ok hg)
  have HHd := Lib.hid (hdr_owns hu)
  obtain ⟨un, hun⟩ : ∃ x, (sortU vs).length = x := ⟨_, rfl⟩
  rw [hun] at hu
  obtain ⟨uo, uc, rfl, _⟩ := strs_own hu hun
  have HUN := Lib.hid hun
  clear hun
  have HW2 := Lib.hid (HW1.out.grown hg (by omega) (fun q hq => (hown1.lt q hq).1))
  have hsz2 := hg.size
  clear hu hg hub hown1 HB1 HA1 HBB1 HBA1
  have tok : True := trivial
  go_wp2_with (first
   | (at_builtin; have _t := tok; go_must (refine app_grow (w2.alloc (.cells #[.string lw, .slice uo un uc] 41)) (.tmp 12) (.tmp 18) ao ⟨w2.heap.size, 0, none⟩ B.length 1 1 B [(lw, .slice uo un uc, sortU vs)] ?_ ?_ ?_ ?_ (HB2.out.below ((Below.refl _ w2).alloc (Nat.le_refl _) _)) hz hp (ts_new1 w2 (lw, .slice uo un uc, sortU vs)) ?_ ?_ ?_ ?_; exact rfl; exact rfl; exact rfl; exact rfl; exact (fun t ht => by rw [List.mem_singleton.1 ht]; exact HHd.out.below ((Below.refl _ w2).alloc (Nat.le_refl _) _)); omega; omega; intro v3 w3 hown3 hb3; clear tok; have hba : Below w2.heap.size w2 w3 := ((Below.refl w2.heap.size w2).alloc (Nat.le_refl _) _).trans (hb3.mono (by simp)); have HBW := Lib.hid hba; have HA3 := Lib.hid (HA2.out.below hba); have HTA3 := Lib.hid (HTA.out.below hba); have HTB3 := Lib.hid (HTB.out.below hba); have HH3 := Lib.hid (HHd.out.below hba); have HW3 := Lib.hid (HW2.out.trans (hba.mono (by omega))); have hsz3 := hba.size; have hsz4 := hb3.size))
   | (at_builtin; go_must (refine app_attrs w3 hown3 (.tmp 20) (.tmp 21) bo A.length c A ?_ ?_ ?_ ?_ HA3.out HTA3.out ?_ ?_ ?_; exact rfl; exact rfl; exact rfl; exact rfl; omega; exact hsz4; intro v4 w4 hown4 hg4 hl4)))
  have hown5 := hown4
  rw [← tcells_append] at hown5
  have hbw4 : Below w2.heap.size w2 w4 := HBW.out.grown hg4 hsz3 (fun q hq => by have := (hown3.lt q hq).1; simp at this; omega)
  obtain ⟨_, xo, xc, rfl, hat, _⟩ := ts_owns hown5
  have hJL : (joinL (tats B) (tats A) lw vs).length = B.length + 1 + A.length := by rw [HJ.out, tats_len, List.length_append, List.length_append]; rfl
  go_ret
  refine ⟨xo, xc, by rw [HLW.out, hJL]; rfl, ?_, HW2.out.trans (hbw4.mono (by omega))⟩
  rw [HLW.out, hJL, HJ.out]
  have e : tats (B ++ [(lw, Value.slice none 0 0, sortU vs)] ++ A) = tats (B ++ [(lw, Value.slice uo un uc, sortU vs)] ++ A) := by rw [tats_append, tats_append, tats_append, tats_append]; rfl
  rw [e]
  exact ts_ats hat (((HTB.out.below hbw4).app (fun t ht => by rw [List.mem_singleton.1 ht]; exact HHd.out.below hbw4)).app (HTA.out.below hbw4))
 ·obtain rfl : vn = 0 := by omega
  have d1 : decide ((0 : Int) < ((0 : Nat) : Int)) = false := decide_eq_false (by omega)
  have HJ := Lib.hid (show joinL (tats B) (tats A) (lowS name) vs = tats (B ++ A) by unfold joinL; rw [if_pos hvl, List.append_nil, tats_append])
  have HJL := Lib.hid (show (joinL (tats B) (tats A) (lowS name) vs).length = B.length + A.length by rw [HJ.out, tats_len, List.length_append])
  have HTB := Lib.hid hOB
  have HTA := Lib.hid hOA
  clear hv hBB hBA hOB hOA
  go_enter Tryz.func103, Tryz.ntmps103
  go_wp2_with (at_builtin; go_must (refine app_onto w (.tmp 20) (.tmp 21) ao bo B.length A.length c B A ?_ ?_ ?_ ?_ HB.out hz hp HA.out HTB.out HTA.out ?_ ?_; exact rfl; exact rfl; exact rfl; exact rfl; omega; intro xo cap w' hat hb2 _ _ _))
  go_ret
  refine ⟨xo, cap, by rw [HJL.out]; rfl, ?_, hb2.mono hbase⟩
  rw [HJL.out, HJ.out]
  exact ts_ats hat ((HTB.out.app HTA.out).below hb2)
set_option maxRecDepth 100000 in
set_option maxHeartbeats 4000000 in
theorem limited_s (ao vo bo : Option Addr) (vn vc c base : Nat) (B A : List Tr) (name : ByteArray) (vs : List ByteArray) (w : World)
  (hB : TsAt w ao B.length B.length B) (hz : ao = none → B.length = 0) (hp : ∀ ad, ao = some ad → ad.spot = none) (hA : TsAt w bo A.length c A)
  (hBB : 0 < vn → Beside w base (.slice vo vn vc) ao B) (hBA : 0 < vn → Beside w base (.slice vo vn vc) bo A) (hOB : TOk w B) (hOA : TOk w A) (hv : 0 < vn → w.ownsRow base 9 1 (.slice vo vn vc) vn (scells vs)) (hvl : vs.length = vn)
  (hbl : B.length ≤ 3000) (hal : A.length ≤ 3000) (hvn : vn ≤ 1100000) (hns : name.size ≤ 1100000) (hbase : base ≤ w.heap.size) :
  Calls Tryz.prog 100 #[.slice ao B.length B.length, .string name, .slice vo vn vc, .slice bo A.length c] w fun e w' => ∃ v, e = .returned (.tuple #[v, .int .i64 (limR (joinL (tats B) (tats A) (lowS name) vs) vs.length).2]) ∧ AttsR w' v (limR (joinL (tats B) (tats A) (lowS name) vs) vs.length).1 ∧ Below base w w' := by
 have HJ := Lib.hid (joined_s ao vo bo vn vc c base B A name vs w hB hz hp hA hBB hBA hOB hOA hv hvl hbl hal hvn hns hbase)
 obtain ⟨J, hJ⟩ : ∃ x, joinL (tats B) (tats A) (lowS name) vs = x := ⟨_, rfl⟩
 rw [hJ] at HJ
 rw [hJ]
 have hjl : J.length ≤ 9000 := by
  rw [← hJ]; unfold joinL
  rw [List.length_append, List.length_append, tats_len, tats_len]
  split
  ·simp; omega
  ·simp; omega
 clear hJ hB hz hp hA hBB hBA hOB hOA hv
 go_enter Tryz.func100, Tryz.ntmps100
 go_wp2_with fail
 refine HJ.out.mono ?_
 rintro e w1 ⟨xo, xc, rfl, hat, hb⟩
 have HR : Hid (AttsR w1 (.slice xo J.length xc) J) := Lib.hid ⟨xo, _, xc, rfl, hat⟩
 have HB := Lib.hid hb
 clear hat hb HJ
 by_cases h1 : 32 < J.length
 ·have d1 : decide ((32 : Int) < (J.length : Int)) = true := decide_eq_true (by omega)
  have HL := Lib.hid (show limR J vs.length = ([], 3) from if_pos (.inl h1))
  go_wp2_with fail
  go_ret2
  exact ⟨_, by rw [HL.out]; rfl, by rw [HL.out]; exact atts_nil _, HB.out⟩
 ·have d1 : decide ((32 : Int) < (J.length : Int)) = false := decide_eq_false (by omega)
  by_cases h2 : 16 < vn
  ·have d2 : decide ((16 : Int) < (vn : Int)) = true := decide_eq_true (by omega)
   have HL := Lib.hid (show limR J vs.length = ([], 3) from if_pos (.inr (by rw [hvl]; exact h2)))
   go_wp2_with fail
   go_ret2
   exact ⟨_, by rw [HL.out]; rfl, by rw [HL.out]; exact atts_nil _, HB.out⟩
  ·have d2 : decide ((16 : Int) < (vn : Int)) = false := decide_eq_false (by omega)
   have HL := Lib.hid (show limR J vs.length = (J, 0) from if_neg (by rw [hvl]; omega))
   go_wp2_with fail
   go_ret2
   exact ⟨_, by rw [HL.out]; rfl, by rw [HL.out]; exact HR.out, HB.out⟩
theorem wth_mem {l : List At} {lw : ByteArray} {a : At} (h : a ∈ wthL l lw) : a ∈ nf l := (List.mem_filter.1 h).1
theorem sub_asc {l : List At} {T B M A : List Tr} {lw : ByteArray} {hv : Value} (hT : tats T = nf l) (h : Parts T lw B M A hv) : Asc ((tats B).map (·.1)) ∧ Asc ((tats A).map (·.1)) := by
 have e := nf_names_asc hT
 rw [h.all, tats_append, tats_append, List.map_append, List.map_append] at e
 exact ⟨List.Pairwise.sublist (by simp) e, List.Pairwise.sublist (by simp) e⟩
theorem join_with {l : List At} {T B M A : List Tr} {hv : Value} {name : ByteArray} (hT : tats T = nf l) (h : Parts T (lowS name) B M A hv) (vs : List ByteArray) : joinL (tats B) (tats A) (lowS name) vs = withL l name vs := by
 obtain ⟨hB, hA⟩ := sub_asc hT h
 have hm := parts_mid hT h
 have hnf := nf_NF l
 have hmem : ∀ a, a ∈ tats B ∨ a ∈ tats A → a ∈ nf l := fun a ha => wth_mem (lw := lowS name) (by rw [← hm]; exact List.mem_append.2 ha)
 have hlo : ∀ a ∈ tats B, cmpS a.1 (lowS name) < 0 := fun a ha => by obtain ⟨t, ht, rfl⟩ := List.mem_map.1 ha; exact h.lo t ht
 have hhi : ∀ a ∈ tats A, cmpS (lowS name) a.1 < 0 := fun a ha => by obtain ⟨t, ht, rfl⟩ := List.mem_map.1 ha; exact h.hi t ht
 have hj : ∀ a, a ∈ joinL (tats B) (tats A) (lowS name) vs ↔ (a ∈ tats B ∨ a ∈ tats A) ∨ (vs ≠ [] ∧ a = (lowS name, sortU vs)) := by
  intro a
  unfold joinL
  rw [List.mem_append, List.mem_append]
  by_cases e : vs.length = 0
  ·have e' : vs = [] := List.length_eq_zero_iff.1 e
   rw [if_pos e]
   simp [e']
  ·have e' : vs ≠ [] := fun k => e (by rw [k]; rfl)
   rw [if_neg e]
   simp only [List.mem_singleton, ne_eq, e', not_false_eq_true, true_and]
   constructor
   ·rintro ((k | k) | k)
    ·exact .inl (.inl k)
    ·exact .inr k
    ·exact .inl (.inr k)
   ·rintro ((k | k) | k)
    ·exact .inl (.inl k)
    ·exact .inr k
    ·exact .inl (.inr k)
 have hNF : NF (joinL (tats B) (tats A) (lowS name) vs) := by
  refine ⟨?_, fun a ha => ?_, fun a ha => ?_, fun a ha => ?_⟩
  ·unfold joinL Asc
   rw [List.map_append, List.map_append]
   refine List.pairwise_append.2 ⟨List.pairwise_append.2 ⟨hB, ?_, ?_⟩, hA, ?_⟩
   ·split
    ·exact List.Pairwise.nil
    ·exact List.pairwise_singleton _ _
   ·intro x hx y hy
    obtain ⟨a, ha, rfl⟩ := List.mem_map.1 hx
    obtain ⟨b, hb, rfl⟩ := List.mem_map.1 hy
    split at hb
    ·exact absurd hb List.not_mem_nil
    ·rw [List.mem_singleton.1 hb]; exact hlo a ha
   ·intro x hx y hy
    obtain ⟨b, hb, rfl⟩ := List.mem_map.1 hy
    rcases List.mem_append.1 hx with k | k
    ·obtain ⟨a, ha, rfl⟩ := List.mem_map.1 k
     exact cs_trans (hlo a ha) (hhi b hb)
    ·obtain ⟨a, ha, rfl⟩ := List.mem_map.1 k
     split at ha
     ·exact absurd ha List.not_mem_nil
     ·rw [List.mem_singleton.1 ha]; exact hhi b hb
  ·rcases (hj a).1 ha with k | ⟨_, rfl⟩
   ·exact hnf.low a (hmem a k)
   ·exact lowS_low name
  ·rcases (hj a).1 ha with k | ⟨_, rfl⟩
   ·exact hnf.vasc a (hmem a k)
   ·exact sortU_asc vs
  ·rcases (hj a).1 ha with k | ⟨e, rfl⟩
   ·exact hnf.ne a (hmem a k)
   ·exact fun k => e (sortU_nil.1 k)
 refine nf_ext hNF (nf_NF _) fun n v => ?_
 unfold withL
 rw [hs_nf]
 unfold Hs Hl
 constructor
 ·rintro ⟨a, ha, e, hv⟩
  rcases (hj a).1 ha with k | ⟨_, rfl⟩
  ·refine ⟨a, List.mem_append_left _ (by rw [← hm]; exact List.mem_append.2 k), ?_, hv⟩
   rw [hnf.low a (hmem a k)]; exact e
  ·exact ⟨(name, vs), List.mem_append_right _ (List.mem_singleton.2 rfl), e, sortU_mem.1 hv⟩
 ·rintro ⟨a, ha, e, hv⟩
  rcases List.mem_append.1 ha with k | k
  ·rw [← hm] at k
   have k' := List.mem_append.1 k
   refine ⟨a, (hj a).2 (.inl k'), ?_, hv⟩
   rw [← hnf.low a (hmem a k')]; exact e
  ·rw [List.mem_singleton.1 k] at e hv
   exact ⟨(lowS name, sortU vs), (hj _).2 (.inr ⟨List.ne_nil_of_mem hv, rfl⟩), e, sortU_mem.2 hv⟩
theorem parts_own {l : List At} {T B M A : List Tr} {lw : ByteArray} {hv v : Value} {w : World} {base : Nat} (hT : tats T = nf l) (h : Parts T lw B M A hv) (hO : TOwn w base v T) : w.ownsRow base 9 1 hv (vals l lw).length (scells (vals l lw)) := by
 rcases h.mid with ⟨hM, rfl⟩ | ⟨vs, hM⟩
 ·obtain ⟨ao, n, cap, e, hs⟩ := parts_vals hT h hO.ok
  cases e
  have e : vals l lw = [] := List.length_eq_zero_iff.1 hs.1
  rw [e]; exact World.ownsRow_nil _ _ _ _
 ·have hm : (lw, hv, vs) ∈ T := by rw [h.all, hM]; simp
  have h2 : (lw, vs) ∈ nf l := by rw [← hT]; exact List.mem_map.2 ⟨_, hm, rfl⟩
  have e' : vs = vals l lw := (nf_mem.1 h2).1
  rw [← e']
  exact (hO _ hm).1
theorem parts_beside {T B M A : List Tr} {lw : ByteArray} {hv : Value} {w : World} {base n cap : Nat} {ao bo : Option Addr} {xs : List Value} (h : Parts T lw B M A hv) (hO : TOwn w base (.slice ao n cap) T) (hAp : TApart T) (hown : w.ownsRow base 41 2 (.slice ao n cap) n xs) (hL : Lies ao bo) :
  Beside w base hv ao B ∧ Beside w base hv bo A := by
 have hne : ∀ t, t ∈ B ∨ t ∈ A → t.2.1.ownBlock = none ∨ t.2.1.ownBlock ≠ hv.ownBlock := by
  intro t ht
  rcases h.mid with ⟨hM, rfl⟩ | ⟨vs, hM⟩
  ·cases hb : t.2.1.ownBlock with
   | none => exact .inl rfl
   | some g => exact .inr (by simp [Value.ownBlock])
  ·have hall := h.all
   rw [hM] at hall
   unfold TApart at hAp
   rw [hall] at hAp
   rcases ht with k | k
   ·have := (List.pairwise_append.1 (List.pairwise_append.1 hAp).1).2.2 t k (lw, hv, vs) (List.mem_singleton.2 rfl)
    exact this
   ·have := (List.pairwise_append.1 hAp).2.2 (lw, hv, vs) (List.mem_append_right _ (List.mem_singleton.2 rfl)) t k
    exact apart_symm this
 have hrow : ∀ b off, ao = some ⟨b, off, none⟩ → hv.ownBlock ≠ some b := by
  intro b off e k
  rcases h.mid with ⟨hM, rfl⟩ | ⟨vs, hM⟩
  ·simp [Value.ownBlock] at k
  ·have hm : (lw, hv, vs) ∈ T := by rw [h.all, hM]; simp
   rcases (hO _ hm).2 with j | j
   ·rw [k] at j; cases j
   ·exact j (by rw [k, e]; rfl)
 have hlt : ∀ b off, ao = some ⟨b, off, none⟩ → b < w.heap.size := fun b off e => (hown.lt b (by rw [e]; rfl)).2
 refine ⟨⟨fun t ht => ⟨(hO t (by rw [h.all]; simp [ht])).1, hne t (.inl ht)⟩, hrow, hlt⟩, fun t ht => ⟨(hO t (by rw [h.all]; simp [ht])).1, hne t (.inr ht)⟩, fun b off e => ?_, fun b off e => ?_⟩
 ·obtain ⟨b', o1, o2, e1, e2⟩ := hL _ e
  cases e1
  exact hrow _ _ e2
 ·obtain ⟨b', o1, o2, e1, e2⟩ := hL _ e
  cases e1
  exact hlt _ _ e2
theorem Beside.grown {w w' : World} {base : Nat} {v v' : Value} {ao : Option Addr} {T : List Tr} (h : Beside w base v ao T) (hg : w.grownBy w' v.ownBlock) (hl : v'.ownBlock = v.ownBlock ∨ v'.ownBlock = some w.heap.size) : Beside w' base v' ao T := by
 refine ⟨TOwn.grown (v := v) h.own hg hl, fun b off e k => ?_, fun b off e => Nat.lt_of_lt_of_le (h.lt b off e) hg.size⟩
 rcases hl with j | j
 ·exact h.row b off e (by rw [← j, k])
 ·rw [k] at j
  cases j
  exact Nat.lt_irrefl _ (h.lt _ off e)
theorem Beside.fresh {w w' : World} {base : Nat} {v v' : Value} {ao : Option Addr} {T : List Tr} (h : Beside w base v ao T) (hb : Below w.heap.size w w') (hv : ∀ g, v'.ownBlock = some g → w.heap.size ≤ g) : Beside w' base v' ao T := by
 refine ⟨fun t ht => ⟨own_below (h.own t ht).1 hb, ?_⟩, fun b off e k => ?_, fun b off e => Nat.lt_of_lt_of_le (h.lt b off e) hb.size⟩
 ·exact not_block (Bk := w.heap.size) (fun g e => ((h.own t ht).1.lt g e).2) hv
 ·have := hv b k
  have := h.lt b off e
  omega
theorem Beside.tok {w : World} {base : Nat} {v : Value} {ao : Option Addr} {T : List Tr} (h : Beside w base v ao T) : TOk w T := fun t ht => hdr_owns (h.own t ht).1
set_option maxRecDepth 100000 in
set_option maxHeartbeats 4000000 in
theorem add_s (ao vo : Option Addr) (n cap vn vc : Nat) (l : List At) (name : ByteArray) (vs : List ByteArray) (w : World) (h : AttrsAt w ao n cap l) (hv : StrsAt w vo vn vc vs) (hF : Edit l vs) (hns : name.size ≤ 1100000) :
  Calls Tryz.prog 56 #[.slice ao n cap, .string name, .slice vo vn vc] w fun e w' => ∃ v, e = .returned (.tuple #[v, .int .i64 (addR l name vs).2]) ∧ AttsR w' v (addR l name vs).1 ∧ Below w.heap.size w w' := by
 have hvl : vs.length = vn := hv.1
 have HV := Lib.hid hv
 have HR := Lib.hid (sorted_s ao n cap l w h hF.few)
 have HF := Lib.hid hF
 clear h hv hF
 cases hnm : nameB name with
 | false =>
  have HL := Lib.hid (show addR l name vs = ([], 5) from if_pos hnm)
  go_enter Tryz.func56, Tryz.ntmps56
  go_wp2_with (go_at_call 39; refine (name_s name _ (by omega)).mono ?_; rintro e w' ⟨rfl, rfl⟩; rw [hnm])
  go_ret2
  exact ⟨_, by rw [HL.out]; rfl, by rw [HL.out]; exact atts_nil _, Below.refl _ _⟩
 | true =>
  by_cases hz : vn = 0
  ·have HL := Lib.hid (show addR l name vs = ([], 6) by unfold addR; rw [if_neg (by rw [hnm]; simp), if_pos (by omega)])
   have q0 : ((vn : Int) == 0) = true := by simpa using hz
   clear hz hvl
   go_enter Tryz.func56, Tryz.ntmps56
   go_wp2_with (go_at_call 39; refine (name_s name _ (by omega)).mono ?_; rintro e w' ⟨rfl, rfl⟩; rw [hnm])
   go_ret2
   exact ⟨_, by rw [HL.out]; rfl, by rw [HL.out]; exact atts_nil _, Below.refl _ _⟩
  ·have q0 : ((vn : Int) == 0) = false := by simpa using hz
   have hvn : vn ≤ 1050000 := by rw [← hvl]; exact HF.out.vlen
   have hlen := Nat.le_trans (nf_len l) HF.out.few.len
   have HL0 := Lib.hid (show addR l name vs = if chkV vs (vals l (lowS name)) ≠ 0 then ([], chkV vs (vals l (lowS name))) else limR (withL l name (vals l (lowS name) ++ vs)) (vals l (lowS name) ++ vs).length by unfold addR; rw [if_neg (by rw [hnm]; simp), if_neg (by omega)])
   go_enter Tryz.func56, Tryz.ntmps56
   go_wp2_with (go_at_call 39; refine (name_s name _ (by omega)).mono ?_; rintro e w' ⟨rfl, rfl⟩; rw [hnm])
   refine HR.out.mono ?_
   rintro e w1 ⟨v, T, rfl, hT, hTO, hTA, hown, hb⟩
   obtain ⟨hTl, xo, xc, rfl, hat, _, hzz, hp⟩ := ts_owns hown
   have HRD := Lib.hid (around_s xo T.length xc T name w1 hat (nf_names_asc hT) (by rw [← tats_len, hT]; exact hlen) hzz hp hns)
   have HB1 := Lib.hid hb
   have HT := Lib.hid hT
   have HTO := Lib.hid hTO
   have HTA := Lib.hid hTA
   have HOW := Lib.hid hown
   have hTl2 : T.length ≤ 3000 := by rw [← tats_len, hT]; exact hlen
   have HP0 := Lib.hid hp
   have hxz : xo = none → xc = 0 := hzz
   clear HR hat hTO hTA hb hown hT hlen hzz hp hTl
   go_wp2_with fail
   refine HRD.out.mono ?_
   rintro e w2 ⟨B, M, A, hv, bo, c, rfl, hP, hTB, hTA2, hL, hb⟩
   have HPA := Lib.hid hP
   have hOwn := own_below (parts_own HT.out hP HTO.out) hb
   obtain ⟨hBB, hBA⟩ := parts_beside hP HTO.out HTA.out HOW.out hL
   have HBB := Lib.hid (hBB.below hb)
   have HBA := Lib.hid (hBA.below hb)
   have HTB := Lib.hid hTB
   have HTA2 := Lib.hid hTA2
   have HB2 := Lib.hid (HB1.out.trans (hb.mono HB1.out.size))
   have hBl : B.length ≤ 3000 := by have := congrArg List.length hP.all; rw [List.length_append, List.length_append] at this; omega
   have hAl : A.length ≤ 3000 := by have := congrArg List.length hP.all; rw [List.length_append, List.length_append] at this; omega
   have hzB : xo = none → B.length = 0 := fun e => by
    rcases Nat.eq_zero_or_pos B.length with k | k
    ·exact k
    ·obtain ⟨_, _, e2, _⟩ := hTB.2.2.2 k
     rw [e] at e2; cases e2
   have HJ := Lib.hid (join_with (name := name) HT.out hP)
   obtain ⟨old, hold⟩ : ∃ x, vals l (lowS name) = x := ⟨_, rfl⟩
   have hol : old.length ≤ 25000 := by rw [← hold]; exact Nat.le_trans (vals_len _ _) HF.out.tot
   have HOS := Lib.hid (show SmallS old by rw [← hold]; exact vals_small HF.out.small _)
   rw [hold] at hOwn HL0
   obtain ⟨yn, hyn⟩ : ∃ x, old.length = x := ⟨_, rfl⟩
   rw [hyn] at hOwn
   obtain ⟨yo, yc, rfl, hy⟩ := strs_own hOwn hyn
   have HY := Lib.hid hy
   have HC := Lib.hid (checkNew_s yo vo yn vn yc vc old vs w2 hy (HV.out.below HB2.out) (by omega) (by omega) HOS.out HF.out.vsmall)
   obtain ⟨cc, hc⟩ : ∃ x, chkV vs old = x := ⟨_, rfl⟩
   rw [hc] at HC HL0
   clear hP hL hb hBB hBA hTB hTA2 hy hold hc HRD HTO HTA HOW HPA
   go_wp2_with fail
   refine HC.out.mono ?_
   rintro e w3 ⟨rfl, hb⟩
   have HB3 := Lib.hid (HB2.out.trans (hb.mono HB2.out.size))
   have HBB3 := Lib.hid (HBB.out.below hb)
   have HBA3 := Lib.hid (HBA.out.below hb)
   have HTB3 := Lib.hid (HTB.out.below hb)
   have HTA3 := Lib.hid (HTA2.out.below hb)
   have hOwn3 := own_below hOwn hb
   have HV3 := Lib.hid (HV.out.below HB3.out)
   clear hb HC HTB HTA2 HBB HBA hOwn HY
   by_cases h0 : cc = 0
   ·subst h0
    have HL := Lib.hid (show addR l name vs = limR (withL l name (old ++ vs)) (old ++ vs).length by rw [HL0.out, if_neg (by simp)])
    clear HL0
    have hsz3 := HB3.out.size
    go_wp2_with (at_builtin; go_must (refine push_strs w3 hOwn3 (.tmp 34) (.tmp 35) HV3.out ?_ ?_ ?_ ?_ ?_ ?_ ?_; exact rfl; exact rfl; exact rfl; exact rfl; omega; exact hsz3; intro v5 w5 hown5 hg5 hl5))
    have he : (old ++ vs).length = yn + vn := by rw [List.length_append]; omega
    have hown6 : w5.ownsRow w.heap.size 9 1 v5 (yn + vn) (scells (old ++ vs)) := by
     have e2 : scells (old ++ vs) = scells old ++ scells vs := by unfold scells; rw [List.map_append]
     rw [e2]; exact hown5
    have hBB5 := HBB3.out.grown hg5 hl5
    have hBA5 := HBA3.out.grown hg5 hl5
    have hTB5 := HBB3.out.ts HTB3.out hg5
    have hTA5 := HBA3.out.ts HTA3.out hg5
    have HB5 := Lib.hid (HB3.out.grown hg5 hsz3 (fun q hq => (hOwn3.lt q hq).1))
    obtain ⟨zo, zc, rfl, _⟩ := strs_own hown6 he
    have HW := Lib.hid (limited_s xo zo bo (yn + vn) zc c w.heap.size B A name (old ++ vs) w5 hTB5 hzB HP0.out hTA5 (fun _ => hBB5) (fun _ => hBA5) hBB5.tok hBA5.tok (fun _ => hown6) he hBl hAl (by omega) hns HB5.out.size)
    rw [HJ.out] at HW
    clear hown6 hown5 hg5 hl5 hBB5 hBA5 hTB5 hTA5 hOwn3
    go_wp2_with fail
    refine HW.out.mono ?_
    rintro e w6 ⟨v6, rfl, hR, hb⟩
    go_wp2_with fail
    go_ret2
    exact ⟨_, by rw [HL.out, he]; rfl, by rw [HL.out]; exact hR, HB5.out.trans hb⟩
   ·have HL := Lib.hid (show addR l name vs = ([], cc) by rw [HL0.out, if_pos h0])
    have q1 : (cc != 0) = true := by simpa using h0
    go_wp2_with fail
    go_ret2
    exact ⟨_, by rw [HL.out]; rfl, by rw [HL.out]; exact atts_nil _, HB3.out⟩
set_option maxRecDepth 100000 in
set_option maxHeartbeats 4000000 in
theorem clone_s (vo : Option Addr) (vn vc : Nat) (vs : List ByteArray) (w : World) (h : StrsAt w vo vn vc vs) (hn : vn ≤ 1100000) :
  Calls Tryz.prog 104 #[.slice vo vn vc] w fun e w' => ∃ u, e = .returned u ∧ w'.ownsRow w.heap.size 9 1 u vn (scells vs) ∧ Below w.heap.size w w' := by
 have HV := Lib.hid h
 cases vo with
 | none =>
  have hv0 : vn = 0 := by
   rcases Nat.eq_zero_or_pos vn with k | k
   ·exact k
   ·obtain ⟨_, _, e, _⟩ := h.2.2.2 k; cases e
  subst hv0
  have e0 : vs = [] := List.length_eq_zero_iff.1 h.1
  subst e0
  have q22 := fun w => Lib.run_eql_slice_nil (P := Tryz.prog) w 38 _ none 0 vc 0 0 Tryz.underlying38
  clear h
  go_enter Tryz.func104, Tryz.ntmps104
  go_wp2_with fail
  go_ret
  exact ⟨_, rfl, World.ownsRow_nil _ _ _ _, Below.refl _ _⟩
 | some ad =>
  have q22 := fun w => Lib.run_eql_slice_nil (P := Tryz.prog) w 38 _ (some ad) vn vc 0 0 Tryz.underlying38
  have hown0 : (w.alloc (.cells #[] 9)).ownsRow w.heap.size 9 1 (.slice (some ⟨w.heap.size, 0, none⟩) 0 0) 0 [] := World.ownsRow_made w #[] 0 (Nat.le_refl _) (by unfold maxLen; omega) rfl
  have HB0 := Lib.hid ((Below.refl w.heap.size w).alloc (Nat.le_refl _) (.cells #[] 9))
  have HV1 := Lib.hid (h.below HB0.out)
  have hsz := HB0.out.size
  clear h
  go_enter Tryz.func104, Tryz.ntmps104
  go_wp2_with (at_builtin; go_must (refine push_strs (w.alloc (.cells #[] 9)) hown0 (.tmp 5) (.tmp 6) HV1.out ?_ ?_ ?_ ?_ ?_ ?_ ?_; exact rfl; exact rfl; exact rfl; exact rfl; omega; exact hsz; intro v5 w5 hown5 hg5 hl5))
  go_ret
  have hb5 := HB0.out.grown hg5 hsz (fun q hq => (hown0.lt q hq).1)
  exact ⟨_, rfl, by rw [Nat.zero_add] at hown5; exact hown5, hb5⟩
set_option maxRecDepth 100000 in
set_option maxHeartbeats 4000000 in
theorem rep_s (ao vo : Option Addr) (n cap vn vc : Nat) (l : List At) (name : ByteArray) (vs : List ByteArray) (w : World) (h : AttrsAt w ao n cap l) (hv : StrsAt w vo vn vc vs) (hF : Edit l vs) (hns : name.size ≤ 1100000) :
  Calls Tryz.prog 58 #[.slice ao n cap, .string name, .slice vo vn vc] w fun e w' => ∃ v, e = .returned (.tuple #[v, .int .i64 (repR l name vs).2]) ∧ AttsR w' v (repR l name vs).1 ∧ Below w.heap.size w w' := by
 have hvl : vs.length = vn := hv.1
 have hvn : vn ≤ 1050000 := by rw [← hvl]; exact hF.vlen
 have HV := Lib.hid hv
 have HA := Lib.hid h
 have HC := Lib.hid (checkNew_s none vo 0 vn 0 vc [] vs w (strs_nil w) hv (by omega) (by omega) (fun v hv => (List.not_mem_nil hv).elim) hF.vsmall)
 have HF := Lib.hid hF
 clear h hv hF
 cases hnm : nameB name with
 | false =>
  have HL := Lib.hid (show repR l name vs = ([], 5) from if_pos hnm)
  go_enter Tryz.func58, Tryz.ntmps58
  go_wp2_with (go_at_call 39; refine (name_s name _ (by omega)).mono ?_; rintro e w' ⟨rfl, rfl⟩; rw [hnm])
  go_ret2
  exact ⟨_, by rw [HL.out]; rfl, by rw [HL.out]; exact atts_nil _, Below.refl _ _⟩
 | true =>
  obtain ⟨cc, hc⟩ : ∃ x, chkV vs [] = x := ⟨_, rfl⟩
  rw [hc] at HC
  by_cases h0 : cc = 0
  ·subst h0
   have HL := Lib.hid (show repR l name vs = limR (withL l name vs) vs.length by unfold repR; rw [if_neg (by rw [hnm]; simp), if_neg (by rw [hc]; simp)])
   have hlen := Nat.le_trans (nf_len l) HF.out.few.len
   clear hc
   go_enter Tryz.func58, Tryz.ntmps58
   go_wp2_with (go_at_call 39; refine (name_s name _ (by omega)).mono ?_; rintro e w' ⟨rfl, rfl⟩; rw [hnm])
   refine HC.out.mono ?_
   rintro e w0 ⟨rfl, hb⟩
   have HR := Lib.hid (sorted_s ao n cap l w0 (HA.out.below hb) HF.out.few)
   have HB0 := Lib.hid hb
   clear hb HC
   go_wp2_with fail
   refine HR.out.mono ?_
   rintro e w1 ⟨v, T, rfl, hT, hTO, hTA, hown, hb⟩
   obtain ⟨hTl, xo, xc, rfl, hat, _, hzz, hp⟩ := ts_owns hown
   have HRD := Lib.hid (around_s xo T.length xc T name w1 hat (nf_names_asc hT) (by rw [← tats_len, hT]; exact hlen) hzz hp hns)
   have HB1 := Lib.hid (HB0.out.trans (hb.mono HB0.out.size))
   have hsz0 := HB0.out.size
   have HT := Lib.hid hT
   have HTO := Lib.hid (hTO.mono hsz0)
   have HTA := Lib.hid hTA
   have HOW := Lib.hid (hown.mono hsz0)
   have hTl2 : T.length ≤ 3000 := by rw [← tats_len, hT]; exact hlen
   have HP0 := Lib.hid hp
   clear HR hat hTO hTA hb hown hT hlen hzz hp hTl
   go_wp2_with fail
   refine HRD.out.mono ?_
   rintro e w2 ⟨B, M, A, hv, bo, c, rfl, hP, hTB, hTA2, hL, hb⟩
   obtain ⟨hBB, hBA⟩ := parts_beside hP HTO.out HTA.out HOW.out hL
   have HBB := Lib.hid (hBB.below hb)
   have HBA := Lib.hid (hBA.below hb)
   have HTB := Lib.hid hTB
   have HTA2 := Lib.hid hTA2
   have HB2 := Lib.hid (HB1.out.trans (hb.mono HB1.out.size))
   have hBl : B.length ≤ 3000 := by have := congrArg List.length hP.all; rw [List.length_append, List.length_append] at this; omega
   have hAl : A.length ≤ 3000 := by have := congrArg List.length hP.all; rw [List.length_append, List.length_append] at this; omega
   have hzB : xo = none → B.length = 0 := fun e => by
    rcases Nat.eq_zero_or_pos B.length with k | k
    ·exact k
    ·obtain ⟨_, _, e2, _⟩ := hTB.2.2.2 k
     rw [e] at e2; cases e2
   have HJ := Lib.hid (join_with (name := name) HT.out hP)
   have HCL := Lib.hid (clone_s vo vn vc vs w2 (HV.out.below HB2.out) (by omega))
   clear hP hL hb hBB hBA hTB hTA2 HRD HTO HTA HOW
   go_wp2_with fail
   refine HCL.out.mono ?_
   rintro e w3 ⟨u, rfl, hown, hb⟩
   have hsz2 := HB2.out.size
   have hBB3 := HBB.out.fresh (v' := u) hb (fun g e => (hown.lt g e).1)
   have hBA3 := HBA.out.fresh (v' := u) hb (fun g e => (hown.lt g e).1)
   have HB3 := Lib.hid (HB2.out.trans (hb.mono HB2.out.size))
   obtain ⟨zo, zc, rfl, _⟩ := strs_own hown hvl
   have HW := Lib.hid (limited_s xo zo bo vn zc c w.heap.size B A name vs w3 (HTB.out.below hb) hzB HP0.out (HTA2.out.below hb) (fun _ => hBB3) (fun _ => hBA3) hBB3.tok hBA3.tok (fun _ => hown.mono hsz2) hvl hBl hAl (by omega) hns HB3.out.size)
   rw [HJ.out] at HW
   clear hown hBB3 hBA3 hb HCL
   go_wp2_with fail
   refine HW.out.mono ?_
   rintro e w6 ⟨v6, rfl, hR, hb⟩
   go_wp2_with fail
   go_ret2
   exact ⟨_, by rw [HL.out, hvl]; rfl, by rw [HL.out]; exact hR, HB3.out.trans hb⟩
  ·have HL := Lib.hid (show repR l name vs = ([], cc) by unfold repR; rw [if_neg (by rw [hnm]; simp), hc, if_pos h0])
   have q1 : (cc != 0) = true := by simpa using h0
   clear hc
   go_enter Tryz.func58, Tryz.ntmps58
   go_wp2_with (go_at_call 39; refine (name_s name _ (by omega)).mono ?_; rintro e w' ⟨rfl, rfl⟩; rw [hnm])
   refine HC.out.mono ?_
   rintro e w1 ⟨rfl, hb⟩
   go_wp2_with fail
   go_ret2
   exact ⟨_, by rw [HL.out]; rfl, by rw [HL.out]; exact atts_nil _, hb⟩
end Go.Proofs.YtonfkhkalodldabGreatDoor
end

section
set_option maxRecDepth 100000
namespace Go.Proofs.YtonfkhkalodldabGreatDoor
open Go.RowKit Go.PlainAid Go.Maps Go.ChangeMaps Go.Sort
structure BMap (w : World) (b n : Nat) (D : DataW Unit) (f : ByteArray → Bool) : Prop where
 map : w.ownsMap Tryz.prog 9 (plainElem Tryz.prog 4) b n D
 reads : ∀ k : ByteArray, D.atKey (klit k) (.lit (.bool false)) = .lit (.bool (f k))
theorem BMap.of {w : World} {b n : Nat} {D : DataW Unit} {ks : List ByteArray} (h : SetM w b n D ks) : BMap w b n D (memB ks) := ⟨h.map, h.reads⟩
theorem BMap.look {w : World} {b n : Nat} {D : DataW Unit} {f : ByteArray → Bool} (G : BMap w b n D f) (k : ByteArray) (hk : k.size ≤ maxLen) :
  (Instr.lookup 77 (.map (some b)) (.string k) false).run Tryz.prog w = .ok (.bool (f k)) w := by
 obtain ⟨v, ps, hrun, hv⟩ := G.map.lookup (t := 77) (e := 4) (string_keyed Tryz.underlying9) Tryz.underlying77 (z := .bool false) (Tryz.zeroValue4 _) (plainElem_bool Tryz.underlying4 false) (klit_key k hk)
 rw [G.reads k] at hv
 have hv' : v = .bool (f k) := plain_bool Tryz.underlying4 hv
 rw [hrun, hv']
theorem BMap.kept {w w' : World} {b n : Nat} {D : DataW Unit} {f : ByteArray → Bool} {row : Option Nat} (G : BMap w b n D f) (hg : w.grownBy w' row) (hne : some b ≠ row) : BMap w' b n D f := ⟨G.map.kept hg hne, G.reads⟩
theorem BMap.below {w w' : World} {b n : Nat} {D : DataW Unit} {f : ByteArray → Bool} (G : BMap w b n D f) (hb : Below w.heap.size w w') : BMap w' b n D f :=
 G.kept (row := none) ⟨hb.os, hb.tape, hb.output, hb.size, fun k hk _ => hb.block k hk⟩ (by simp)
theorem BMap.drop {w : World} {b n : Nat} {D : DataW Unit} {f : ByteArray → Bool} (G : BMap w b n D f) (k : ByteArray) (hk : k.size ≤ maxLen) (ty : TypeId) :
  ∃ w', (Builtin.delete_ #[77, 9] ty #[.map (some b), .string k]).run Tryz.prog w = .ok (.tuple #[]) w' ∧ BMap w' b n (D.del (klit k)) (fun j => f j && !decide (k = j)) ∧ w.grownBy w' (some b) := by
 obtain ⟨w', hrun, hm, ht⟩ := G.map.drop (t := 77) (e := 4) (string_keyed Tryz.underlying9) Tryz.underlying77 (klit_key k hk) ty
 refine ⟨w', hrun, ⟨hm, fun j => ?_⟩, ht.grown⟩
 by_cases e : k = j
 ·subst e
  rw [atKey_del_same]; simp
 ·rw [atKey_del_other (fun h => e (klit_one h).symm), G.reads j]
  simp [e]
theorem BMap.cleared {w : World} {b n : Nat} {D : DataW Unit} {f : ByteArray → Bool} (G : BMap w b n D f) (ty : TypeId) :
  ∃ w', (Builtin.clear_ #[77] ty #[.map (some b)]).run Tryz.prog w = .ok (.tuple #[]) w' ∧ BMap w' b n (.map []) (fun _ => false) ∧ w.grownBy w' (some b) := by
 obtain ⟨es, clock, hb, F, hs, hD⟩ := G.map
 have hsame := heap_setBlock_same hb (.map #[] clock)
 refine ⟨setBlock w b (.map #[] clock), ?_, ⟨⟨#[], clock, hsame, ⟨by simp, MapKept.stamped_empty _, by simp⟩, by simp, rfl⟩, fun j => rfl⟩, World.mapTurned.grown ⟨es, clock, #[], clock, hb, rfl⟩⟩
 simp [Builtin.clear_, run_underlying Tryz.underlying77, MapKept.run_getObj_map hb, MapKept.run_setObj_map _ hb, Result.andThen]
 rfl
abbrev Sm := { s : ByteArray // s.size ≤ maxLen }
instance : Inhabited Sm := ⟨⟨⟨#[]⟩, by show 0 ≤ maxLen; unfold maxLen; omega⟩⟩
def encSm (x : Sm) : Value := .string x.1
theorem one_sm : OneCell encSm := fun _ => rfl
theorem lift_sm {l : List ByteArray} (h : ∀ v ∈ l, v.size ≤ maxLen) : ∃ d : List Sm, d.map (·.1) = l := by
 induction l with
 | nil => exact ⟨[], rfl⟩
 | cons v l ih =>
  obtain ⟨d, rfl⟩ := ih fun x hx => h x (List.mem_cons_of_mem _ hx)
  exact ⟨⟨v, h v (List.mem_cons_self ..)⟩ :: d, rfl⟩
theorem enc_sm (d : List Sm) : d.map encSm = scells (d.map (·.1)) := by unfold scells; rw [List.map_map]; rfl
theorem heap_put {w : World} {g q : Nat} {cur : Array Value} {e : TypeId} {fr : Nat × Nat} (d : Array Sm) (hb : w.heap[g]? = some (.cells cur e fr)) :
  (putRow encSm (Sort.ahead w q) g 0 d).heap[g]? = some (.cells (putCells encSm 0 d cur) e fr) := by
 simp [putRow, mapBlock, Sort.ahead, Array.getElem?_modify, hb, onCells]
theorem grown_put {w : World} {g q : Nat} (d : Array Sm) : w.grownBy (putRow encSm (Sort.ahead w q) g 0 d) (some g) := by
 refine ⟨rfl, rfl, rfl, by simp [putRow, mapBlock, Sort.ahead], fun k hk hne => ?_⟩
 have : g ≠ k := fun e => hne (by rw [e])
 simp [putRow, mapBlock, Sort.ahead, Array.getElem?_modify, this]
theorem take_put (cur : Array Value) (ts : List Sm) (h : ts.length ≤ cur.size) : (putCells encSm 0 ts.toArray cur).toList.take ts.length = ts.map encSm := by
 apply List.ext_getElem?
 intro j
 by_cases hj : j < ts.length
 ·rw [List.getElem?_take_of_lt hj, Array.getElem?_toList]
  simp [putCells, hj, show j < cur.size by omega]
 ·rw [List.getElem?_take_eq_none (by omega), List.getElem?_eq_none (by simp; omega)]
theorem own_cut1 {w : World} {base g cap n : Nat} {xs : List Value} (h : w.ownsRow base 9 1 (.slice (some ⟨g, 0, none⟩) n cap) n xs) (i : Nat) (hi : i ≤ n) :
  w.ownsRow base 9 1 (.slice (some ⟨g, 0, none⟩) i cap) i (xs.take i) := by
 obtain ⟨hl, ⟨he, _⟩ | ⟨g', cap', cur, he, h2, h3, h4, h5, h6, h7⟩⟩ := h
 ·cases he
 ·cases he
  refine ⟨by rw [List.length_take, hl]; omega, .inr ⟨g, cap, cur, rfl, h2, h3, by omega, h5, h6, ?_⟩⟩
  rw [← h7, List.take_take, Nat.min_eq_left (by omega), Nat.mul_one]
set_option maxRecDepth 100000 in
theorem rem1_s (v : ByteArray) (hv : v.size ≤ maxLen) (bx mb n : Nat) (D : DataW Unit) (f : ByteArray → Bool) (W : World) (hbox : W.cell? ⟨bx, 0, none⟩ = some (.map (some mb))) (G : BMap W mb n D f) :
  Calls Tryz.prog 102 #[.string v, .pointer (some ⟨bx, 0, none⟩)] W fun e w' => e = .returned (.bool (!f v)) ∧ w' = W := by
 have hlook := G.look v hv
 clear G
 go_enter Tryz.func102, Tryz.ntmps102
 go_wp2_with fail
 go_ret
 exact ⟨rfl, rfl⟩
def zrSm : Sm := ⟨⟨#[]⟩, by show 0 ≤ maxLen; unfold maxLen; omega⟩
theorem delv_s (base g cap n bx mb nn : Nat) (D : DataW Unit) (f : ByteArray → Bool) (l : List ByteArray) (w : World) (hown : w.ownsRow base 9 1 (.slice (some ⟨g, 0, none⟩) n cap) n (scells l)) (hl : l.length = n) (hs : ∀ v ∈ l, v.size ≤ maxLen)
  (hbox : w.cell? ⟨bx, 0, none⟩ = some (.map (some mb))) (G : BMap w mb nn D f) (h1 : bx ≠ g) (h2 : mb ≠ g) (hn : n ≤ 1100000) :
  Calls Tryz.prog 101 #[.slice (some ⟨g, 0, none⟩) n cap, .func (.func 102) #[] #[.pointer (some ⟨bx, 0, none⟩)]] w fun e w' =>
   e = .returned (.slice (some ⟨g, 0, none⟩) (l.filter f).length cap) ∧ w'.ownsRow base 9 1 (.slice (some ⟨g, 0, none⟩) (l.filter f).length cap) (l.filter f).length (scells (l.filter f)) ∧ w.grownBy w' (some g) := by
 obtain ⟨d, rfl⟩ := lift_sm hs
 rw [List.length_map] at hl
 subst hl
 have hfil : (d.map (·.1)).filter f = (d.filter fun x => f x.1).map (·.1) := by rw [List.filter_map]; rfl
 obtain ⟨ks, hks⟩ : ∃ x, (d.filter fun x => f x.1) = x := ⟨_, rfl⟩
 have hkl : ks.length ≤ d.length := by rw [← hks]; exact List.length_filter_le _ _
 rw [hfil, hks, List.length_map]
 rcases hown.2 with ⟨he, _⟩ | ⟨g', cap', cur, he, hb, hg, hc, hm, hcs, ht⟩
 ·cases he
 ·cases he
  rw [Nat.mul_one] at ht hcs
  have hgl : g < w.heap.size := (Array.getElem?_eq_some_iff.1 hg).1
  have hH : Holds encSm w g 0 d.toArray := by
   intro j hj
   have hj' : j < d.length := by simpa using hj
   refine ⟨?_, by simp [World.frozen?, hg]⟩
   have := hown.cellAt j (by omega)
   rw [Nat.zero_add, this, ← enc_sm]
   simp [hj']
  have key := AnyE.slices_DeleteFunc Tryz.deletef encSm one_sm (fun x => !f x.1) 102 #[.pointer (some ⟨bx, 0, none⟩)] (enters_of Tryz.func102 (by kernel_rfl) rfl) zrSm (fun w => Tryz.zeroValue9 w)
   g 0 cap d.toArray w (fun W x hb => by
    refine (rem1_s x.1 x.2 bx mb nn D f W (cell_later hb hbox) (G.below hb)).mono ?_
    rintro e w' ⟨rfl, rfl⟩
    exact ⟨rfl, 0, rfl⟩) (fun m os dk x hsz => by
    have hgr : w.grownBy (sortWorld encSm w g 0 m dk os) (some g) := by
     refine grown_two (grown_put (q := m) dk) ⟨rfl, rfl, rfl, ?_, fun k hk _ => heap_grow_old _ _ hk⟩
     show _ ≤ (_ ++ os).size
     rw [Array.size_append]; omega
    refine (rem1_s x.1 x.2 bx mb nn D f _ (hgr.cell hbox (fun e => h1 (by cases e; rfl))) (G.kept hgr (fun e => h2 (by cases e; rfl)))).mono ?_
    rintro e w' ⟨rfl, rfl⟩
    exact ⟨rfl, 0, rfl⟩) hH (by simp; omega) (by simpa using hc)
  simp only [Bool.not_not, List.size_toArray, hks] at key
  refine key.mono ?_
  rintro e w' ⟨rfl, q, rfl⟩
  refine ⟨rfl, ?_, grown_put _⟩
  have ho : (putRow encSm (Sort.ahead w q) g 0 (ks ++ List.replicate (d.length - ks.length) zrSm).toArray).ownsRow base 9 1 (.slice (some ⟨g, 0, none⟩) d.length cap) d.length ((ks ++ List.replicate (d.length - ks.length) zrSm).map encSm) :=
   ⟨by simp; omega, .inr ⟨g, cap, _, rfl, hb, heap_put _ hg, hc, hm, by simp [putCells, hcs], by
    have hl2 : (ks ++ List.replicate (d.length - ks.length) zrSm).length = d.length := by rw [List.length_append, List.length_replicate]; omega
    have := take_put cur (ks ++ List.replicate (d.length - ks.length) zrSm) (by rw [hl2, hcs]; exact hc)
    rw [hl2] at this
    rw [Nat.mul_one]; exact this⟩⟩
  have hc2 := own_cut1 ho ks.length hkl
  rw [← List.map_take, List.take_left, enc_sm] at hc2
  exact hc2
end Go.Proofs.YtonfkhkalodldabGreatDoor
end

section
set_option maxRecDepth 100000
namespace Go.Proofs.YtonfkhkalodldabGreatDoor
open Go.RowKit Go.PlainAid Go.Maps Go.ChangeMaps
def leftF (old vs : List ByteArray) (j : Nat) (k : ByteArray) : Bool := memB old k && !memB (vs.take j) k
theorem leftF_step {old vs : List ByteArray} {j : Nat} (h : j < vs.length) : (fun k => leftF old vs j k && !decide (partAt vs j = k)) = leftF old vs (j + 1) := by
 funext k
 unfold leftF
 rw [take_snoc vs j h, memB_snoc]
 cases memB old k <;> cases memB (vs.take j) k <;> cases decide (partAt vs j = k) <;> rfl
theorem left_filter {old vs : List ByteArray} (h : 0 < vs.length) : old.filter (leftF old vs vs.length) = leftV old vs := by
 unfold leftV
 refine List.filter_congr fun v hv => ?_
 unfold leftF
 rw [memB_iff.2 hv, List.take_length, decide_eq_true h]
theorem left_none {old vs : List ByteArray} (h : vs.length = 0) : old.filter (fun _ => false) = leftV old vs := by
 unfold leftV
 refine List.filter_congr fun v hv => ?_
 rw [decide_eq_false (by omega)]; rfl
theorem Beside.later {w w' : World} {base f : Nat} {v : Value} {ao : Option Addr} {T : List Tr} (h : Beside w base v ao T) (hb : Below f w w') (hf : w.heap.size ≤ f) : Beside w' base v ao T := h.below (hb.mono hf)
set_option maxRecDepth 100000 in
set_option maxHeartbeats 8000000 in
theorem rem_s (ao vo : Option Addr) (n cap vn vc : Nat) (l : List At) (name : ByteArray) (vs : List ByteArray) (w : World) (h : AttrsAt w ao n cap l) (hv : StrsAt w vo vn vc vs) (hF : Edit l vs) (hns : name.size ≤ 1100000) :
  Calls Tryz.prog 57 #[.slice ao n cap, .string name, .slice vo vn vc] w fun e w' => ∃ v, e = .returned (.tuple #[v, .int .i64 (remR l name vs).2]) ∧ AttsR w' v (remR l name vs).1 ∧ Below w.heap.size w w' := by
 have hvl : vs.length = vn := hv.1
 have hvm : vn ≤ 9223372036854775807 := Nat.le_trans hv.2.1 hv.2.2.1
 have HV := Lib.hid hv
 have HR := Lib.hid (sorted_s ao n cap l w h hF.few)
 have HF := Lib.hid hF
 clear h hv hF
 cases hnm : nameB name with
 | false =>
  have HL := Lib.hid (show remR l name vs = ([], 5) from if_pos hnm)
  go_enter Tryz.func57, Tryz.ntmps57
  go_wp2_with (go_at_call 39; refine (name_s name _ (by omega)).mono ?_; rintro e w' ⟨rfl, rfl⟩; rw [hnm])
  go_ret2
  exact ⟨_, by rw [HL.out]; rfl, by rw [HL.out]; exact atts_nil _, Below.refl _ _⟩
 | true =>
  have hlen := Nat.le_trans (nf_len l) HF.out.few.len
  have HL0 := Lib.hid (show remR l name vs = if (vals l (lowS name)).length = 0 then ([], 6) else if remE vs (vals l (lowS name)) ≠ 0 then ([], 6) else (withL l name (leftV (vals l (lowS name)) vs), 0) by unfold remR; rw [if_neg (by rw [hnm]; simp)])
  go_enter Tryz.func57, Tryz.ntmps57
  go_wp2_with (go_at_call 39; refine (name_s name _ (by omega)).mono ?_; rintro e w' ⟨rfl, rfl⟩; rw [hnm])
  refine HR.out.mono ?_
  rintro e w1 ⟨v, T, rfl, hT, hTO, hTA, hown, hb⟩
  obtain ⟨hTl, xo, xc, rfl, hat, _, hzz, hp⟩ := ts_owns hown
  have HRD := Lib.hid (around_s xo T.length xc T name w1 hat (nf_names_asc hT) (by rw [← tats_len, hT]; exact hlen) hzz hp hns)
  have HB1 := Lib.hid hb
  have HT := Lib.hid hT
  have HTO := Lib.hid hTO
  have HTA := Lib.hid hTA
  have HOW := Lib.hid hown
  have hTl2 : T.length ≤ 3000 := by rw [← tats_len, hT]; exact hlen
  have HP0 := Lib.hid hp
  clear HR hat hTO hTA hb hown hT hlen hzz hp hTl
  go_wp2_with fail
  refine HRD.out.mono ?_
  rintro e w2 ⟨B, M, A, hv, bo, c, rfl, hP, hTB, hTA2, hL, hb⟩
  have hOwn := own_below (parts_own HT.out hP HTO.out) hb
  obtain ⟨hBB, hBA⟩ := parts_beside hP HTO.out HTA.out HOW.out hL
  have HBB := Lib.hid (hBB.below hb)
  have HBA := Lib.hid (hBA.below hb)
  have HTB := Lib.hid hTB
  have HTA2 := Lib.hid hTA2
  have HB2 := Lib.hid (HB1.out.trans (hb.mono HB1.out.size))
  have hBl : B.length ≤ 3000 := by have := congrArg List.length hP.all; rw [List.length_append, List.length_append] at this; omega
  have hAl : A.length ≤ 3000 := by have := congrArg List.length hP.all; rw [List.length_append, List.length_append] at this; omega
  have hzB : xo = none → B.length = 0 := fun e => by
   rcases Nat.eq_zero_or_pos B.length with k | k
   ·exact k
   ·obtain ⟨_, _, e2, _⟩ := hTB.2.2.2 k
    rw [e] at e2; cases e2
  have HJ := Lib.hid (join_with (name := name) HT.out hP)
  obtain ⟨old, hold⟩ : ∃ x, vals l (lowS name) = x := ⟨_, rfl⟩
  have hol : old.length ≤ 25000 := by rw [← hold]; exact Nat.le_trans (vals_len _ _) HF.out.tot
  have HOS := Lib.hid (show SmallS old by rw [← hold]; exact vals_small HF.out.small _)
  rw [hold] at hOwn HL0
  obtain ⟨yn, hyn⟩ : ∃ x, old.length = x := ⟨_, rfl⟩
  rw [hyn] at hOwn HL0
  clear hold hP hL hb hBB hBA hTB hTA2 HRD HTO HTA HOW
  by_cases hz : yn = 0
  ·have HL := Lib.hid (show remR l name vs = ([], 6) by rw [HL0.out, if_pos hz])
   obtain ⟨yo, yc, rfl, hy⟩ := strs_own hOwn hyn
   have q0 : ((yn : Int) == 0) = true := by simpa using hz
   clear hz hyn
   go_wp2_with fail
   go_ret2
   exact ⟨_, by rw [HL.out]; rfl, by rw [HL.out]; exact atts_nil _, HB2.out⟩
  ·have HL1 := Lib.hid (show remR l name vs = if remE vs old ≠ 0 then ([], 6) else (withL l name (leftV old vs), 0) by rw [HL0.out, if_neg hz])
   have q0 : ((yn : Int) == 0) = false := by simpa using hz
   obtain ⟨g, yc, rfl, hbg, hgl⟩ := hOwn.form (by omega)
   have hy : StrsAt w2 (some ⟨g, 0, none⟩) yn yc old := own_strs hOwn hyn
   have HSO := Lib.hid (setOf_s _ yn yc old w2 hy (by omega) HOS.out)
   have HOwn := Lib.hid hOwn
   clear hy hz HL0 hOwn
   go_wp2_with fail
   refine HSO.out.mono ?_
   rintro e w3 ⟨rfl, ⟨D0, hS⟩, hb⟩
   have G0 := Lib.hid (BMap.of hS)
   have HB3 := Lib.hid hb
   have hs3 := hb.size
   have hm3 : w2.heap.size < w3.heap.size := hS.map.lt
   clear hS hb HSO
   go_wp2_with fail
   obtain ⟨W4, hW4⟩ : ∃ x, w3.alloc (.cells #[.map (some w2.heap.size)] 77) = x := ⟨_, rfl⟩
   have hb4 : Below w3.heap.size w3 W4 := by rw [← hW4]; exact (Below.refl _ w3).alloc (Nat.le_refl _) _
   have hbox : W4.cell? ⟨w3.heap.size, 0, none⟩ = some (.map (some w2.heap.size)) := by rw [← hW4]; exact cell_one_new _ _ _ 0 _ rfl
   have G4 := Lib.hid (G0.out.below hb4)
   have HB4 := Lib.hid (HB3.out.trans (hb4.mono hs3))
   have hs4 : w3.heap.size < W4.heap.size := by rw [← hW4]; simp
   rw [hW4]
   clear hW4 hb4 G0
   go_loopw [13, 32] (fun s13 iv wr => ∃ (j : Nat) (D : DataW Unit), j ≤ vn ∧ iv = .int .i64 j ∧ Hid (∀ q, q < j → errR vs old q = 0) ∧ Hid (BMap wr w2.heap.size yn D (leftF old vs j)) ∧ Hid (W4.grownBy wr (some w2.heap.size))) (fun _ iv _ => vn - (intOf iv).toNat)
   case atStart => exact ⟨0, D0, Nat.zero_le _, rfl, Lib.hid (fun q hq => absurd hq (Nat.not_lt_zero _)), Lib.hid (by
    have e : memB old = leftF old vs 0 := by funext k; unfold leftF; rw [List.take_zero]; simp [memB]
    rw [← e]; exact G4.out), Lib.hid (grown_refl _ _)⟩
   case round =>
    obtain ⟨j, D, hj, rfl, HE, HG, HW⟩ := hrel
    have hboxr := HW.out.cell hbox (fun e => by have e' : w3.heap.size = w2.heap.size := Option.some.inj e; omega)
    by_cases hlt : j < vn
    ·obtain ⟨b, off, rfl, hs⟩ := HV.out.2.2.2 (by omega)
     have hb1 : b < w.heap.size := hs.1
     have hsz2 := HB2.out.size
     have hcell2 := (hs.below HB2.out hs.1).2 j (by omega)
     have hcell4 := (HB4.out.cell (p := ⟨b, off + j, none⟩) (by show b < _; omega)).trans hcell2
     have hcell := HW.out.cell hcell4 (fun e => by have e' : b = w2.heap.size := Option.some.inj e; omega)
     clear hs hcell2 hcell4
     have HER := Lib.hid (show errR vs old j = if memB old (partAt vs j) = false ∨ memB (vs.take j) (partAt vs j) = true then 6 else 0 from rfl)
     have HFE := Lib.hid (fun (e : errR vs old j ≠ 0) => firstE_hit (f := errR vs old) (n := vs.length) HE.out e (by omega))
     have HST := Lib.hid (leftF_step (old := old) (vs := vs) (j := j) (by omega))
     obtain ⟨p, hp⟩ : ∃ x, partAt vs j = x := ⟨_, rfl⟩
     have hps : p.size ≤ 1100000 := by rw [← hp]; exact HF.out.vsmall _ (part_mem vs j (by omega))
     rw [hp] at hcell HER HST
     clear hp
     have hlook := HG.out.look p (by unfold maxLen; omega)
     have d1 : (j : Int) < (vn : Int) := by omega
     obtain ⟨t, ht⟩ : ∃ x, leftF old vs j p = x := ⟨_, rfl⟩
     rw [ht] at hlook
     cases t with
     | false =>
      have HL := Lib.hid (show remR l name vs = ([], 6) by
       unfold leftF at ht
       have hc : memB old p = false ∨ memB (vs.take j) p = true := by
        cases h1 : memB old p
        ·exact .inl rfl
        ·rw [h1] at ht; cases h2 : memB (vs.take j) p
         ·rw [h2] at ht; simp at ht
         ·exact .inr rfl
       rw [if_pos hc] at HER
       have h5 := HFE.out (by rw [HER.out]; decide)
       rw [HL1.out, if_pos (by unfold remE; rw [h5, HER.out]; decide)])
      clear ht
      go_wp2_with fail
      go_ret2
      refine ⟨_, by rw [HL.out]; rfl, by rw [HL.out]; exact atts_nil _, ?_⟩
      exact (HB2.out.trans (HB4.out.mono hsz2)).grown HW.out (by omega) (fun q hq => by have := Option.some.inj hq; omega)
     | true =>
      have HZ := Lib.hid (show errR vs old j = 0 by
       unfold leftF at ht
       rw [Bool.and_eq_true] at ht
       have h2 : memB (vs.take j) p = false := by simpa using ht.2
       rw [HER.out, ht.1, h2]; simp)
      clear ht
      obtain ⟨w', hrun, hG, hg⟩ := HG.out.drop p (by unfold maxLen; omega) 0
      have hrun2 := fun ty => (HG.out.drop p (by unfold maxLen; omega) ty)
      rw [HST.out] at hG
      have HG2 := Lib.hid hG
      have HW2 := Lib.hid (grown_two HW.out hg)
      clear hG hg hrun2
      go_wp2_with fail
      go_roundw
      case rel =>
       refine ⟨j + 1, _, by omega, by go_num, Lib.hid fun q hq => ?_, HG2, HW2⟩
       by_cases e : q = j
       ·rw [e]; exact HZ.out
       ·exact HE.out q (by omega)
      case measure => simp [intOf]; omega
    ·obtain rfl : vn = j := by omega
     have HL := Lib.hid (show remR l name vs = (withL l name (leftV old vs), 0) by
      rw [HL1.out, if_neg]
      rw [Classical.not_not]
      exact firstE_zero fun q hq => HE.out q (by omega))
     have hsw2 := HB2.out.size
     have hgne : (Value.slice (some ⟨g, 0, none⟩) yn yc).ownBlock = none ∨ (Value.slice (some ⟨g, 0, none⟩) yn yc).ownBlock ≠ some w2.heap.size := .inr (fun e => by have e' : g = w2.heap.size := Option.some.inj e; omega)
     have HOr := Lib.hid ((own_below HOwn.out HB4.out).kept HW.out hgne)
     have HBr := Lib.hid (HB4.out.grown HW.out (by omega) (fun q hq => by have := Option.some.inj hq; omega))
     clear HE HL1
     by_cases hv0 : vn = 0
     ·have q1 : ((vn : Int) == 0) = true := by simpa using hv0
      obtain ⟨wc, hrun, hGc, hgc⟩ := HG.out.cleared 0
      have HGc := Lib.hid hGc
      have HOc := Lib.hid (HOr.out.kept hgc hgne)
      have HBc := Lib.hid (HBr.out.grown hgc (by have := HBr.out.size; omega) (fun q hq => by have := Option.some.inj hq; omega))
      have hboxc := hgc.cell hboxr (fun e => by have e' : w3.heap.size = w2.heap.size := Option.some.inj e; omega)
      have hfe := left_none (old := old) (vs := vs) (by omega)
      have HFE := Lib.hid hfe
      clear hGc hgc hfe hv0 hvl
      have HD := Lib.hid (delv_s w.heap.size g yc yn w3.heap.size w2.heap.size yn (.map []) (fun _ => false) old wc HOc.out hyn (fun v hv => Nat.le_trans (HOS.out v hv) (by unfold maxLen; omega)) hboxc HGc.out (by omega) (by omega) (by omega))
      rw [HFE.out] at HD
      have HBW := Lib.hid (HBc.out)
      obtain ⟨m, hm⟩ : ∃ x, (leftV old vs).length = x := ⟨_, rfl⟩
      have hml : m ≤ 25000 := by rw [← hm]; exact Nat.le_trans (left_len old vs) hol
      rw [hm] at HD
      go_wp2_with fail
      refine HD.out.mono ?_
      rintro e w5 ⟨rfl, hown5, hg5⟩
      have hBBr := HBB.out.below HBW.out
      have hBAr := HBA.out.below HBW.out
      have hBB5 := hBBr.grown (v' := .slice (some ⟨g, 0, none⟩) m yc) hg5 (.inl rfl)
      have hBA5 := hBAr.grown (v' := .slice (some ⟨g, 0, none⟩) m yc) hg5 (.inl rfl)
      have hTB5 := hBBr.ts (HTB.out.below HBW.out) hg5
      have hTA5 := hBAr.ts (HTA2.out.below HBW.out) hg5
      have hs6 := HBW.out.size
      have hsw := HB2.out.size
      have HB5 := Lib.hid ((HB2.out.trans (HBW.out.mono hsw)).grown hg5 (by omega) (fun q hq => by have := Option.some.inj hq; omega))
      have HJN := Lib.hid (joined_s xo (some ⟨g, 0, none⟩) bo m yc c w.heap.size B A name (leftV old vs) w5 hTB5 hzB HP0.out hTA5 (fun _ => hBB5) (fun _ => hBA5) hBB5.tok hBA5.tok (fun _ => hown5) hm hBl hAl (by omega) hns HB5.out.size)
      rw [HJ.out] at HJN
      clear hBBr hBAr hBB5 hBA5 hTB5 hTA5 hown5 hg5
      go_wp2_with fail
      refine HJN.out.mono ?_
      rintro e w6 ⟨zo, zc, rfl, hat, hb⟩
      go_wp2_with fail
      go_ret2
      exact ⟨_, by rw [HL.out]; rfl, by rw [HL.out]; exact ⟨zo, _, zc, rfl, hat⟩, HB5.out.trans hb⟩
     ·have q1 : ((vn : Int) == 0) = false := by simpa using hv0
      have HFE := Lib.hid (show old.filter (leftF old vs vn) = leftV old vs by rw [← hvl]; exact left_filter (by omega))
      clear hv0 hvl
      have HD := Lib.hid (delv_s w.heap.size g yc yn w3.heap.size w2.heap.size yn D (leftF old vs vn) old wr HOr.out hyn (fun v hv => Nat.le_trans (HOS.out v hv) (by unfold maxLen; omega)) hboxr HG.out (by omega) (by omega) (by omega))
      rw [HFE.out] at HD
      have HBW := Lib.hid (HBr.out)
      obtain ⟨m, hm⟩ : ∃ x, (leftV old vs).length = x := ⟨_, rfl⟩
      have hml : m ≤ 25000 := by rw [← hm]; exact Nat.le_trans (left_len old vs) hol
      rw [hm] at HD
      go_wp2_with fail
      refine HD.out.mono ?_
      rintro e w5 ⟨rfl, hown5, hg5⟩
      have hBBr := HBB.out.below HBW.out
      have hBAr := HBA.out.below HBW.out
      have hBB5 := hBBr.grown (v' := .slice (some ⟨g, 0, none⟩) m yc) hg5 (.inl rfl)
      have hBA5 := hBAr.grown (v' := .slice (some ⟨g, 0, none⟩) m yc) hg5 (.inl rfl)
      have hTB5 := hBBr.ts (HTB.out.below HBW.out) hg5
      have hTA5 := hBAr.ts (HTA2.out.below HBW.out) hg5
      have hs6 := HBW.out.size
      have hsw := HB2.out.size
      have HB5 := Lib.hid ((HB2.out.trans (HBW.out.mono hsw)).grown hg5 (by omega) (fun q hq => by have := Option.some.inj hq; omega))
      have HJN := Lib.hid (joined_s xo (some ⟨g, 0, none⟩) bo m yc c w.heap.size B A name (leftV old vs) w5 hTB5 hzB HP0.out hTA5 (fun _ => hBB5) (fun _ => hBA5) hBB5.tok hBA5.tok (fun _ => hown5) hm hBl hAl (by omega) hns HB5.out.size)
      rw [HJ.out] at HJN
      clear hBBr hBAr hBB5 hBA5 hTB5 hTA5 hown5 hg5
      go_wp2_with fail
      refine HJN.out.mono ?_
      rintro e w6 ⟨zo, zc, rfl, hat, hb⟩
      go_wp2_with fail
      go_ret2
      exact ⟨_, by rw [HL.out]; rfl, by rw [HL.out]; exact ⟨zo, _, zc, rfl, hat⟩, HB5.out.trans hb⟩
end Go.Proofs.YtonfkhkalodldabGreatDoor
end

section
set_option maxRecDepth 100000
namespace Go.Proofs.YtonfkhkalodldabGreatDoor
open Go.RowKit Go.PlainAid
theorem sequal_s (vo uo : Option Addr) (vn un vc uc : Nat) (vs us : List ByteArray) (w : World) (h : StrsAt w vo vn vc vs) (k : StrsAt w uo un uc us) (h0 : 0 < vn) (k0 : 0 < un) :
  Calls Tryz.prog 54 #[.slice vo vn vc, .slice uo un uc] w fun e w' => e = .returned (.bool (decide (vs = us))) ∧ Below w.heap.size w w' := by
 obtain ⟨b, off, rfl, hi⟩ := h.2.2.2 h0
 obtain ⟨c, off2, rfl, hj⟩ := k.2.2.2 k0
 refine (AnyG.slices_Equal_string Tryz.equal b off vn vc c off2 un uc vs us w (by rw [h.1]; exact Nat.le_refl _) (by rw [k.1]; exact Nat.le_refl _) (Nat.le_trans h.2.1 h.2.2.1) (Nat.le_trans k.2.1 k.2.2.1) (fun j hj' => hi.2 j hj') (fun j hj' => hj.2 j hj')).mono ?_
 rintro e w' ⟨rfl, q, rfl⟩
 rw [List.take_of_length_le (by rw [h.1]; exact Nat.le_refl _), List.take_of_length_le (by rw [k.1]; exact Nat.le_refl _)]
 exact ⟨rfl, ⟨rfl, rfl, rfl, Nat.le_refl _, fun _ _ => rfl⟩⟩
end Go.Proofs.YtonfkhkalodldabGreatDoor
end
