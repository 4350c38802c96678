/-
  Contracts of attrs.joined and limited. Condition: at most 1000 attributes and 100000 values.
-/
import Derived.Test.YtahpocpagidahaaAttP4
set_option linter.unusedVariables false
set_option linter.unusedSimpArgs false
set_option linter.unnecessarySimpa false
namespace Go.Proofs.Ytahpocpagidahaa
open Go.RowKit Go.PlainAid

/-- 'append(l, ats...)' where l has no room, and something is appended: the new row is the call's own -/
theorem app_grow {ops : Array Oper} {rest : List Oper} {o : Oper} {a : Act} {Q : Exit → Act → World → Prop} (wr : World) (s x : Operand) (ao : Option Addr) (ad : Addr) (n m c : Nat) (olds news : List Tr) (hgd : o.guard = none)
    (ho : o.op = .call { callee := .builtin .append, args := #[s, x], argTypes := #[22, 22] })
    (hs : a.eval s = .slice ao n n) (hx : a.eval x = .slice (some ad) m c) (hold : TsAt wr ao n n olds) (hnone : ao = none → n = 0) (hplain : ∀ ad, ao = some ad → ad.spot = none) (hw : TsAt wr (some ad) m c news) (hT : TOk wr news) (hm : 0 < m) (hn : n + m ≤ 1000000)
    (h : ∀ v' w', w'.ownsRow wr.heap.size 42 2 v' (n + m) (tcells (olds ++ news)) → Below wr.heap.size wr w' → wpList Try.prog ops Q rest (a.put o.dst v') w') :
    wpList Try.prog ops Q (o :: rest) a wr := by
  obtain ⟨i0, hi, hz0, hz1, hz2⟩ := info_parts info_attr
  cases ao with
  | none =>
    have e0 := hnone rfl
    subst e0
    have e1 : olds = [] := List.length_eq_zero_iff.1 hold.1
    subst e1
    refine app_attrs wr (World.ownsRow_nil wr wr.heap.size 42 2) s x (some ad) m c news hgd ho hs hx hw hT (by omega) (Nat.le_refl _) ?_
    intro v' w' h1 h2 _
    exact h v' w' h1 ((Below.refl _ wr).grown h2 (Nat.le_refl _) (fun k hk => by cases hk))
  | some bd =>
    have hsp := hplain bd rfl
    obtain ⟨b, off, spot⟩ := bd
    simp only at hsp
    subst hsp
    refine wpList_append_grows wr hgd s x 22 ho 42 i0 (.agg #[.string ⟨#[]⟩, .slice none 0 0]) 2 40 Try.underlying22 hi hz0 hz1 hz2 rfl (by decide) (some ⟨b, off, none⟩) n n (tcells olds) hs (fun e => by cases e) (by rw [tcells_len, hold.1])
      (fun ad had j u hj => by cases had; exact ts_news hold j u hj) ad m c (tcells news) hx (by rw [tcells_len, hw.1]) (ts_news hw) (tcells_one hT) (by omega) (by unfold maxLen; omega) (by omega) ?_
    intro v' w' h1 h2
    exact h v' w' (by rw [tcells_append]; exact h1) ((Below.refl _ wr).grown h2 (Nat.le_refl _) (fun k hk => by cases hk))
/-- the rest of a list beside the values' slice v: its rows and the slices of its values lie apart from v's -/
structure Beside (w : World) (base : Nat) (v : Value) (ao : Option Addr) (T : List Tr) : Prop where
  own : ∀ t ∈ T, w.ownsRow base 9 1 t.2.1 t.2.2.length (scells t.2.2) ∧ (t.2.1.ownBlock = none ∨ t.2.1.ownBlock ≠ v.ownBlock)
  row : ∀ b off, ao = some ⟨b, off, none⟩ → v.ownBlock ≠ some b
  lt : ∀ b off, ao = some ⟨b, off, none⟩ → b < w.heap.size
theorem Beside.below {w w' : World} {base : Nat} {v : Value} {ao : Option Addr} {T : List Tr} (h : Beside w base v ao T) (hb : Below w.heap.size w w') : Beside w' base v ao T := ⟨fun t ht => ⟨own_below (h.own t ht).1 hb, (h.own t ht).2⟩, h.row, fun b off e => Nat.lt_of_lt_of_le (h.lt b off e) hb.size⟩
theorem Beside.ok {w w' : World} {base : Nat} {v : Value} {ao : Option Addr} {T : List Tr} (h : Beside w base v ao T) (hg : w.grownBy w' v.ownBlock) : TOk w' T := fun t ht => hdr_owns ((h.own t ht).1.kept hg (h.own t ht).2)
theorem Beside.ts {w w' : World} {base n cap : Nat} {v : Value} {ao : Option Addr} {T : List Tr} (h : Beside w base v ao T) (hT : TsAt w ao n cap T) (hg : w.grownBy w' v.ownBlock) : TsAt w' ao n cap T :=
  hT.keep hg.size fun b off e hb => hg.block b hb fun k => h.row b off e k.symm
theorem grown_none (w : World) : w.grownBy w none := ⟨rfl, rfl, rfl, Nat.le_refl _, fun _ _ _ => rfl⟩
theorem grown_refl (w : World) (row : Option Nat) : w.grownBy w row := ⟨rfl, rfl, rfl, Nat.le_refl _, fun _ _ _ => rfl⟩
/-- a list put together of its parts -/
def joinL (B A : List At) (lw : ByteArray) (vs : List ByteArray) : List At := B ++ (if vs.length = 0 then [] else [(lw, sortU vs)]) ++ A

set_option maxRecDepth 100000 in
set_option maxHeartbeats 4000000 in
theorem joined_s (ao vo bo : Option Addr) (vn vc c base : Nat) (B A : List Tr) (name : ByteArray) (vs : List ByteArray) (w : World)
    (hB : TsAt w ao B.length B.length B) (hz : ao = none → B.length = 0) (hp : ∀ ad, ao = some ad → ad.spot = none) (hA : TsAt w bo A.length c A)
    (hBB : 0 < vn → Beside w base (.slice vo vn vc) ao B) (hBA : 0 < vn → Beside w base (.slice vo vn vc) bo A) (hOB : TOk w B) (hOA : TOk w A) (hv : 0 < vn → w.ownsRow base 9 1 (.slice vo vn vc) vn (scells vs)) (hvl : vs.length = vn)
    (hbl : B.length ≤ 1000) (hal : A.length ≤ 1000) (hvn : vn ≤ 100000) (hns : name.size ≤ 1000000) (hbase : base ≤ w.heap.size) :
    Calls Try.prog 59 #[.slice ao B.length B.length, .string name, .slice vo vn vc, .slice bo A.length c] w fun e w' => ∃ xo xc, e = .returned (.slice xo (joinL (tats B) (tats A) (lowS name) vs).length xc) ∧ AttrsAt w' xo (joinL (tats B) (tats A) (lowS name) vs).length xc (joinL (tats B) (tats A) (lowS name) vs) ∧ Below base w w' := by
  have HB := Lib.hid hB
  have HA := Lib.hid hA
  have hcb : c ≤ 9223372036854775807 := hA.2.2.1
  clear hB hA
  by_cases h0 : 0 < vn
  · have hown := hv h0
    have HBB := Lib.hid (hBB h0)
    have HBA := Lib.hid (hBA h0)
    clear hBB hBA hOB hOA
    have hu0 := hown
    have d1 : decide ((0 : Int) < (vn : Int)) = true := decide_eq_true (by omega)
    have HJ := Lib.hid (show joinL (tats B) (tats A) (lowS name) vs = tats (B ++ [(lowS name, .slice none 0 0, sortU vs)] ++ A) by unfold joinL; rw [if_neg (by omega), tats_append, tats_append]; rfl)
    clear hv
    go_enter Try.func59, Try.ntmps59
    go_wp2_with fail
    refine (lower_s name w (by omega)).mono ?_
    rintro e w1 ⟨rfl, hb⟩
    have HB1 := Lib.hid (HB.out.below hb)
    have HA1 := Lib.hid (HA.out.below hb)
    have HBB1 := Lib.hid (HBB.out.below hb)
    have HBA1 := Lib.hid (HBA.out.below hb)
    have hown1 := own_below hown hb
    have HW1 := Lib.hid (hb.mono hbase)
    have hsz1 := hb.size
    obtain ⟨lw, hlw⟩ : ∃ x, lowS name = x := ⟨_, rfl⟩
    rw [hlw] at HJ
    have HLW := Lib.hid hlw
    rw [hlw]
    clear hlw
    clear hb hown hu0 HB HA HBB HBA
    go_wp2_with fail
    refine (ascending_s base vn (.slice vo vn vc) vs w1 hown1 hvl (by omega)).mono ?_
    rintro e w2 ⟨u, rfl, hu, hg, hub⟩
    have HB2 := Lib.hid (HBB1.out.ts HB1.out hg)
    have HA2 := Lib.hid (HBA1.out.ts HA1.out hg)
    have HTB := Lib.hid (HBB1.out.ok hg)
    have HTA := Lib.hid (HBA1.out.ok hg)
    have HHd := Lib.hid (hdr_owns hu)
    obtain ⟨un, hun⟩ : ∃ x, (sortU vs).length = x := ⟨_, rfl⟩
    rw [hun] at hu
    obtain ⟨uo, uc, rfl, _⟩ := strs_own hu hun
    have HUN := Lib.hid hun
    clear hun
    have HW2 := Lib.hid (HW1.out.grown hg (by omega) (fun q hq => (hown1.lt q hq).1))
    have hsz2 := hg.size
    clear hu hg hub hown1 HB1 HA1 HBB1 HBA1
    have tok : True := trivial
    go_wp2_with (first
      | (at_builtin; have _t := tok; go_must (refine app_grow (w2.alloc (.cells #[.string lw, .slice uo un uc] 42)) (.tmp 12) (.tmp 18) ao ⟨w2.heap.size, 0, none⟩ B.length 1 1 B [(lw, .slice uo un uc, sortU vs)] ?_ ?_ ?_ ?_ (HB2.out.below ((Below.refl _ w2).alloc (Nat.le_refl _) _)) hz hp (ts_new1 w2 (lw, .slice uo un uc, sortU vs)) ?_ ?_ ?_ ?_; exact rfl; exact rfl; exact rfl; exact rfl; exact (fun t ht => by rw [List.mem_singleton.1 ht]; exact HHd.out.below ((Below.refl _ w2).alloc (Nat.le_refl _) _)); omega; omega; intro v3 w3 hown3 hb3; clear tok; have hba : Below w2.heap.size w2 w3 := ((Below.refl w2.heap.size w2).alloc (Nat.le_refl _) _).trans (hb3.mono (by simp)); have HBW := Lib.hid hba; have HA3 := Lib.hid (HA2.out.below hba); have HTA3 := Lib.hid (HTA.out.below hba); have HTB3 := Lib.hid (HTB.out.below hba); have HH3 := Lib.hid (HHd.out.below hba); have HW3 := Lib.hid (HW2.out.trans (hba.mono (by omega))); have hsz3 := hba.size; have hsz4 := hb3.size))
      | (at_builtin; go_must (refine app_attrs w3 hown3 (.tmp 20) (.tmp 21) bo A.length c A ?_ ?_ ?_ ?_ HA3.out HTA3.out ?_ ?_ ?_; exact rfl; exact rfl; exact rfl; exact rfl; omega; exact hsz4; intro v4 w4 hown4 hg4 hl4)))
    have hown5 := hown4
    rw [← tcells_append] at hown5
    have hbw4 : Below w2.heap.size w2 w4 := HBW.out.grown hg4 hsz3 (fun q hq => by have := (hown3.lt q hq).1; simp at this; omega)
    obtain ⟨_, xo, xc, rfl, hat, _⟩ := ts_owns hown5
    have hJL : (joinL (tats B) (tats A) lw vs).length = B.length + 1 + A.length := by rw [HJ.out, tats_len, List.length_append, List.length_append]; rfl
    go_ret
    refine ⟨xo, xc, by rw [HLW.out, hJL]; rfl, ?_, HW2.out.trans (hbw4.mono (by omega))⟩
    rw [HLW.out, hJL, HJ.out]
    have e : tats (B ++ [(lw, Value.slice none 0 0, sortU vs)] ++ A) = tats (B ++ [(lw, Value.slice uo un uc, sortU vs)] ++ A) := by rw [tats_append, tats_append, tats_append, tats_append]; rfl
    rw [e]
    exact ts_ats hat (((HTB.out.below hbw4).app (fun t ht => by rw [List.mem_singleton.1 ht]; exact HHd.out.below hbw4)).app (HTA.out.below hbw4))
  · obtain rfl : vn = 0 := by omega
    have d1 : decide ((0 : Int) < ((0 : Nat) : Int)) = false := decide_eq_false (by omega)
    have HJ := Lib.hid (show joinL (tats B) (tats A) (lowS name) vs = tats (B ++ A) by unfold joinL; rw [if_pos hvl, List.append_nil, tats_append])
    have HJL := Lib.hid (show (joinL (tats B) (tats A) (lowS name) vs).length = B.length + A.length by rw [HJ.out, tats_len, List.length_append])
    have HTB := Lib.hid hOB
    have HTA := Lib.hid hOA
    clear hv hBB hBA hOB hOA
    go_enter Try.func59, Try.ntmps59
    go_wp2_with (at_builtin; go_must (refine app_onto w (.tmp 20) (.tmp 21) ao bo B.length A.length c B A ?_ ?_ ?_ ?_ HB.out hz hp HA.out HTB.out HTA.out ?_ ?_; exact rfl; exact rfl; exact rfl; exact rfl; omega; intro xo cap w' hat hb2 _ _ _))
    go_ret
    refine ⟨xo, cap, by rw [HJL.out]; rfl, ?_, hb2.mono hbase⟩
    rw [HJL.out, HJ.out]
    exact ts_ats hat ((HTB.out.app HTA.out).below hb2)

theorem few_len {l : List At} (h : Few l) : l.length ≤ 1000 := h.len
set_option maxRecDepth 100000 in
set_option maxHeartbeats 4000000 in
theorem limited_s (ao vo bo : Option Addr) (vn vc c base : Nat) (B A : List Tr) (name : ByteArray) (vs : List ByteArray) (w : World)
    (hB : TsAt w ao B.length B.length B) (hz : ao = none → B.length = 0) (hp : ∀ ad, ao = some ad → ad.spot = none) (hA : TsAt w bo A.length c A)
    (hBB : 0 < vn → Beside w base (.slice vo vn vc) ao B) (hBA : 0 < vn → Beside w base (.slice vo vn vc) bo A) (hOB : TOk w B) (hOA : TOk w A) (hv : 0 < vn → w.ownsRow base 9 1 (.slice vo vn vc) vn (scells vs)) (hvl : vs.length = vn)
    (hbl : B.length ≤ 1000) (hal : A.length ≤ 1000) (hvn : vn ≤ 100000) (hns : name.size ≤ 1000000) (hbase : base ≤ w.heap.size) :
    Calls Try.prog 54 #[.slice ao B.length B.length, .string name, .slice vo vn vc, .slice bo A.length c] w fun e w' => ∃ v, e = .returned (.tuple #[v, .int .i64 (limR (joinL (tats B) (tats A) (lowS name) vs) vs.length).2]) ∧ AttsR w' v (limR (joinL (tats B) (tats A) (lowS name) vs) vs.length).1 ∧ Below base w w' := by
  have HJ := Lib.hid (joined_s ao vo bo vn vc c base B A name vs w hB hz hp hA hBB hBA hOB hOA hv hvl hbl hal hvn hns hbase)
  obtain ⟨J, hJ⟩ : ∃ x, joinL (tats B) (tats A) (lowS name) vs = x := ⟨_, rfl⟩
  rw [hJ] at HJ
  rw [hJ]
  have hjl : J.length ≤ 3000 := by
    rw [← hJ]; unfold joinL
    rw [List.length_append, List.length_append, tats_len, tats_len]
    split
    · simp; omega
    · simp; omega
  clear hJ hB hz hp hA hBB hBA hOB hOA hv
  go_enter Try.func54, Try.ntmps54
  go_wp2_with fail
  refine HJ.out.mono ?_
  rintro e w1 ⟨xo, xc, rfl, hat, hb⟩
  have HR : Hid (AttsR w1 (.slice xo J.length xc) J) := Lib.hid ⟨xo, _, xc, rfl, hat⟩
  have HB := Lib.hid hb
  clear hat hb HJ
  by_cases h1 : 32 < J.length
  · have d1 : decide ((32 : Int) < (J.length : Int)) = true := decide_eq_true (by omega)
    have HL := Lib.hid (show limR J vs.length = ([], 3) from if_pos (.inl h1))
    go_wp2_with fail
    go_ret2
    exact ⟨_, by rw [HL.out]; rfl, by rw [HL.out]; exact atts_nil _, HB.out⟩
  · have d1 : decide ((32 : Int) < (J.length : Int)) = false := decide_eq_false (by omega)
    by_cases h2 : 16 < vn
    · have d2 : decide ((16 : Int) < (vn : Int)) = true := decide_eq_true (by omega)
      have HL := Lib.hid (show limR J vs.length = ([], 3) from if_pos (.inr (by rw [hvl]; exact h2)))
      go_wp2_with fail
      go_ret2
      exact ⟨_, by rw [HL.out]; rfl, by rw [HL.out]; exact atts_nil _, HB.out⟩
    · have d2 : decide ((16 : Int) < (vn : Int)) = false := decide_eq_false (by omega)
      have HL := Lib.hid (show limR J vs.length = (J, 0) from if_neg (by rw [hvl]; omega))
      go_wp2_with fail
      go_ret2
      exact ⟨_, by rw [HL.out]; rfl, by rw [HL.out]; exact HR.out, HB.out⟩

end Go.Proofs.Ytahpocpagidahaa
