/-
  Texts of the schema layer and of those beneath it, joined: AttSet, AttNew, AttCk, AttSrt, CodecA, CodecB, ShelfB, CodecBuild, CodecStr, CodecC, CodecDec, CodecInt, CodecIntP, CodecEsc, CodecREsc, CodecRInt, CodecRInt2. Conditions stand at each contract.
-/
import Derived.Lib.Builder
import Derived.Lib.AppendStr
import Derived.Laws.Externs
import Derived.Laws.RangeAny
import Derived.Laws.RangeString
import Derived.Lib.RuneCount
import Derived.Lib.AtoiAllCases
import Derived.Lib.LaidTab
import Derived.Lib.ItoaLen
import Derived.Test.YtonfkhkalodldabGreatDoorT03
set_option linter.unusedVariables false
set_option linter.unusedSimpArgs false
set_option linter.unnecessarySimpa false

section
set_option maxRecDepth 100000
namespace Go.Proofs.YtonfkhkalodldabGreatDoor
open Go.RowKit Go.PlainAid Go.Maps Go.ChangeMaps
variable {H : Type}
structure SetM (w : World) (b n : Nat) (D : DataW H) (ks : List ByteArray) : Prop where
 map : w.ownsMap Tryz.prog 9 (plainElem Tryz.prog 4) b n D
 reads : ∀ k : ByteArray, D.atKey (klit k) (.lit (.bool false)) = .lit (.bool (memB ks k))
theorem plain_bool {P : Program} {e : TypeId} {v : Value} {x : Bool} {ps : List MemPlace} (he : P.underlying e = some .bool) (h : plainElem (H := H) P e v = some (.lit (.bool x), ps)) : v = .bool x := by
 unfold plainElem at h
 rw [he] at h
 cases v <;> simp at h
 rw [h.1]
theorem memB_snoc (ks : List ByteArray) (s k : ByteArray) : memB (ks ++ [s]) k = (memB ks k || decide (s = k)) := by
 unfold memB; rw [List.any_append]; simp
theorem setM_made (w : World) : SetM (H := H) (w.alloc (.map #[] 0)) w.heap.size 0 (.map []) [] where
 map := World.ownsMap_made w _ _ _
 reads k := rfl
theorem SetM.look {w : World} {b n : Nat} {D : DataW H} {ks : List ByteArray} (G : SetM w b n D ks) (k : ByteArray) (hk : k.size ≤ maxLen) :
  (Instr.lookup 77 (.map (some b)) (.string k) false).run Tryz.prog w = .ok (.bool (memB ks k)) w := by
 obtain ⟨v, ps, hrun, hv⟩ := G.map.lookup (t := 77) (e := 4) (string_keyed Tryz.underlying9) Tryz.underlying77 (z := .bool false) (Tryz.zeroValue4 _) (plainElem_bool Tryz.underlying4 false) (klit_key k hk)
 rw [G.reads k] at hv
 have hv' : v = .bool (memB ks k) := plain_bool Tryz.underlying4 hv
 rw [hrun, hv']
theorem SetM.store {w : World} {b n : Nat} {D : DataW H} {ks : List ByteArray} (G : SetM w b n D ks) (k : ByteArray) (hk : k.size ≤ maxLen) (hn : n < maxLen) :
  ∃ w', (Instr.mapUpdate 77 (.map (some b)) (.string k) (.bool true)).run Tryz.prog w = .ok () w' ∧ SetM w' b (n + 1) (D.put (klit k) (.lit (.bool true))) (ks ++ [k]) ∧ w.grownBy w' (some b) := by
 obtain ⟨w', hrun, hm, hg⟩ := G.map.update (t := 77) (e := 4) (string_keyed Tryz.underlying9) Tryz.underlying77 hn (klit_key k hk) (plainElem_bool Tryz.underlying4 true)
 refine ⟨w', hrun, ⟨hm, fun j => ?_⟩, hg⟩
 rw [memB_snoc]
 by_cases e : k = j
 ·subst e
  rw [atKey_put_same G.map.isMap (by unfold klit; trivial)]; simp
 ·rw [atKey_put_other (fun h => e (klit_one h).symm), G.reads j]
  simp [e]
theorem SetM.kept {w w' : World} {b n : Nat} {D : DataW H} {ks : List ByteArray} {row : Option Nat} (G : SetM w b n D ks) (hg : w.grownBy w' row) (hne : some b ≠ row) : SetM w' b n D ks := ⟨G.map.kept hg hne, G.reads⟩
set_option maxRecDepth 100000 in
set_option maxHeartbeats 2000000 in
theorem setOf_s (ao : Option Addr) (n cap : Nat) (ps : List ByteArray) (w : World) (h : StrsAt w ao n cap ps) (hn : n ≤ 1100000) (hS : SmallS ps) :
  Calls Tryz.prog 73 #[.slice ao n cap] w fun e w' => e = .returned (.map (some w.heap.size)) ∧ (∃ D, SetM (H := Unit) w' w.heap.size n D ps) ∧ Below w.heap.size w w' := by
 obtain ⟨h1, h2, h3, h4⟩ := h
 subst h1
 unfold maxLen at h3
 have H4 := Lib.hid h4; clear h4
 have HS := Lib.hid hS; clear hS
 have hB0 : Below w.heap.size w (w.alloc (.map #[] 0)) := (Below.refl _ _).alloc (Nat.le_refl _) _
 have G0 := setM_made (H := Unit) w
 have hmm := @run_makeMap Tryz.prog
 go_enter Tryz.func73, Tryz.ntmps73
 go_wp2
 clear hmm
 go_loopw [5, 9] (fun s i wr => ∃ (k : Nat) (D : DataW Unit), k ≤ ps.length ∧ i = .int .i64 k ∧ Hid (SetM wr w.heap.size k D (ps.take k)) ∧ Hid (Below w.heap.size w wr)) (fun _ i _ => ps.length - (intOf i).toNat)
 case atStart => exact ⟨0, _, Nat.zero_le _, rfl, Lib.hid G0, Lib.hid hB0⟩
 case round =>
  obtain ⟨k, D, hk, rfl, HG, HB⟩ := hrel
  by_cases hlt : k < ps.length
  ·obtain ⟨b, off, rfl, hs⟩ := H4.out (by omega)
   have hcell := (hs.below HB.out hs.1).2 k hlt
   clear hs
   obtain ⟨p, hpe⟩ : ∃ p, partAt ps k = p := ⟨_, rfl⟩
   have hps : p.size ≤ 1100000 := by rw [← hpe]; exact HS.out _ (part_mem ps k hlt)
   rw [hpe] at hcell
   have HT := Lib.hid (show ps.take (k + 1) = ps.take k ++ [p] by rw [← hpe]; exact take_snoc ps k hlt)
   clear hpe
   obtain ⟨w', hrun, HG', hgr⟩ := HG.out.store p (by unfold maxLen; omega) (by unfold maxLen; omega)
   have HG2 := Lib.hid HG'
   have HB2 := Lib.hid (HB.out.grown hgr (HB.out.size) (fun j hj => by cases hj; exact Nat.le_refl _))
   clear HG' hgr
   have d1 : (k : Int) < (ps.length : Int) := by omega
   go_wp2_with fail
   go_roundw
   case rel => exact ⟨k + 1, _, by omega, by go_num, by rw [HT.out]; exact HG2, HB2⟩
   case measure => simp [intOf]; omega
  ·have hke : k = ps.length := by omega
   subst hke
   go_wp2_with fail
   go_ret
   have hg := HG.out
   rw [List.take_length] at hg
   exact ⟨rfl, ⟨D, hg⟩, HB.out⟩
theorem memB_app (a b : List ByteArray) (s : ByteArray) : memB (a ++ b) s = (memB a s || memB b s) := by unfold memB; rw [List.any_append]
theorem errV_form {vs old : List ByteArray} {j : Nat} {p : ByteArray} (hp : partAt vs j = p) : errV vs old j = if cleanB p = false then 4 else if memB (old ++ vs.take j) p = true then 7 else 0 := by
 unfold errV
 rw [hp, memB_app]
 cases cleanB p <;> cases memB old p <;> cases memB (vs.take j) p <;> simp
set_option maxRecDepth 100000 in
set_option maxHeartbeats 2000000 in
theorem checkNew_s (ao bo : Option Addr) (n m cap dap : Nat) (old vs : List ByteArray) (w : World) (h : StrsAt w ao n cap old) (k : StrsAt w bo m dap vs) (hn : n ≤ 1100000) (hm : m ≤ 1100000) (hS : SmallS old) (hV : SmallS vs) :
  Calls Tryz.prog 40 #[.slice ao n cap, .slice bo m dap] w fun e w' => e = .returned (.int .i64 (chkV vs old)) ∧ Below w.heap.size w w' := by
 have HO := Lib.hid (setOf_s ao n cap old w h hn hS)
 obtain ⟨k1, k2, k3, k4⟩ := k
 subst k1
 unfold maxLen at k3
 have K4 := Lib.hid k4; clear k4
 have HV := Lib.hid hV; clear hV
 go_enter Tryz.func40, Tryz.ntmps40
 go_wp2_with fail
 refine HO.out.mono ?_
 rintro e w1 ⟨rfl, ⟨D0, hG⟩, hb⟩
 have HG0 := Lib.hid hG
 have HB0 := Lib.hid hb
 clear hG hb HO
 go_wp2
 go_loopw [7, 12, 16, 20] (fun s i u v wr => ∃ (j : Nat) (D : DataW Unit), j ≤ vs.length ∧ i = .int .i64 j ∧ Hid (∀ q, q < j → errV vs old q = 0) ∧ Hid (SetM wr w.heap.size (n + j) D (old ++ vs.take j)) ∧ Hid (Below w.heap.size w wr)) (fun _ i _ _ _ => vs.length - (intOf i).toNat)
 case atStart => exact ⟨0, D0, Nat.zero_le _, rfl, Lib.hid (fun q hq => absurd hq (Nat.not_lt_zero _)), Lib.hid (by simpa using HG0.out), HB0⟩
 case round =>
  obtain ⟨j, D, hj, rfl, HA, HG, HB⟩ := hrel
  by_cases hlt : j < vs.length
  ·obtain ⟨b, off, rfl, hs⟩ := K4.out (by omega)
   have hcell := (hs.below HB.out hs.1).2 j hlt
   clear hs
   obtain ⟨p, hpe⟩ : ∃ p, partAt vs j = p := ⟨_, rfl⟩
   have hps : p.size ≤ 1100000 := by rw [← hpe]; exact HV.out _ (part_mem vs j hlt)
   rw [hpe] at hcell
   have HF := Lib.hid (errV_form (vs := vs) (old := old) (j := j) hpe)
   have HT := Lib.hid (show old ++ vs.take (j + 1) = (old ++ vs.take j) ++ [p] by rw [← hpe, take_snoc vs j hlt, List.append_assoc])
   clear hpe
   have d1 : (j : Int) < (vs.length : Int) := by omega
   cases hc : cleanB p
   ·have HR := Lib.hid (show chkV vs old = 4 by
     have e : errV vs old j = 4 := by rw [HF.out, if_pos hc]
     unfold chkV; rw [firstE_hit HA.out (by rw [e]; decide) hlt, e])
    have HCL := Lib.hid hc
    clear hc
    go_wp2_with (go_at_call 74; refine (clean_s p _ (by omega)).mono ?_; rintro e w' ⟨rfl, rfl⟩; rw [HCL.out])
    go_ret
    exact ⟨by rw [HR.out]; rfl, HB.out⟩
   ·have HCL := Lib.hid hc
    clear hc
    have hlook := HG.out.look p (by unfold maxLen; omega)
    cases hm2 : memB (old ++ vs.take j) p
    ·have HZ := Lib.hid (show errV vs old j = 0 by rw [HF.out, HCL.out, hm2]; simp)
     rw [hm2] at hlook
     clear hm2
     obtain ⟨w', hrun, HG', hgr⟩ := HG.out.store p (by unfold maxLen; omega) (by unfold maxLen; omega)
     have HG2 := Lib.hid HG'
     have HB2 := Lib.hid (HB.out.grown hgr (HB.out.size) (fun j hj => by cases hj; exact Nat.le_refl _))
     clear HG' hgr
     go_wp2_with (go_at_call 74; refine (clean_s p _ (by omega)).mono ?_; rintro e w' ⟨rfl, rfl⟩; rw [HCL.out])
     go_roundw
     case rel =>
      refine ⟨j + 1, _, by omega, by go_num, Lib.hid fun q hq => ?_, by rw [HT.out]; exact HG2, HB2⟩
      by_cases e : q = j
      ·rw [e]; exact HZ.out
      ·exact HA.out q (by omega)
     case measure => simp [intOf]; omega
    ·have HR := Lib.hid (show chkV vs old = 7 by
      have e : errV vs old j = 7 := by rw [HF.out, HCL.out, hm2]; simp
      unfold chkV; rw [firstE_hit HA.out (by rw [e]; decide) hlt, e])
     rw [hm2] at hlook
     clear hm2
     go_wp2_with (go_at_call 74; refine (clean_s p _ (by omega)).mono ?_; rintro e w' ⟨rfl, rfl⟩; rw [HCL.out])
     go_ret
     exact ⟨by rw [HR.out]; rfl, HB.out⟩
  ·have hke : j = vs.length := by omega
   subst hke
   have HR := Lib.hid (show chkV vs old = 0 from firstE_zero HA.out)
   go_wp2_with fail
   go_ret
   exact ⟨by rw [HR.out]; rfl, HB.out⟩
def errA (l : List At) (j : Nat) : Int :=
 if nameB (atD l j).1 = false then 5 else if twiceB l j = true then 7 else if (atD l j).2.length = 0 then 6 else if 16 < (atD l j).2.length then 3 else chkV (atD l j).2 []
def chkA (l : List At) : Int := if 32 < l.length then 3 else firstE (errA l) l.length
def lowN (l : List At) : List ByteArray := l.map fun a => lowS a.1
theorem twice_mem (l : List At) (j : Nat) : memB (lowN (l.take j)) (lowS (atD l j).1) = twiceB l j := by
 unfold memB lowN twiceB
 rw [List.any_map]; rfl
theorem SetM.below {H : Type} {w w' : World} {b n : Nat} {D : DataW H} {ks : List ByteArray} (G : SetM w b n D ks) (hb : Below w.heap.size w w') : SetM w' b n D ks :=
 G.kept (row := none) ⟨hb.os, hb.tape, hb.output, hb.size, fun k hk _ => hb.block k hk⟩ (by simp)
def ABox (w : World) (b : Nat) (nm : ByteArray) (v : Value) : Prop := w.heap[b]? = some (.cells #[.string nm, v] 41)
theorem abox_new (w : World) (nm : ByteArray) (v : Value) : ABox (w.alloc (.cells #[.string nm, v] 41)) w.heap.size nm v := heap_alloc_new w _
theorem ABox.cells {w : World} {b : Nat} {nm : ByteArray} {v : Value} (h : ABox w b nm v) : w.cell? ⟨b, 0, none⟩ = some (.string nm) ∧ w.cell? ⟨b, 1, none⟩ = some v := by
 unfold ABox at h
 exact ⟨by simp [World.cell?, h], by simp [World.cell?, h]⟩
theorem ABox.lt {w : World} {b : Nat} {nm : ByteArray} {v : Value} (h : ABox w b nm v) : b < w.heap.size := (Array.getElem?_eq_some_iff.1 h).1
theorem ABox.below {w w' : World} {b : Nat} {nm : ByteArray} {v : Value} (h : ABox w b nm v) (hb : Below w.heap.size w w') : ABox w' b nm v := (hb.block b h.lt).trans h
theorem ABox.grown {w w' : World} {b : Nat} {nm : ByteArray} {v : Value} {row : Option Nat} (h : ABox w b nm v) (hg : w.grownBy w' row) (hne : some b ≠ row) : ABox w' b nm v := (hg.block b h.lt hne).trans h
def FewV (l : List At) : Prop := ∀ a ∈ l, a.2.length ≤ 1100000
set_option maxRecDepth 100000 in
set_option maxHeartbeats 4000000 in
theorem check_s (ao : Option Addr) (n cap : Nat) (l : List At) (w : World) (h : AttrsAt w ao n cap l) (hS : SmallA l) (hF : FewV l) :
  Calls Tryz.prog 13 #[.slice ao n cap] w fun e w' => e = .returned (.int .i64 (chkA l)) ∧ Below w.heap.size w w' := by
 obtain ⟨h1, h2, h3, h4⟩ := h
 subst h1
 unfold maxLen at h3
 have H4 := Lib.hid h4; clear h4
 have HS := Lib.hid hS; clear hS
 have HF := Lib.hid hF; clear hF
 by_cases h32 : 32 < l.length
 ·have HR := Lib.hid (show chkA l = 3 from if_pos h32)
  have d0 : decide ((32 : Int) < (l.length : Int)) = true := decide_eq_true (by omega)
  go_enter Tryz.func13, Tryz.ntmps13
  go_wp2_with fail
  go_ret
  exact ⟨by rw [HR.out]; rfl, Below.refl _ _⟩
 ·have HR := Lib.hid (show chkA l = firstE (errA l) l.length from if_neg h32)
  have d0 : decide ((32 : Int) < (l.length : Int)) = false := decide_eq_false (by omega)
  have hB0 : Below w.heap.size w (w.alloc (.map #[] 0)) := (Below.refl _ _).alloc (Nat.le_refl _) _
  have G0 := setM_made (H := Unit) w
  have hmm := @run_makeMap Tryz.prog
  go_enter Tryz.func13, Tryz.ntmps13
  go_wp2
  clear hmm d0
  go_loopw [5, 6, 7, 14, 21, 26, 30, 35] (fun s5 s6 s7 i u21 u26 u30 u35 wr => ∃ (j : Nat) (D : DataW Unit), j ≤ l.length ∧ i = .int .i64 j ∧ Hid (∀ q, q < j → errA l q = 0) ∧ Hid (SetM wr w.heap.size j D (lowN (l.take j))) ∧ Hid (Below w.heap.size w wr)) (fun _ _ _ i _ _ _ _ _ => l.length - (intOf i).toNat)
  case atStart => exact ⟨0, _, Nat.zero_le _, rfl, Lib.hid (fun q hq => absurd hq (Nat.not_lt_zero _)), Lib.hid G0, Lib.hid hB0⟩
  case round =>
   obtain ⟨j, D, hj, rfl, HA, HG, HB⟩ := hrel
   by_cases hlt : j < l.length
   ·obtain ⟨b, off, rfl, hblt, hat⟩ := H4.out (by omega)
    obtain ⟨c0, vo, vn, vc, c1, hv⟩ := hat j hlt
    have c0 := cell_later HB.out c0
    have c1 := cell_later HB.out c1
    obtain ⟨nm, hnm⟩ : ∃ x, (atD l j).1 = x := ⟨_, rfl⟩
    obtain ⟨vs, hvs⟩ : ∃ x, (atD l j).2 = x := ⟨_, rfl⟩
    have hsz := HS.out _ (at_mem l j hlt)
    have hfw := HF.out _ (at_mem l j hlt)
    have HE := Lib.hid (show errA l j = if nameB nm = false then 5 else if memB (lowN (l.take j)) (lowS nm) = true then 7 else if vs.length = 0 then 6 else if 16 < vs.length then 3 else chkV vs [] by rw [← hnm, ← hvs, twice_mem]; rfl)
    have HT := Lib.hid (show lowN (l.take (j + 1)) = lowN (l.take j) ++ [lowS nm] by rw [at_take l j hlt, ← hnm]; unfold lowN; rw [List.map_append]; rfl)
    rw [hnm] at c0 hsz
    rw [hvs] at hv hsz hfw
    clear hnm hvs hat
    have hns := hsz.1
    have HVS := Lib.hid hsz.2
    have HV := Lib.hid hv
    have d1 : (j : Int) < (l.length : Int) := by omega
    clear hsz hv
    go_wp2_with fail
    obtain ⟨W1, hW1⟩ : ∃ W1, wr.alloc (.cells #[.string nm, .slice vo vn vc] 41) = W1 := ⟨_, rfl⟩
    have hbl1 : Below wr.heap.size wr W1 := by rw [← hW1]; exact (Below.refl _ wr).alloc (Nat.le_refl _) _
    have X1 : ABox W1 wr.heap.size nm (.slice vo vn vc) := by rw [← hW1]; exact abox_new wr nm _
    have HB1 := Lib.hid (HB.out.trans (hbl1.mono HB.out.size))
    have HG1 := Lib.hid (HG.out.below hbl1)
    rw [hW1]
    clear hW1
    refine (lower_s nm W1 (by omega)).mono ?_
    rintro e W2 ⟨rfl, hb⟩
    obtain ⟨b0, b1⟩ := (X1.below hb).cells
    have HX2 := Lib.hid (X1.below hb)
    have HB2 := Lib.hid (HB1.out.trans (hb.mono HB1.out.size))
    have HG2 := Lib.hid (HG1.out.below hb)
    have hwb : w.heap.size < wr.heap.size := HG.out.map.lt
    have hls : (lowS nm).size ≤ 1100000 := by rw [lowS_size]; omega
    obtain ⟨lw, hlw⟩ : ∃ x, lowS nm = x := ⟨_, rfl⟩
    rw [hlw] at hls ⊢
    have HE2 := HE
    have HT2 := HT
    rw [hlw] at HE2 HT2
    clear hlw HE HT hb X1 HG1 HB1 hbl1
    have hvl : vs.length = vn := HV.out.1
    cases hnb : nameB nm
    ·have HR2 := Lib.hid (show chkA l = 5 by
      have e : errA l j = 5 := by rw [HE2.out, if_pos hnb]
      rw [HR.out, firstE_hit HA.out (by rw [e]; decide) hlt, e])
     have HNB := Lib.hid hnb
     clear hnb
     go_wp2_with (go_at_call 39; refine (name_s nm _ (by omega)).mono ?_; rintro e w' ⟨rfl, rfl⟩; rw [HNB.out])
     go_ret
     exact ⟨by rw [HR2.out]; rfl, HB2.out⟩
    ·have HNB := Lib.hid hnb
     clear hnb
     have hlook := HG2.out.look lw (by unfold maxLen; omega)
     cases hm2 : memB (lowN (l.take j)) lw
     ·rw [hm2] at hlook
      have HM := Lib.hid hm2
      clear hm2
      by_cases hz : vs.length = 0
      ·have HR2 := Lib.hid (show chkA l = 6 by
        have e : errA l j = 6 := by rw [HE2.out, HNB.out, HM.out, if_neg (by decide), if_neg (by decide), if_pos hz]
        rw [HR.out, firstE_hit HA.out (by rw [e]; decide) hlt, e])
       have d2 : ((vn : Int) == 0) = true := beq_iff_eq.2 (by omega)
       go_wp2_with (go_at_call 39; refine (name_s nm _ (by omega)).mono ?_; rintro e w' ⟨rfl, rfl⟩; rw [HNB.out])
       go_ret
       exact ⟨by rw [HR2.out]; rfl, HB2.out⟩
      ·have d2 : ((vn : Int) == 0) = false := beq_eq_false_iff_ne.2 (by omega)
       by_cases h16 : 16 < vs.length
       ·have HR2 := Lib.hid (show chkA l = 3 by
         have e : errA l j = 3 := by rw [HE2.out, HNB.out, HM.out, if_neg (by decide), if_neg (by decide), if_neg hz, if_pos h16]
         rw [HR.out, firstE_hit HA.out (by rw [e]; decide) hlt, e])
        have d3 : decide ((16 : Int) < (vn : Int)) = true := decide_eq_true (by omega)
        go_wp2_with (go_at_call 39; refine (name_s nm _ (by omega)).mono ?_; rintro e w' ⟨rfl, rfl⟩; rw [HNB.out])
        go_ret
        exact ⟨by rw [HR2.out]; rfl, HB2.out⟩
       ·have d3 : decide ((16 : Int) < (vn : Int)) = false := decide_eq_false (by omega)
        have HC := Lib.hid (show errA l j = chkV vs [] by rw [HE2.out, HNB.out, HM.out, if_neg (by decide), if_neg (by decide), if_neg hz, if_neg h16])
        obtain ⟨W3, hrun, HG', hgr⟩ := HG2.out.store lw (by unfold maxLen; omega) (by unfold maxLen; omega)
        have HG3 := Lib.hid HG'
        have HB3 := Lib.hid (HB2.out.grown hgr (HB2.out.size) (fun j hj => by cases hj; exact Nat.le_refl _))
        have HX3 := Lib.hid (HX2.out.grown hgr (by intro e; have := Option.some.inj e; omega))
        obtain ⟨b2, b3⟩ := HX3.out.cells
        have HV3 := Lib.hid (HV.out.below HB3.out)
        have HN3 := Lib.hid (show StrsAt W3 none 0 0 [] from ⟨rfl, Nat.le_refl _, by unfold maxLen; omega, fun h => absurd h (Nat.lt_irrefl _)⟩)
        clear HG' hgr
        obtain ⟨r, hr⟩ : ∃ r, chkV vs [] = r := ⟨_, rfl⟩
        have HRR := Lib.hid hr
        clear hr
        by_cases hr0 : r = 0
        ·subst hr0
         go_wp2_with (first
          | (go_at_call 39; refine (name_s nm _ (by omega)).mono ?_; rintro e w' ⟨rfl, rfl⟩; rw [HNB.out])
          | (go_at_call 40; refine (checkNew_s none vo 0 vn 0 vc [] vs W3 HN3.out HV3.out (by omega) (by omega) (by intro v hv; cases hv) HVS.out).mono ?_; rintro e W4 ⟨rfl, hb⟩; rw [HRR.out]; have HB4 := Lib.hid (HB3.out.trans (hb.mono HB3.out.size)); have HG4 := Lib.hid (HG3.out.below hb)))
         go_roundw
         case rel =>
          refine ⟨j + 1, _, by omega, by go_num, Lib.hid fun q hq => ?_, by rw [HT2.out]; exact HG4, HB4⟩
          by_cases e : q = j
          ·rw [e, HC.out, HRR.out]
          ·exact HA.out q (by omega)
         case measure => simp [intOf]; omega
        ·have HR2 := Lib.hid (show chkA l = r by
          have e : errA l j = r := by rw [HC.out, HRR.out]
          rw [HR.out, firstE_hit HA.out (by rw [e]; exact hr0) hlt, e])
         have d4 : (r == 0) = false := beq_eq_false_iff_ne.2 hr0
         have d5 : (r != 0) = true := by unfold bne; rw [d4]; rfl
         clear hr0
         go_wp2_with (first
          | (go_at_call 39; refine (name_s nm _ (by omega)).mono ?_; rintro e w' ⟨rfl, rfl⟩; rw [HNB.out])
          | (go_at_call 40; refine (checkNew_s none vo 0 vn 0 vc [] vs W3 HN3.out HV3.out (by omega) (by omega) (by intro v hv; cases hv) HVS.out).mono ?_; rintro e W4 ⟨rfl, hb⟩; rw [HRR.out]; have HB4 := Lib.hid (HB3.out.trans (hb.mono HB3.out.size))))
         go_ret
         exact ⟨by rw [HR2.out]; rfl, HB4.out⟩
     ·have HR2 := Lib.hid (show chkA l = 7 by
       have e : errA l j = 7 := by rw [HE2.out, HNB.out, hm2, if_neg (by decide), if_pos rfl]
       rw [HR.out, firstE_hit HA.out (by rw [e]; decide) hlt, e])
      rw [hm2] at hlook
      clear hm2
      go_wp2_with (go_at_call 39; refine (name_s nm _ (by omega)).mono ?_; rintro e w' ⟨rfl, rfl⟩; rw [HNB.out])
      go_ret
      exact ⟨by rw [HR2.out]; rfl, HB2.out⟩
   ·have hke : j = l.length := by omega
    subst hke
    have HR2 := Lib.hid (show chkA l = 0 by rw [HR.out]; exact firstE_zero HA.out)
    go_wp2_with fail
    go_ret
    exact ⟨by rw [HR2.out]; rfl, HB.out⟩
theorem allV_snoc (l : List At) (a : At) (n : ByteArray) : allV (l ++ [a]) n = allV l n ++ (if lowS a.1 = n then a.2 else []) := by
 unfold allV
 rw [List.filter_append, List.flatMap_append]
 congr 1
 by_cases h : lowS a.1 = n <;> simp [h]
structure United (w : World) (b k : Nat) (D : DataW Unit) (l : List At) (hv : ByteArray → Value) : Prop where
 grp : Groups w (b + 1) b k D (allV l) hv
 keys : ∀ x : ByteArray, Maps.has D (klit x) = true ↔ x ∈ lowN l
theorem united_made (w : World) : United (w.alloc (.map #[] 0)) w.heap.size 0 (.map []) [] (fun _ => .slice none 0 0) where
 grp := groups_made w
 keys x := by simp [lowN, Maps.has]
theorem Groups.below {H : Type} {w w' : World} {base b n : Nat} {D : DataW H} {gv : ByteArray → List ByteArray} {hv : ByteArray → Value} (G : Groups w base b n D gv hv) (hb : Below w.heap.size w w') : Groups w' base b n D gv hv where
 map := G.map.kept (row := none) ⟨hb.os, hb.tape, hb.output, hb.size, fun k hk _ => hb.block k hk⟩ (by simp)
 low := G.low
 reads := G.reads
 own k := own_below (G.own k) hb
 apart := G.apart
theorem United.below {w w' : World} {b k : Nat} {D : DataW Unit} {l : List At} {hv : ByteArray → Value} (U : United w b k D l hv) (hb : Below w.heap.size w w') : United w' b k D l hv := ⟨U.grp.below hb, U.keys⟩
theorem United.store {w w1 : World} {b k : Nat} {D : DataW Unit} {l : List At} {hv : ByteArray → Value} (U : United w b k D l hv) (a : At) {lw : ByteArray} (hlw : lowS a.1 = lw) (hk : lw.size ≤ maxLen) (hn : k < maxLen) {v' : Value}
  (hg : w.grownBy w1 (hv lw).ownBlock) (hown : w1.ownsRow (b + 1) 9 1 v' ((allV l lw).length + a.2.length) (scells (allV l lw) ++ scells a.2)) (hl : v'.ownBlock = (hv lw).ownBlock ∨ v'.ownBlock = some w.heap.size) :
  ∃ w2 D2 hv2, (Instr.mapUpdate 63 (.map (some b)) (.string lw) v').run Tryz.prog w1 = .ok () w2 ∧ United w2 b (k + 1) D2 (l ++ [a]) hv2 ∧ w1.grownBy w2 (some b) := by
 have hown' : w1.ownsRow (b + 1) 9 1 v' (allV l lw ++ a.2).length (scells (allV l lw ++ a.2)) := by
  rw [List.length_append]
  have : scells (allV l lw ++ a.2) = scells (allV l lw) ++ scells a.2 := by unfold scells; rw [List.map_append]
  rw [this]; exact hown
 obtain ⟨w2, d, hrun, G, hg2⟩ := U.grp.store lw hk hn hg hown' (hl.imp id fun e => ⟨_, e, Nat.le_refl _⟩)
 have e : setK (allV l) lw (allV l lw ++ a.2) = allV (l ++ [a]) := by
  funext n
  rw [allV_snoc, hlw]
  by_cases h : lw = n
  ·subst h; rw [setK_same, if_pos rfl]
  ·rw [setK_other _ _ (fun e => h e.symm), if_neg h, List.append_nil]
 rw [e] at G
 refine ⟨w2, _, _, hrun, ⟨G, fun x => ?_⟩, hg2⟩
 have hm : lowN (l ++ [a]) = lowN l ++ [lw] := by unfold lowN; rw [List.map_append, ← hlw]; rfl
 rw [hm, List.mem_append, List.mem_singleton]
 by_cases h : x = lw
 ·subst h
  rw [has_put_same U.grp.map.isMap (by unfold klit; trivial)]
  simp
 ·rw [has_put_other (fun e => h (klit_one e)), U.keys x]
  simp [h]
def sumV (l : List At) : Nat := (l.map fun a => a.2.length).sum
theorem sumV_cons (a : At) (l : List At) : sumV (a :: l) = a.2.length + sumV l := by unfold sumV; rw [List.map_cons, List.sum_cons]
theorem allV_cons (a : At) (l : List At) (n : ByteArray) : allV (a :: l) n = (if lowS a.1 = n then a.2 else []) ++ allV l n := by
 unfold allV
 by_cases h : lowS a.1 = n
 ·rw [List.filter_cons_of_pos (by simpa using h), List.flatMap_cons, if_pos h]
 ·rw [List.filter_cons_of_neg (by simpa using h), if_neg h]; rfl
theorem allV_len (n : ByteArray) : ∀ l : List At, (allV l n).length ≤ sumV l
 | [] => Nat.le_refl _
 | a :: l => by
  rw [allV_cons, sumV_cons, List.length_append]
  have := allV_len n l
  split
  ·omega
  ·simp; omega
theorem sumV_take : ∀ (l : List At) (j : Nat), sumV (l.take j) ≤ sumV l
 | [], j => by simp
 | a :: l, 0 => by simp [sumV]
 | a :: l, j + 1 => by
  rw [List.take_succ_cons, sumV_cons, sumV_cons]
  have := sumV_take l j
  omega
end Go.Proofs.YtonfkhkalodldabGreatDoor
end

section
set_option maxRecDepth 100000
namespace Go.Proofs.YtonfkhkalodldabGreatDoor
open Go.PlainAid
def plainI (c : Int) : Bool := decide (33 ≤ c) && decide (c ≤ 126) && !(c == 37) && !(c == 124) && !(c == 44) && !(c == 61) && !(c == 59) && !(c == 34)
def plainC (c : UInt8) : Bool := plainI (c.toNat : Int)
def hexC (d : Nat) : UInt8 := if d < 10 then UInt8.ofNat (48 + d) else UInt8.ofNat (55 + d)
def escC (c : UInt8) : List UInt8 := if plainC c then [c] else [37, hexC (c.toNat / 16), hexC (c.toNat % 16)]
def escL (l : List UInt8) : List UInt8 := l.flatMap escC
def hexS : ByteArray := ⟨#[48, 49, 50, 51, 52, 53, 54, 55, 56, 57, 65, 66, 67, 68, 69, 70]⟩
theorem hexC_table : ∀ d : Nat, d < 16 → bt hexS d = ((hexC d).toNat : Int) := by decide +kernel
theorem escL_snoc (l : List UInt8) (c : UInt8) : escL (l ++ [c]) = escL l ++ escC c := by simp [escL]
theorem escC_length (c : UInt8) : (escC c).length ≤ 3 := by unfold escC; split <;> simp
theorem escL_length (l : List UInt8) : (escL l).length ≤ 3 * l.length := by
 induction l with
 | nil => simp [escL]
 | cons c l ih =>
  have e : escL (c :: l) = escC c ++ escL l := by simp [escL]
  rw [e, List.length_append, List.length_cons]
  have := escC_length c
  omega
theorem escC_plain (c : UInt8) (h : plainC c = true) : escC c = [c] := by unfold escC; rw [if_pos h]
theorem escC_other (c : UInt8) (h : plainC c = false) : escC c = [37, hexC (c.toNat / 16), hexC (c.toNat % 16)] := by unfold escC; rw [if_neg (by simp [h])]
theorem hex_hi (x : Int) (c : UInt8) (h : x = (c.toNat : Int)) : bt (⟨#[48, 49, 50, 51, 52, 53, 54, 55, 56, 57, 65, 66, 67, 68, 69, 70]⟩ : ByteArray) (x / 16).toNat = ((hexC (c.toNat / 16)).toNat : Int) := by
 have hc := c.toNat_lt
 have e : (x / 16).toNat = c.toNat / 16 := by omega
 rw [e]
 exact hexC_table _ (by omega)
theorem hex_lo (x : Int) (c : UInt8) (h : x = (c.toNat : Int)) : bt (⟨#[48, 49, 50, 51, 52, 53, 54, 55, 56, 57, 65, 66, 67, 68, 69, 70]⟩ : ByteArray) (x % 16).toNat = ((hexC (c.toNat % 16)).toNat : Int) := by
 have e : (x % 16).toNat = c.toNat % 16 := by omega
 rw [e]
 exact hexC_table _ (by omega)
def chr (s : ByteArray) (k : Nat) : UInt8 := s.data.toList.getD k 0
theorem bt_chr (s : ByteArray) (k : Nat) : bt s k = ((chr s k).toNat : Int) := by
 unfold chr
 by_cases h : k < s.size
 ·rw [bt_at s k h, List.getD_eq_getElem?_getD, List.getElem?_eq_getElem (by simpa using h)]; rfl
 ·rw [bt_end s (by omega), List.getD_eq_getElem?_getD, List.getElem?_eq_none (by rw [← Lib.size_eq]; omega)]; rfl
theorem take_chr (s : ByteArray) (k : Nat) (h : k < s.size) : s.data.toList.take (k + 1) = s.data.toList.take k ++ [chr s k] := by
 rw [take_succ s k h]; unfold chr; rw [List.getD_eq_getElem?_getD, List.getElem?_eq_getElem (by simpa using h)]; rfl
theorem esc_step (s : ByteArray) (k : Nat) (h : k < s.size) : escL (s.data.toList.take (k + 1)) = escL (s.data.toList.take k) ++ escC (chr s k) := by rw [take_chr s k h, escL_snoc]
theorem plain_chr (s : ByteArray) (k : Nat) : plainC (chr s k) = plainI (bt s k) := by unfold plainC; rw [bt_chr]
theorem drop_chr (s : ByteArray) (i : Nat) (h : i < s.size) : s.data.toList.drop i = chr s i :: s.data.toList.drop (i + 1) := by
 unfold chr
 rw [List.getD_eq_getElem?_getD, List.getElem?_eq_getElem (by simpa using h)]
 exact List.drop_eq_getElem_cons (by simpa using h)
end Go.Proofs.YtonfkhkalodldabGreatDoor
end

section
set_option maxRecDepth 100000
namespace Go.Proofs.YtonfkhkalodldabGreatDoor
open Go.RowKit Go.PlainAid
theorem bsize : (Tryz.prog.info? 95).map (·.size) = some 2 := by kernel_rfl
theorem blies : liesAt Tryz.prog Tryz.prog.depth 95 (2 / Tryz.prog.cellsOf 95) 0 95 1 = true := by kernel_rfl
set_option maxHeartbeats 1000000 in
set_option maxRecDepth 100000 in
theorem check_used (b : Nat) (w : World) (h0 : w.cell? ⟨b, 0, none⟩ = some (.pointer (some ⟨b, 0, none⟩))) :
  Calls Tryz.prog 97 #[.pointer (some ⟨b, 0, none⟩)] w fun e w' => e = .returned (.tuple #[]) ∧ w' = w := by
 obtain ⟨j, hj, _⟩ := Option.map_eq_some_iff.1 bsize
 go_enter Tryz.func97, Tryz.ntmps97
 go_wp2
 rw [Lib.run_neq_ptr_same w _ Tryz.underlying92 hj]
 go_wp2
 go_end0
 exact ⟨rfl, rfl⟩
set_option maxHeartbeats 1000000 in
set_option maxRecDepth 100000 in
theorem check_fresh (b : Nat) (w : World) (h0 : w.cell? ⟨b, 0, none⟩ = some (.pointer none)) (hsh : w.shape? b = some (95, 2)) (hfz : w.frozen? ⟨b, 0, none⟩ = false) :
  Calls Tryz.prog 97 #[.pointer (some ⟨b, 0, none⟩)] w fun e w' => e = .returned (.tuple #[]) ∧ w' = w.setCell ⟨b, 0, none⟩ (.pointer (some ⟨b, 0, none⟩)) := by
 obtain ⟨j, hj, hjs⟩ := Option.map_eq_some_iff.1 bsize
 go_enter Tryz.func97, Tryz.ntmps97
 go_wp2
 rw [Lib.run_to_unsafe w ⟨b, 0, none⟩ Tryz.underlying92 Tryz.underlying169 hj (by rw [hjs]; decide) hsh (Nat.zero_lt_succ 1)]
 simp only [Result.andThen]
 rw [Oper.upon_value]
 go_wp2
 rw [run_callFunc_extern Tryz.func122 (by kernel_rfl) (by kernel_rfl) (by kernel_rfl) (e := Extern.AbiNoEscape.same) (by kernel_rfl)]
 rw [Lib.run_noEscape]
 simp only [Result.andThen]
 rw [Oper.upon_value]
 go_wp2
 rw [Lib.run_from_unsafe w ⟨b, 0, none⟩ Tryz.underlying169 Tryz.underlying92 hj hsh blies]
 simp only [Result.andThen]
 rw [Oper.upon_value]
 go_wp2
 go_end0
 exact ⟨rfl, rfl⟩
def Bld (B b : Nat) (l : List UInt8) (w : World) : Prop := Lib.IsBuilder 95 5 B b (bcells l) w
theorem check_any (B b : Nat) (bs : List Value) (w : World) (h : Lib.IsBuilder 95 5 B b bs w) :
  Calls Tryz.prog 97 #[.pointer (some ⟨b, 0, none⟩)] w fun e w' => e = .returned (.tuple #[]) ∧ (Lib.BuilderAt 95 5 B b (.pointer (some ⟨b, 0, none⟩)) bs w' ∧ Below B w w') := by
 rcases h with h | h
 ·refine (check_fresh b w h.cell0 h.shape h.frozen0).mono ?_
  rintro e w' ⟨rfl, rfl⟩
  exact ⟨rfl, h.used _, (Below.refl B w).setCell (p := ⟨b, 0, none⟩) h.1 _⟩
 ·refine (check_used b w h.cell0).mono ?_
  rintro e w' ⟨rfl, rfl⟩
  exact ⟨rfl, h, Below.refl B _⟩
theorem push_byte_g {ops : Array Oper} {rest : List Oper} {o : Oper} {a : Act} {Q : Exit → Act → World → Prop} (wr : World) {base : Nat} {v : Value} {n : Nat} {xs : List Value} (hown : wr.ownsRow base 5 1 v n xs) (s x : Operand)
  (c : Int) (hgd : o.guard = none)
  (ho : o.op = .call { callee := .builtin .append, args := #[s, x], argTypes := #[93, 93] })
  (hs : a.eval s = v) (hx : a.eval x = .slice (some ⟨wr.heap.size, 0, none⟩) 1 1) (hn : n + 1 ≤ 140737488355328) (hbase : base ≤ wr.heap.size)
  (h : ∀ v' w', w'.ownsRow base 5 1 v' (n + 1) (xs ++ [.int .u8 c]) → (wr.alloc (.cells #[.int .u8 c] 5)).grownBy w' v.ownBlock → wpList Tryz.prog ops Q rest (a.put o.dst v') w') :
  wpList Tryz.prog ops Q (o :: rest) a (wr.alloc (.cells #[.int .u8 c] 5)) := by
 obtain ⟨i0, hi, hz0, hz1, hz2⟩ := info_parts info5
 refine wpList_append_own _ hgd s x 93 ho base 5 i0 (.int .u8 0) 1 1 Tryz.underlying93 hi hz0 hz1 hz2 rfl (by decide) v n xs hs (hown.alloc _) ⟨wr.heap.size, 0, none⟩ 1 1 [.int .u8 c] hx rfl
  (cell_one_new _ _ _) (by intro u hu; simp at hu; subst hu; rfl) (by unfold maxLen; omega) (by omega) (by simp; omega) ?_
 intro v' w' h1 h2 _
 exact h v' w' h1 h2
set_option maxHeartbeats 2000000 in
set_option maxRecDepth 100000 in
theorem writeByte_cells (B b : Nat) (bs : List Value) (c : Int) (w : World) (h : Lib.IsBuilder 95 5 B b bs w) (hlen : bs.length + 1 ≤ 140737488355328) (hBw : B ≤ w.heap.size) :
  Calls Tryz.prog 68 #[.pointer (some ⟨b, 0, none⟩), .int .u8 c] w fun e w' => e = .returned .nilIface ∧ (Lib.BuilderAt 95 5 B b (.pointer (some ⟨b, 0, none⟩)) (bs ++ [.int .u8 c]) w' ∧ Below B w w') := by
 go_enter Tryz.func68, Tryz.ntmps68
 go_wp2_with (go_at_call 97; refine (check_any B b bs _ h).mono ?_)
 rintro e w1 ⟨rfl, h1, hb1⟩
 obtain ⟨hB, v, hbk, hown, hne⟩ := h1
 have c1 : w1.cell? ⟨b, 1, none⟩ = some v := by rw [Lib.cell_of_heap hbk]; rfl
 have HZ := hb1.size
 go_wp2_with (at_builtin; refine push_byte_g w1 hown (.tmp 11) (.tmp 13) _ ?_ ?_ ?_ ?_ ?_ ?_ ?_; exact rfl; exact rfl; exact rfl; exact rfl; omega; omega)
 intro v' w2 hown' hgrow
 have hlt : b < w1.heap.size := by
  rcases Nat.lt_or_ge b w1.heap.size with h' | h'
  ·exact h'
  ·simp [Array.getElem?_eq_none h'] at hbk
 have hb2 : w2.heap[b]? = some (.cells #[.pointer (some ⟨b, 0, none⟩), v] 95 (0, 0)) := by
  rw [hgrow.block b (by simp; omega) (fun e => hne e.symm), Lib.alloc_old w1 _ b hlt]
  exact hbk
 have d1 : w2.cell? ⟨b, 1, none⟩ = some v := by rw [Lib.cell_of_heap hb2]; rfl
 have f1 : w2.frozen? ⟨b, 1, none⟩ = false := Lib.frozen_of_heap hb2 1
 obtain ⟨g, cap, rfl⟩ : ∃ g cap, v' = .slice (some ⟨g, 0, none⟩) (bs.length + 1) cap := by
  rcases hown'.2 with ⟨_, h0⟩ | ⟨g, cap, cur, hv, _⟩
  ·omega
  ·exact ⟨g, cap, hv⟩
 go_wp2
 go_ret
 refine ⟨rfl, ?_, ?_⟩
 ·exact Lib.BuilderAt.put (T := 95) (e := 5) hB hb2 (bs' := bs ++ [.int .u8 c]) (by simpa using hown') (by decide)
 ·exact ((hb1.alloc (by omega) _).grown hgrow (by simp; omega) (fun k hk => (hown.lt k hk).1)).setCell (p := ⟨b, 1, none⟩) hB _
theorem writeByte_s (B b : Nat) (l : List UInt8) (c : UInt8) (x : Int) (w : World) (h : Bld B b l w) (hx : x = (c.toNat : Int)) (hlen : l.length ≤ 100000000000) (hBw : B ≤ w.heap.size) :
  Calls Tryz.prog 68 #[.pointer (some ⟨b, 0, none⟩), .int .u8 x] w fun e w' => e = .returned .nilIface ∧ Bld B b (l ++ [c]) w' ∧ Below B w w' := by
 subst hx
 refine (writeByte_cells B b (bcells l) c.toNat w h (by rw [bcells_length]; omega) hBw).mono fun e w' h => ⟨h.1, ?_, h.2.2⟩
 unfold Bld
 rw [bcells_append]
 exact .inr h.2.1
theorem string_s (B b : Nat) (l : List UInt8) (w : World) (h : Bld B b l w) (hBw : B ≤ w.heap.size) :
  Calls Tryz.prog 51 #[.pointer (some ⟨b, 0, none⟩)] w fun e w' => e = .returned (.string ⟨l.toArray⟩) ∧ Below B w w' :=
 (Tryz.Builder_String_any B b l w h hBw).mono fun e w' h => ⟨h.1, h.2⟩
theorem bld_new (w : World) : Bld w.heap.size w.heap.size [] (w.alloc (.cells #[.pointer none, .slice none 0 0] 95)) := Lib.fresh_isBuilder _ _ w
theorem Bld.below {B b : Nat} {l : List UInt8} {w w' : World} (h : Bld B b l w) (hb : Below w.heap.size w w') : Bld B b l w' := by
 have one : ∀ p, Lib.BuilderAt 95 5 B b p (bcells l) w → Lib.BuilderAt 95 5 B b p (bcells l) w' := fun p h => by
  have hl := h.lt
  obtain ⟨hB, v, hbk, hown, hne⟩ := h
  refine ⟨hB, v, by rw [hb.block b hl]; exact hbk, ?_, hne⟩
  exact hown.kept (row := none) ⟨hb.os, hb.tape, hb.output, hb.size, fun k hk _ => hb.block k hk⟩ (by
   cases h : v.ownBlock
   ·exact .inl rfl
   ·exact .inr (by simp))
 rcases h with h | h
 ·exact .inl (one _ h)
 ·exact .inr (one _ h)
theorem strCells_b (s : ByteArray) : Lib.strCells s = bcells s.data.toList := rfl
end Go.Proofs.YtonfkhkalodldabGreatDoor
end

section
set_option maxRecDepth 100000
namespace Go.Proofs.YtonfkhkalodldabGreatDoor
open Go.PlainAid
def pieces (b : UInt8) : List UInt8 → List (List UInt8)
 | [] => [[]]
 | c :: l => if c = b then [] :: pieces b l else match pieces b l with
  | p :: r => (c :: p) :: r
  | [] => [[c]]
def ofL (l : List UInt8) : ByteArray := ⟨l.toArray⟩
end Go.Proofs.YtonfkhkalodldabGreatDoor
end

section
set_option maxRecDepth 100000
namespace Go.Proofs.YtonfkhkalodldabGreatDoor
open Go.RowKit Go.PlainAid
def digB (c : UInt8) : Bool := decide (48 ≤ c.toNat) && decide (c.toNat ≤ 57)
def stripL (l : List UInt8) : List UInt8 := Lib.trimPrefix l [45]
def digsB (l : List UInt8) : Bool := match l with
 | [] => false
 | c :: _ => !(c == 48) && l.all digB
def decB (l : List UInt8) : Bool := decide (l = [48]) || digsB (stripL l)
theorem byte_chr (t : ByteArray) (k : Nat) (h : k < t.size) : ((t[k]'h).toNat : Int) = bt t k := by unfold bt; rw [dif_pos h]
def IntOk (w : World) : Prop := Lib.TabIs Tryz.prog w "internal/strconv.uint64pow10" .u64 Lib.pow10Tab ∧ ∃ tp p, w.var? Tryz.prog "strconv.ErrRange" = some #[.iface tp p]
theorem var_below {w w' : World} {B : Nat} {n : String} {cs : Array Value} (h : w.var? Tryz.prog n = some cs) (hb : Below B w w') (hB : w.heap.size ≤ B) : w'.var? Tryz.prog n = some cs := by
 unfold World.var? at h ⊢
 cases hg : Tryz.prog.globalNamed n with
 | none => rw [hg] at h; cases h
 | some g =>
  rw [hg] at h
  simp only [Option.bind_some] at h ⊢
  have hlt : g < w.heap.size := by
   rcases Nat.lt_or_ge g w.heap.size with k | k
   ·exact k
   ·rw [Array.getElem?_eq_none k] at h; cases h
  rw [hb.block g (by omega)]
  exact h
theorem IntOk.below {w w' : World} (h : IntOk w) (hb : Below w.heap.size w w') : IntOk w' :=
 ⟨var_below h.1 hb (Nat.le_refl _), by obtain ⟨tp, p, e⟩ := h.2; exact ⟨tp, p, var_below e hb (Nat.le_refl _)⟩⟩
theorem below_bw (w : World) (e : TypeId) (s : ByteArray) : Below w.heap.size w (Lib.bytesWorld w e s) :=
 ⟨rfl, rfl, rfl, by rw [Lib.bytesWorld_size]; omega, fun j hj => Lib.bytesWorld_at_old w e s j hj⟩
theorem below_grow (w : World) (k : Nat) (os : Array Obj) : Below w.heap.size w (Go.Sort.grow (w.drewN k) os) :=
 ⟨rfl, rfl, rfl, by simp [Go.Sort.grow], fun j hj => by simp [Go.Sort.grow, Array.getElem?_append, hj]⟩
theorem atoi_ok (s : ByteArray) (v : Int) (w : World) (hs : s.size ≤ 1000000000) (h : Lib.atoiAll s.data.toList = .ok v) :
  Calls Tryz.prog 147 #[.string s] w fun e w' => e = .returned (.tuple #[.int .i64 v, .nilIface]) ∧ Below w.heap.size w w' :=
 (Tryz.strconv_Atoi_ok s (by omega) v h w).mono fun e w' k => ⟨k.1, by
  rcases k.2 with rfl | ⟨t, rfl⟩
  ·exact Below.refl _ _
  ·exact below_bw _ _ _⟩
theorem itoa_s (n : Int) (w : World) (h0 : -9223372036854775808 ≤ n) (h1 : n ≤ 9223372036854775807) (ho : IntOk w) :
  Calls Tryz.prog 148 #[.int .i64 n] w fun e w' => e = .returned (.string (ofL (Lib.itoa n))) ∧ Below w.heap.size w w' :=
 (Tryz.strconv_Itoa n h0 h1 w ho.1).mono fun e w' ⟨k1, k, os, k2⟩ => ⟨k1, by rw [k2]; exact below_grow w k os⟩
def Fair {α : Type} (x : Lib.NumEnd α) : Prop := (∃ v, x = .ok v) ∨ x = .range
theorem parse_digits : ∀ (l : List UInt8) (acc : Nat), l.all digB = true → Fair (Lib.parseUint10 acc l)
 | [], acc, _ => .inl ⟨acc, rfl⟩
 | c :: r, acc, h => by
  rw [List.all_cons, Bool.and_eq_true] at h
  have hc : 48 ≤ c.toNat ∧ c.toNat ≤ 57 := by simpa [digB] using h.1
  unfold Lib.parseUint10
  rw [if_pos hc]
  split
  ·exact .inr rfl
  ·split
   ·exact .inr rfl
   ·exact parse_digits r _ h.2
theorem signless_fair {x : Lib.NumEnd Nat} (h : Fair x) : Fair (Lib.signless x) := by
 rcases h with ⟨v, rfl⟩ | rfl
 ·unfold Lib.signless; dsimp only; split
  ·exact .inr rfl
  ·exact .inl ⟨_, rfl⟩
 ·exact .inr rfl
theorem signed_fair {x : Lib.NumEnd Nat} (h : Fair x) : Fair (Lib.signed x) := by
 rcases h with ⟨v, rfl⟩ | rfl
 ·unfold Lib.signed; dsimp only; split
  ·exact .inr rfl
  ·exact .inl ⟨_, rfl⟩
 ·exact .inr rfl
theorem strip_minus (r : List UInt8) : stripL (45 :: r) = r := by simp [stripL, Lib.trimPrefix, Lib.hasPrefix]
theorem strip_plain (c : UInt8) (r : List UInt8) (h : c ≠ 45) : stripL (c :: r) = c :: r := by
 unfold stripL Lib.trimPrefix Lib.hasPrefix
 rw [if_neg]
 simp only [List.isPrefixOf, Bool.and_eq_true, beq_iff_eq]
 rintro ⟨e, _⟩; exact h e.symm
def readI (l : List UInt8) : Int × Int := if decB l then (match Lib.atoiAll l with
 | .ok v => (v, 0)
 | _ => (0, 27)) else (0, 4)
set_option maxRecDepth 100000 in
theorem int_s (n : Int) (w : World) (h0 : -9223372036854775808 ≤ n) (h1 : n ≤ 9223372036854775807) (ho : IntOk w) :
  Calls Tryz.prog 132 #[.int .i64 n] w fun e w' => e = .returned (.string (ofL (Lib.itoa n))) ∧ Below w.heap.size w w' := by
 have HO := Lib.hid ho; clear ho
 go_enter Tryz.func132, Tryz.ntmps132
 go_wp2_with (go_at_call 148; refine (itoa_s n _ h0 h1 HO.out).mono ?_; rintro e w1 ⟨rfl, hb1⟩)
 go_ret
 exact ⟨rfl, hb1⟩
end Go.Proofs.YtonfkhkalodldabGreatDoor
end

section
set_option maxRecDepth 100000
namespace Go.Proofs.YtonfkhkalodldabGreatDoor
def valA (acc : Nat) (l : List UInt8) : Nat := l.foldl (fun a c => 10 * a + (c.toNat - 48)) acc
def valD (l : List UInt8) : Nat := valA 0 l
theorem valA_cons (a : Nat) (c : UInt8) (l : List UInt8) : valA a (c :: l) = valA (10 * a + (c.toNat - 48)) l := by
 unfold valA
 rw [List.foldl_cons]
theorem valD_snoc (l : List UInt8) (c : UInt8) : valD (l ++ [c]) = 10 * valD l + (c.toNat - 48) := by
 unfold valD valA
 rw [List.foldl_append, List.foldl_cons, List.foldl_nil]
theorem valA_ge : ∀ (l : List UInt8) (a : Nat), a ≤ valA a l
 | [], a => Nat.le_refl _
 | c :: l, a => by rw [valA_cons]; exact Nat.le_trans (by omega) (valA_ge l _)
theorem digB_bounds {c : UInt8} (h : digB c = true) : 48 ≤ c.toNat ∧ c.toNat ≤ 57 := by simpa [digB] using h
theorem parse_val : ∀ (l : List UInt8) (acc : Nat), acc < 18446744073709551616 → l.all digB = true →
  Lib.parseUint10 acc l = if valA acc l < 18446744073709551616 then .ok (valA acc l) else .range
 | [], acc, ha, h => by rw [if_pos (show valA acc [] < _ from ha)]; rfl
 | c :: r, acc, ha, h => by
  rw [List.all_cons, Bool.and_eq_true] at h
  have hc := digB_bounds h.1
  have hg := valA_ge r (10 * acc + (c.toNat - 48))
  unfold Lib.parseUint10
  rw [if_pos hc, valA_cons]
  split
  ·rw [if_neg (by omega)]
  ·split
   ·rw [if_neg (by omega)]
   ·rw [Nat.mul_comm acc 10]
    exact parse_val r _ (by omega) h.2
theorem val_dec (u : Nat) : valD (Lib.decDigits u) = u := by
 induction u using Nat.strongRecOn with
 | _ u ih =>
  by_cases h : u < 10
  ·rw [Lib.decDigits, dif_pos h]
   show 10 * 0 + ((UInt8.ofNat (48 + u)).toNat - 48) = u
   rw [UInt8.toNat_ofNat']; omega
  ·rw [Lib.decDigits, dif_neg h, valD_snoc, ih (u / 10) (by omega), UInt8.toNat_ofNat']; omega
theorem digs_snoc {l : List UInt8} {c : UInt8} (h : digsB l = true) (hc : digB c = true) : digsB (l ++ [c]) = true := by
 cases l with
 | nil => cases h
 | cons d r =>
  unfold digsB at h ⊢
  rw [List.cons_append]
  simp only [Bool.and_eq_true, List.all_cons, List.all_append, List.all_nil] at h ⊢
  exact ⟨h.1, h.2.1, h.2.2, hc, trivial⟩
theorem dig_of (d : Nat) (h : d < 10) : digB (UInt8.ofNat (48 + d)) = true := by
 unfold digB; rw [UInt8.toNat_ofNat']; simp; omega
theorem dec_digs (u : Nat) (h1 : 1 ≤ u) : digsB (Lib.decDigits u) = true := by
 induction u using Nat.strongRecOn with
 | _ u ih =>
  by_cases h : u < 10
  ·rw [Lib.decDigits, dif_pos h]
   unfold digsB
   have h2 := dig_of u h
   simp only [Bool.and_eq_true, List.all_cons, List.all_nil]
   refine ⟨?_, h2, trivial⟩
   have : (UInt8.ofNat (48 + u) == 48) = false := by
    refine beq_false_of_ne fun e => ?_
    have e2 := congrArg UInt8.toNat e
    rw [UInt8.toNat_ofNat'] at e2
    have h4 : (48 : UInt8).toNat = 48 := rfl
    omega
   rw [this]; rfl
  ·rw [Lib.decDigits, dif_neg h]
   exact digs_snoc (ih (u / 10) (by omega) (by omega)) (dig_of _ (by omega))
theorem digs_parts {l : List UInt8} (h : digsB l = true) : l ≠ [] ∧ l.all digB = true := by
 cases l with
 | nil => cases h
 | cons c r =>
  unfold digsB at h
  rw [Bool.and_eq_true] at h
  exact ⟨by simp, h.2⟩
theorem mag_val {l : List UInt8} (h : digsB l = true) : Lib.parseMag l = if valD l < 18446744073709551616 then .ok (valD l) else .range := by
 unfold Lib.parseMag
 rw [if_neg (digs_parts h).1]
 exact parse_val l 0 (by omega) (digs_parts h).2
theorem digs_head {c : UInt8} {r : List UInt8} (h : digsB (c :: r) = true) : 49 ≤ c.toNat ∧ c.toNat ≤ 57 := by
 unfold digsB at h
 simp only [Bool.and_eq_true, List.all_cons] at h
 have := digB_bounds h.2.1
 have hne : c ≠ 48 := by simpa using h.1
 have hn : c.toNat ≠ 48 := fun e => hne (UInt8.toNat_inj.1 e)
 omega
theorem dec_plain {l : List UInt8} (h : digsB l = true) : decB l = true := by
 cases l with
 | nil => cases h
 | cons c r =>
  have := digs_head h
  unfold decB
  rw [strip_plain c r (fun e => by have h4 : (45 : UInt8).toNat = 45 := rfl; rw [e] at this; omega), h, Bool.or_true]
theorem dec_minus {r : List UInt8} : decB (45 :: r) = digsB r := by
 unfold decB
 rw [strip_minus]
 have : decide ((45 : UInt8) :: r = [48]) = false := decide_eq_false (by intro e; injection e with e1 _; exact absurd e1 (by decide))
 rw [this, Bool.false_or]
theorem signless_small {u : Nat} (h : u < 9223372036854775808) : Lib.signless (.ok u) = .ok (u : Int) := by unfold Lib.signless; dsimp only; rw [if_neg (by omega)]
theorem signless_big {u : Nat} (h : ¬ u < 9223372036854775808) : Lib.signless (.ok u) = .range := by unfold Lib.signless; dsimp only; rw [if_pos (by omega)]
theorem signed_small {u : Nat} (h : u ≤ 9223372036854775808) : Lib.signed (.ok u) = .ok (-(u : Int)) := by unfold Lib.signed; dsimp only; rw [if_neg (by omega)]
theorem signed_big {u : Nat} (h : ¬ u ≤ 9223372036854775808) : Lib.signed (.ok u) = .range := by unfold Lib.signed; dsimp only; rw [if_pos (by omega)]
theorem readI_plain {l : List UInt8} (h : digsB l = true) : readI l = if valD l < 9223372036854775808 then ((valD l : Int), 0) else (0, 27) := by
 unfold readI
 rw [dec_plain h, if_pos rfl]
 cases l with
 | nil => cases h
 | cons c r =>
  have hd := digs_head h
  rw [Lib.atoiAll_plain c r (by omega) (by omega), mag_val h]
  by_cases h1 : valD (c :: r) < 9223372036854775808
  ·rw [if_pos h1, if_pos (by omega), signless_small h1]
  ·rw [if_neg h1]
   by_cases h2 : valD (c :: r) < 18446744073709551616
   ·rw [if_pos h2, signless_big h1]
   ·rw [if_neg h2]; rfl
theorem readI_minus {r : List UInt8} (h : digsB r = true) : readI (45 :: r) = if valD r ≤ 9223372036854775808 then (-(valD r : Int), 0) else (0, 27) := by
 unfold readI
 rw [dec_minus, h, if_pos rfl, Lib.atoiAll_minus, mag_val h]
 by_cases h1 : valD r ≤ 9223372036854775808
 ·rw [if_pos h1, if_pos (by omega), signed_small h1]
 ·rw [if_neg h1]
  by_cases h2 : valD r < 18446744073709551616
  ·rw [if_pos h2, signed_big h1]
  ·rw [if_neg h2]; rfl
theorem readI_zero : readI [48] = (0, 0) := by decide
theorem readI_itoa (n : Int) (h0 : -9223372036854775808 ≤ n) (h1 : n ≤ 9223372036854775807) : readI (Lib.itoa n) = (n, 0) := by
 by_cases hn : n < 0
 ·obtain ⟨u, rfl⟩ : ∃ u : Nat, n = -(u : Int) := ⟨n.natAbs, by omega⟩
  rw [Lib.itoa_neg u (by omega), readI_minus (dec_digs u (by omega)), val_dec, if_pos (by omega)]
 ·obtain ⟨u, rfl⟩ : ∃ u : Nat, n = u := ⟨n.toNat, by omega⟩
  rw [Lib.itoa_nonneg]
  by_cases hz : u = 0
  ·subst hz; rw [Lib.decDigits, dif_pos (by omega)]; exact readI_zero
  ·rw [readI_plain (dec_digs u (by omega)), val_dec, if_pos (by omega)]
end Go.Proofs.YtonfkhkalodldabGreatDoor
end

section
set_option maxRecDepth 100000
namespace Go.Proofs.YtonfkhkalodldabGreatDoor
open Go.RowKit Go.PlainAid
set_option maxHeartbeats 1000000 in
theorem plain_any (c : Int) (w : World) (h0 : 0 ≤ c) (h1 : c ≤ 255) :
  Calls Tryz.prog 123 #[.int .u8 c] w fun e w' => e = .returned (.bool (plainI c)) ∧ w = w' := by
 cases a1 : (c == 37)
 ·cases a2 : (c == 124)
  ·cases a3 : (c == 44)
   ·cases a4 : (c == 61)
    ·cases a5 : (c == 59)
     ·cases a6 : (c == 34)
      ·by_cases b1 : 33 ≤ c
       ·by_cases b2 : c ≤ 126
        ·have HE := Lib.hid (show plainI c = true by unfold plainI; rw [a1, a2, a3, a4, a5, a6]; simp [b1, b2])
         have d2 : decide (c ≤ 126) = true := by simp [b2]
         go_enter Tryz.func123, Tryz.ntmps123
         go_wp2
         go_ret
         exact ⟨by rw [HE.out]; rfl, rfl⟩
        ·have HE := Lib.hid (show plainI c = false by unfold plainI; simp [b2])
         have d2 : decide (c ≤ 126) = false := by simp [b2]
         go_enter Tryz.func123, Tryz.ntmps123
         go_wp2
         go_ret
         exact ⟨by rw [HE.out]; rfl, rfl⟩
       ·have HE := Lib.hid (show plainI c = false by unfold plainI; simp [b1])
        go_enter Tryz.func123, Tryz.ntmps123
        go_wp2
        go_ret
        exact ⟨by rw [HE.out]; rfl, rfl⟩
      ·have HE := Lib.hid (show plainI c = false by unfold plainI; rw [a6]; simp)
       go_enter Tryz.func123, Tryz.ntmps123
       go_wp2
       go_ret
       exact ⟨by rw [HE.out]; rfl, rfl⟩
     ·have HE := Lib.hid (show plainI c = false by unfold plainI; rw [a5]; simp)
      go_enter Tryz.func123, Tryz.ntmps123
      go_wp2
      go_ret
      exact ⟨by rw [HE.out]; rfl, rfl⟩
    ·have HE := Lib.hid (show plainI c = false by unfold plainI; rw [a4]; simp)
     go_enter Tryz.func123, Tryz.ntmps123
     go_wp2
     go_ret
     exact ⟨by rw [HE.out]; rfl, rfl⟩
   ·have HE := Lib.hid (show plainI c = false by unfold plainI; rw [a3]; simp)
    go_enter Tryz.func123, Tryz.ntmps123
    go_wp2
    go_ret
    exact ⟨by rw [HE.out]; rfl, rfl⟩
  ·have HE := Lib.hid (show plainI c = false by unfold plainI; rw [a2]; simp)
   go_enter Tryz.func123, Tryz.ntmps123
   go_wp2
   go_ret
   exact ⟨by rw [HE.out]; rfl, rfl⟩
 ·have HE := Lib.hid (show plainI c = false by unfold plainI; rw [a1]; simp)
  go_enter Tryz.func123, Tryz.ntmps123
  go_wp2
  go_ret
  exact ⟨by rw [HE.out]; rfl, rfl⟩
set_option maxRecDepth 100000 in
set_option maxHeartbeats 2000000 in
theorem escape_any (s : ByteArray) (w : World) (hs : s.size ≤ 1000000000) :
  Calls Tryz.prog 98 #[.string s] w fun e w' => e = .returned (.string ⟨(escL s.data.toList).toArray⟩) ∧ Below w.heap.size w w' := by
 have hb := get_bt s
 have hx := get_bt (⟨#[48, 49, 50, 51, 52, 53, 54, 55, 56, 57, 65, 66, 67, 68, 69, 70]⟩ : ByteArray)
 have HN := Lib.hid (bld_new w)
 go_enter Tryz.func98, Tryz.ntmps98
 go_wp2
 go_loopw [7] (fun i wr => ∃ k : Nat, k ≤ s.size ∧ i = .int .i64 k ∧ Bld w.heap.size w.heap.size (escL (s.data.toList.take k)) wr ∧ Below w.heap.size w wr ∧ w.heap.size < wr.heap.size)
  (fun i _ => s.size - (intOf i).toNat)
 case atStart => exact ⟨0, Nat.zero_le _, rfl, HN.out, (Below.refl _ _).alloc (Nat.le_refl _) _, by simp⟩
 case round =>
  obtain ⟨k, hk, rfl, HB, hbel, hsz⟩ := hrel
  have h0 := bt_nonneg s k
  have h255 := bt_le s k
  have hl3 := escL_length (s.data.toList.take k)
  have hl4 : (s.data.toList.take k).length ≤ k := List.length_take_le _ _
  have HC := Lib.hid (bt_chr s k)
  by_cases hlt : k < s.size
  ·have HST := Lib.hid (esc_step s k hlt)
   have HP := Lib.hid (plain_chr s k)
   cases c1 : plainI (bt s k)
   ·have HST2 := Lib.hid (show escL (s.data.toList.take (k + 1)) = ((escL (s.data.toList.take k) ++ [37]) ++ [hexC ((chr s k).toNat / 16)]) ++ [hexC ((chr s k).toNat % 16)] by
     rw [HST.out, escC_other _ (by rw [HP.out, c1])]; simp)
    go_wp2_with (go_at_call 123; refine (plain_any _ _ h0 h255).mono ?_; rintro e w' ⟨rfl, rfl⟩)
    refine (writeByte_s w.heap.size w.heap.size _ 37 37 _ HB rfl (by omega) hbel.size).mono ?_
    rintro e w1 ⟨rfl, HB1, hb1⟩
    go_wp2_with fail
    refine (writeByte_s w.heap.size w.heap.size _ (hexC ((chr s k).toNat / 16)) _ _ HB1 (hex_hi _ _ HC.out) (by simp; omega) (Nat.le_trans hbel.size hb1.size)).mono ?_
    rintro e w2 ⟨rfl, HB2, hb2⟩
    go_wp2_with fail
    refine (writeByte_s w.heap.size w.heap.size _ (hexC ((chr s k).toNat % 16)) _ _ HB2 (hex_lo _ _ HC.out) (by simp; omega) (Nat.le_trans hbel.size (Nat.le_trans hb1.size hb2.size))).mono ?_
    rintro e w3 ⟨rfl, HB3, hb3⟩
    have hbel3 := hbel.trans (hb1.trans (hb2.trans hb3))
    go_wp2
    go_roundw
    case rel => exact ⟨k + 1, by omega, by go_num, by rw [HST2.out]; exact HB3, hbel3, Nat.lt_of_lt_of_le hsz (Nat.le_trans hb1.size (Nat.le_trans hb2.size hb3.size))⟩
    case measure => simp [intOf]; omega
   ·have HST2 := Lib.hid (show escL (s.data.toList.take (k + 1)) = escL (s.data.toList.take k) ++ [chr s k] by
     rw [HST.out, escC_plain _ (by rw [HP.out, c1])])
    go_wp2_with (go_at_call 123; refine (plain_any _ _ h0 h255).mono ?_; rintro e w' ⟨rfl, rfl⟩)
    refine (writeByte_s w.heap.size w.heap.size _ (chr s k) _ _ HB HC.out (by omega) hbel.size).mono ?_
    rintro e w1 ⟨rfl, HB1, hb1⟩
    go_wp2
    go_roundw
    case rel => exact ⟨k + 1, by omega, by go_num, by rw [HST2.out]; exact HB1, hbel.trans hb1, Nat.lt_of_lt_of_le hsz hb1.size⟩
    case measure => simp [intOf]; omega
  ·have HT := Lib.hid (show s.data.toList.take k = s.data.toList by rw [List.take_of_length_le]; simp; omega)
   rw [HT.out] at HB
   go_wp2_with (go_at_call 51; refine (string_s w.heap.size w.heap.size _ _ HB hbel.size).mono ?_; rintro e w1 ⟨rfl, hb1⟩)
   go_ret
   exact ⟨rfl, hbel.trans hb1⟩
end Go.Proofs.YtonfkhkalodldabGreatDoor
end
