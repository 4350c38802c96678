/-
  Texts of the schema layer and of those beneath it, joined: AttSet, AttNew, AttCk, AttSrt, AttRS, AttR2, AttR3, AttR4, AttR5, AttP1, CodecA. Conditions stand at each contract.
-/
import Derived.Lib.TrimByte
import Derived.Test.YtbkignlbcneddaaGreatDoorX01
import Derived.Test.YtbkignlbcneddaaGreatDoorX03
set_option linter.unusedVariables false
set_option linter.unusedSimpArgs false
set_option linter.unnecessarySimpa false

section
/-
  Contract of attrs.setOf: a map of the call's own whose keys are the strings of a list. Condition: at most 1100000 strings of at most 1100000 bytes.
-/
set_option maxRecDepth 100000
namespace Go.Proofs.YtbkignlbcneddaaGreatDoor
open Go.RowKit Go.PlainAid Go.Maps Go.ChangeMaps
variable {H : Type}
/-- a set of strings: the map's keys are those of ks, each with true -/
structure SetM (w : World) (b n : Nat) (D : DataW H) (ks : List ByteArray) : Prop where
  map : w.ownsMap Tryz.prog 9 (plainElem Tryz.prog 4) b n D
  reads : ∀ k : ByteArray, D.atKey (klit k) (.lit (.bool false)) = .lit (.bool (memB ks k))
theorem plain_bool {P : Program} {e : TypeId} {v : Value} {x : Bool} {ps : List MemPlace} (he : P.underlying e = some .bool) (h : plainElem (H := H) P e v = some (.lit (.bool x), ps)) : v = .bool x := by
  unfold plainElem at h
  rw [he] at h
  cases v <;> simp at h
  rw [h.1]
theorem memB_snoc (ks : List ByteArray) (s k : ByteArray) : memB (ks ++ [s]) k = (memB ks k || decide (s = k)) := by
  unfold memB; rw [List.any_append]; simp
theorem setM_made (w : World) : SetM (H := H) (w.alloc (.map #[] 0)) w.heap.size 0 (.map []) [] where
  map := World.ownsMap_made w _ _ _
  reads k := rfl
theorem SetM.look {w : World} {b n : Nat} {D : DataW H} {ks : List ByteArray} (G : SetM w b n D ks) (k : ByteArray) (hk : k.size ≤ maxLen) :
    (Instr.lookup 162 (.map (some b)) (.string k) false).run Tryz.prog w = .ok (.bool (memB ks k)) w := by
  obtain ⟨v, ps, hrun, hv⟩ := G.map.lookup (t := 162) (e := 4) (string_keyed Tryz.underlying9) Tryz.underlying162 (z := .bool false) (Tryz.zeroValue4 _) (plainElem_bool Tryz.underlying4 false) (klit_key k hk)
  rw [G.reads k] at hv
  have hv' : v = .bool (memB ks k) := plain_bool Tryz.underlying4 hv
  rw [hrun, hv']
theorem SetM.store {w : World} {b n : Nat} {D : DataW H} {ks : List ByteArray} (G : SetM w b n D ks) (k : ByteArray) (hk : k.size ≤ maxLen) (hn : n < maxLen) :
    ∃ w', (Instr.mapUpdate 162 (.map (some b)) (.string k) (.bool true)).run Tryz.prog w = .ok () w' ∧ SetM w' b (n + 1) (D.put (klit k) (.lit (.bool true))) (ks ++ [k]) ∧ w.grownBy w' (some b) := by
  obtain ⟨w', hrun, hm, hg⟩ := G.map.update (t := 162) (e := 4) (string_keyed Tryz.underlying9) Tryz.underlying162 hn (klit_key k hk) (plainElem_bool Tryz.underlying4 true)
  refine ⟨w', hrun, ⟨hm, fun j => ?_⟩, hg⟩
  rw [memB_snoc]
  by_cases e : k = j
  · subst e
    rw [atKey_put_same G.map.isMap (by unfold klit; trivial)]; simp
  · rw [atKey_put_other (fun h => e (klit_one h).symm), G.reads j]
    simp [e]
theorem SetM.kept {w w' : World} {b n : Nat} {D : DataW H} {ks : List ByteArray} {row : Option Nat} (G : SetM w b n D ks) (hg : w.grownBy w' row) (hne : some b ≠ row) : SetM w' b n D ks := ⟨G.map.kept hg hne, G.reads⟩
set_option maxRecDepth 100000 in
set_option maxHeartbeats 2000000 in
theorem setOf_s (ao : Option Addr) (n cap : Nat) (ps : List ByteArray) (w : World) (h : StrsAt w ao n cap ps) (hn : n ≤ 1100000) (hS : SmallS ps) :
    Calls Tryz.prog 178 #[.slice ao n cap] w fun e w' => e = .returned (.map (some w.heap.size)) ∧ (∃ D, SetM (H := Unit) w' w.heap.size n D ps) ∧ Below w.heap.size w w' := by
  obtain ⟨h1, h2, h3, h4⟩ := h
  subst h1
  unfold maxLen at h3
  have H4 := Lib.hid h4; clear h4
  have HS := Lib.hid hS; clear hS
  have hB0 : Below w.heap.size w (w.alloc (.map #[] 0)) := (Below.refl _ _).alloc (Nat.le_refl _) _
  have G0 := setM_made (H := Unit) w
  have hmm := @run_makeMap Tryz.prog
  go_enter Tryz.func178, Tryz.ntmps178
  go_wp2
  clear hmm
  go_loopw [5, 9] (fun s i wr => ∃ (k : Nat) (D : DataW Unit), k ≤ ps.length ∧ i = .int .i64 k ∧ Hid (SetM wr w.heap.size k D (ps.take k)) ∧ Hid (Below w.heap.size w wr)) (fun _ i _ => ps.length - (intOf i).toNat)
  case atStart => exact ⟨0, _, Nat.zero_le _, rfl, Lib.hid G0, Lib.hid hB0⟩
  case round =>
    obtain ⟨k, D, hk, rfl, HG, HB⟩ := hrel
    by_cases hlt : k < ps.length
    · obtain ⟨b, off, rfl, hs⟩ := H4.out (by omega)
      have hcell := (hs.below HB.out hs.1).2 k hlt
      clear hs
      obtain ⟨p, hpe⟩ : ∃ p, partAt ps k = p := ⟨_, rfl⟩
      have hps : p.size ≤ 1100000 := by rw [← hpe]; exact HS.out _ (part_mem ps k hlt)
      rw [hpe] at hcell
      have HT := Lib.hid (show ps.take (k + 1) = ps.take k ++ [p] by rw [← hpe]; exact take_snoc ps k hlt)
      clear hpe
      obtain ⟨w', hrun, HG', hgr⟩ := HG.out.store p (by unfold maxLen; omega) (by unfold maxLen; omega)
      have HG2 := Lib.hid HG'
      have HB2 := Lib.hid (HB.out.grown hgr (HB.out.size) (fun j hj => by cases hj; exact Nat.le_refl _))
      clear HG' hgr
      have d1 : (k : Int) < (ps.length : Int) := by omega
      go_wp2_with fail
      go_roundw
      case rel => exact ⟨k + 1, _, by omega, by go_num, by rw [HT.out]; exact HG2, HB2⟩
      case measure => simp [intOf]; omega
    · have hke : k = ps.length := by omega
      subst hke
      go_wp2_with fail
      go_ret
      have hg := HG.out
      rw [List.take_length] at hg
      exact ⟨rfl, ⟨D, hg⟩, HB.out⟩
end Go.Proofs.YtbkignlbcneddaaGreatDoor
end

section
/-
  Contract of attrs.checkNew. Condition: at most 1100000 strings in each list, of at most 1100000 bytes.
-/
set_option maxRecDepth 100000
namespace Go.Proofs.YtbkignlbcneddaaGreatDoor
open Go.RowKit Go.PlainAid Go.Maps Go.ChangeMaps
theorem memB_app (a b : List ByteArray) (s : ByteArray) : memB (a ++ b) s = (memB a s || memB b s) := by unfold memB; rw [List.any_append]
theorem errV_form {vs old : List ByteArray} {j : Nat} {p : ByteArray} (hp : partAt vs j = p) : errV vs old j = if cleanB p = false then 4 else if memB (old ++ vs.take j) p = true then 7 else 0 := by
  unfold errV
  rw [hp, memB_app]
  cases cleanB p <;> cases memB old p <;> cases memB (vs.take j) p <;> simp
set_option maxRecDepth 100000 in
set_option maxHeartbeats 2000000 in
theorem checkNew_s (ao bo : Option Addr) (n m cap dap : Nat) (old vs : List ByteArray) (w : World) (h : StrsAt w ao n cap old) (k : StrsAt w bo m dap vs) (hn : n ≤ 1100000) (hm : m ≤ 1100000) (hS : SmallS old) (hV : SmallS vs) :
    Calls Tryz.prog 139 #[.slice ao n cap, .slice bo m dap] w fun e w' => e = .returned (.int .i64 (chkV vs old)) ∧ Below w.heap.size w w' := by
  have HO := Lib.hid (setOf_s ao n cap old w h hn hS)
  obtain ⟨k1, k2, k3, k4⟩ := k
  subst k1
  unfold maxLen at k3
  have K4 := Lib.hid k4; clear k4
  have HV := Lib.hid hV; clear hV
  go_enter Tryz.func139, Tryz.ntmps139
  go_wp2_with fail
  refine HO.out.mono ?_
  rintro e w1 ⟨rfl, ⟨D0, hG⟩, hb⟩
  have HG0 := Lib.hid hG
  have HB0 := Lib.hid hb
  clear hG hb HO
  go_wp2
  go_loopw [7, 12, 16, 20] (fun s i u v wr => ∃ (j : Nat) (D : DataW Unit), j ≤ vs.length ∧ i = .int .i64 j ∧ Hid (∀ q, q < j → errV vs old q = 0) ∧ Hid (SetM wr w.heap.size (n + j) D (old ++ vs.take j)) ∧ Hid (Below w.heap.size w wr)) (fun _ i _ _ _ => vs.length - (intOf i).toNat)
  case atStart => exact ⟨0, D0, Nat.zero_le _, rfl, Lib.hid (fun q hq => absurd hq (Nat.not_lt_zero _)), Lib.hid (by simpa using HG0.out), HB0⟩
  case round =>
    obtain ⟨j, D, hj, rfl, HA, HG, HB⟩ := hrel
    by_cases hlt : j < vs.length
    · obtain ⟨b, off, rfl, hs⟩ := K4.out (by omega)
      have hcell := (hs.below HB.out hs.1).2 j hlt
      clear hs
      obtain ⟨p, hpe⟩ : ∃ p, partAt vs j = p := ⟨_, rfl⟩
      have hps : p.size ≤ 1100000 := by rw [← hpe]; exact HV.out _ (part_mem vs j hlt)
      rw [hpe] at hcell
      have HF := Lib.hid (errV_form (vs := vs) (old := old) (j := j) hpe)
      have HT := Lib.hid (show old ++ vs.take (j + 1) = (old ++ vs.take j) ++ [p] by rw [← hpe, take_snoc vs j hlt, List.append_assoc])
      clear hpe
      have d1 : (j : Int) < (vs.length : Int) := by omega
      cases hc : cleanB p
      · have HR := Lib.hid (show chkV vs old = 4 by
          have e : errV vs old j = 4 := by rw [HF.out, if_pos hc]
          unfold chkV; rw [firstE_hit HA.out (by rw [e]; decide) hlt, e])
        have HCL := Lib.hid hc
        clear hc
        go_wp2_with (go_at_call 179; refine (clean_s p _ (by omega)).mono ?_; rintro e w' ⟨rfl, rfl⟩; rw [HCL.out])
        go_ret
        exact ⟨by rw [HR.out]; rfl, HB.out⟩
      · have HCL := Lib.hid hc
        clear hc
        have hlook := HG.out.look p (by unfold maxLen; omega)
        cases hm2 : memB (old ++ vs.take j) p
        · have HZ := Lib.hid (show errV vs old j = 0 by rw [HF.out, HCL.out, hm2]; simp)
          rw [hm2] at hlook
          clear hm2
          obtain ⟨w', hrun, HG', hgr⟩ := HG.out.store p (by unfold maxLen; omega) (by unfold maxLen; omega)
          have HG2 := Lib.hid HG'
          have HB2 := Lib.hid (HB.out.grown hgr (HB.out.size) (fun j hj => by cases hj; exact Nat.le_refl _))
          clear HG' hgr
          go_wp2_with (go_at_call 179; refine (clean_s p _ (by omega)).mono ?_; rintro e w' ⟨rfl, rfl⟩; rw [HCL.out])
          go_roundw
          case rel =>
            refine ⟨j + 1, _, by omega, by go_num, Lib.hid fun q hq => ?_, by rw [HT.out]; exact HG2, HB2⟩
            by_cases e : q = j
            · rw [e]; exact HZ.out
            · exact HA.out q (by omega)
          case measure => simp [intOf]; omega
        · have HR := Lib.hid (show chkV vs old = 7 by
            have e : errV vs old j = 7 := by rw [HF.out, HCL.out, hm2]; simp
            unfold chkV; rw [firstE_hit HA.out (by rw [e]; decide) hlt, e])
          rw [hm2] at hlook
          clear hm2
          go_wp2_with (go_at_call 179; refine (clean_s p _ (by omega)).mono ?_; rintro e w' ⟨rfl, rfl⟩; rw [HCL.out])
          go_ret
          exact ⟨by rw [HR.out]; rfl, HB.out⟩
    · have hke : j = vs.length := by omega
      subst hke
      have HR := Lib.hid (show chkV vs old = 0 from firstE_zero HA.out)
      go_wp2_with fail
      go_ret
      exact ⟨by rw [HR.out]; rfl, HB.out⟩
end Go.Proofs.YtbkignlbcneddaaGreatDoor
end

section
/-
  Contract of attrs.Check. Condition: at most 1100000 values an attribute, strings of at most 1100000 bytes.
-/
set_option maxRecDepth 100000
namespace Go.Proofs.YtbkignlbcneddaaGreatDoor
open Go.RowKit Go.PlainAid Go.Maps Go.ChangeMaps
def errA (l : List At) (j : Nat) : Int :=
  if nameB (atD l j).1 = false then 5 else if twiceB l j = true then 7 else if (atD l j).2.length = 0 then 6 else if 16 < (atD l j).2.length then 3 else chkV (atD l j).2 []
def chkA (l : List At) : Int := if 32 < l.length then 3 else firstE (errA l) l.length
def lowN (l : List At) : List ByteArray := l.map fun a => lowS a.1
theorem twice_mem (l : List At) (j : Nat) : memB (lowN (l.take j)) (lowS (atD l j).1) = twiceB l j := by
  unfold memB lowN twiceB
  rw [List.any_map]; rfl
theorem SetM.below {H : Type} {w w' : World} {b n : Nat} {D : DataW H} {ks : List ByteArray} (G : SetM w b n D ks) (hb : Below w.heap.size w w') : SetM w' b n D ks :=
  G.kept (row := none) ⟨hb.os, hb.tape, hb.output, hb.size, fun k hk _ => hb.block k hk⟩ (by simp)
/-- a local attribute's box -/
def ABox (w : World) (b : Nat) (nm : ByteArray) (v : Value) : Prop := w.heap[b]? = some (.cells #[.string nm, v] 60)
theorem abox_new (w : World) (nm : ByteArray) (v : Value) : ABox (w.alloc (.cells #[.string nm, v] 60)) w.heap.size nm v := heap_alloc_new w _
theorem ABox.cells {w : World} {b : Nat} {nm : ByteArray} {v : Value} (h : ABox w b nm v) : w.cell? ⟨b, 0, none⟩ = some (.string nm) ∧ w.cell? ⟨b, 1, none⟩ = some v := by
  unfold ABox at h
  exact ⟨by simp [World.cell?, h], by simp [World.cell?, h]⟩
theorem ABox.lt {w : World} {b : Nat} {nm : ByteArray} {v : Value} (h : ABox w b nm v) : b < w.heap.size := (Array.getElem?_eq_some_iff.1 h).1
theorem ABox.below {w w' : World} {b : Nat} {nm : ByteArray} {v : Value} (h : ABox w b nm v) (hb : Below w.heap.size w w') : ABox w' b nm v := (hb.block b h.lt).trans h
theorem ABox.grown {w w' : World} {b : Nat} {nm : ByteArray} {v : Value} {row : Option Nat} (h : ABox w b nm v) (hg : w.grownBy w' row) (hne : some b ≠ row) : ABox w' b nm v := (hg.block b h.lt hne).trans h
/-- values are few -/
def FewV (l : List At) : Prop := ∀ a ∈ l, a.2.length ≤ 1100000
set_option maxRecDepth 100000 in
set_option maxHeartbeats 4000000 in
theorem check_s (ao : Option Addr) (n cap : Nat) (l : List At) (w : World) (h : AttrsAt w ao n cap l) (hS : SmallA l) (hF : FewV l) :
    Calls Tryz.prog 100 #[.slice ao n cap] w fun e w' => e = .returned (.int .i64 (chkA l)) ∧ Below w.heap.size w w' := by
  obtain ⟨h1, h2, h3, h4⟩ := h
  subst h1
  unfold maxLen at h3
  have H4 := Lib.hid h4; clear h4
  have HS := Lib.hid hS; clear hS
  have HF := Lib.hid hF; clear hF
  by_cases h32 : 32 < l.length
  · have HR := Lib.hid (show chkA l = 3 from if_pos h32)
    have d0 : decide ((32 : Int) < (l.length : Int)) = true := decide_eq_true (by omega)
    go_enter Tryz.func100, Tryz.ntmps100
    go_wp2_with fail
    go_ret
    exact ⟨by rw [HR.out]; rfl, Below.refl _ _⟩
  · have HR := Lib.hid (show chkA l = firstE (errA l) l.length from if_neg h32)
    have d0 : decide ((32 : Int) < (l.length : Int)) = false := decide_eq_false (by omega)
    have hB0 : Below w.heap.size w (w.alloc (.map #[] 0)) := (Below.refl _ _).alloc (Nat.le_refl _) _
    have G0 := setM_made (H := Unit) w
    have hmm := @run_makeMap Tryz.prog
    go_enter Tryz.func100, Tryz.ntmps100
    go_wp2
    clear hmm d0
    go_loopw [5, 6, 7, 14, 21, 26, 30, 35] (fun s5 s6 s7 i u21 u26 u30 u35 wr => ∃ (j : Nat) (D : DataW Unit), j ≤ l.length ∧ i = .int .i64 j ∧ Hid (∀ q, q < j → errA l q = 0) ∧ Hid (SetM wr w.heap.size j D (lowN (l.take j))) ∧ Hid (Below w.heap.size w wr)) (fun _ _ _ i _ _ _ _ _ => l.length - (intOf i).toNat)
    case atStart => exact ⟨0, _, Nat.zero_le _, rfl, Lib.hid (fun q hq => absurd hq (Nat.not_lt_zero _)), Lib.hid G0, Lib.hid hB0⟩
    case round =>
      obtain ⟨j, D, hj, rfl, HA, HG, HB⟩ := hrel
      by_cases hlt : j < l.length
      · obtain ⟨b, off, rfl, hblt, hat⟩ := H4.out (by omega)
        obtain ⟨c0, vo, vn, vc, c1, hv⟩ := hat j hlt
        have c0 := cell_later HB.out c0
        have c1 := cell_later HB.out c1
        obtain ⟨nm, hnm⟩ : ∃ x, (atD l j).1 = x := ⟨_, rfl⟩
        obtain ⟨vs, hvs⟩ : ∃ x, (atD l j).2 = x := ⟨_, rfl⟩
        have hsz := HS.out _ (at_mem l j hlt)
        have hfw := HF.out _ (at_mem l j hlt)
        have HE := Lib.hid (show errA l j = if nameB nm = false then 5 else if memB (lowN (l.take j)) (lowS nm) = true then 7 else if vs.length = 0 then 6 else if 16 < vs.length then 3 else chkV vs [] by rw [← hnm, ← hvs, twice_mem]; rfl)
        have HT := Lib.hid (show lowN (l.take (j + 1)) = lowN (l.take j) ++ [lowS nm] by rw [at_take l j hlt, ← hnm]; unfold lowN; rw [List.map_append]; rfl)
        rw [hnm] at c0 hsz
        rw [hvs] at hv hsz hfw
        clear hnm hvs hat
        have hns := hsz.1
        have HVS := Lib.hid hsz.2
        have HV := Lib.hid hv
        have d1 : (j : Int) < (l.length : Int) := by omega
        clear hsz hv
        go_wp2_with fail
        obtain ⟨W1, hW1⟩ : ∃ W1, wr.alloc (.cells #[.string nm, .slice vo vn vc] 60) = W1 := ⟨_, rfl⟩
        have hbl1 : Below wr.heap.size wr W1 := by rw [← hW1]; exact (Below.refl _ wr).alloc (Nat.le_refl _) _
        have X1 : ABox W1 wr.heap.size nm (.slice vo vn vc) := by rw [← hW1]; exact abox_new wr nm _
        have HB1 := Lib.hid (HB.out.trans (hbl1.mono HB.out.size))
        have HG1 := Lib.hid (HG.out.below hbl1)
        rw [hW1]
        clear hW1
        refine (lower_s nm W1 (by omega)).mono ?_
        rintro e W2 ⟨rfl, hb⟩
        obtain ⟨b0, b1⟩ := (X1.below hb).cells
        have HX2 := Lib.hid (X1.below hb)
        have HB2 := Lib.hid (HB1.out.trans (hb.mono HB1.out.size))
        have HG2 := Lib.hid (HG1.out.below hb)
        have hwb : w.heap.size < wr.heap.size := HG.out.map.lt
        have hls : (lowS nm).size ≤ 1100000 := by rw [lowS_size]; omega
        obtain ⟨lw, hlw⟩ : ∃ x, lowS nm = x := ⟨_, rfl⟩
        rw [hlw] at hls ⊢
        have HE2 := HE
        have HT2 := HT
        rw [hlw] at HE2 HT2
        clear hlw HE HT hb X1 HG1 HB1 hbl1
        have hvl : vs.length = vn := HV.out.1
        cases hnb : nameB nm
        · have HR2 := Lib.hid (show chkA l = 5 by
            have e : errA l j = 5 := by rw [HE2.out, if_pos hnb]
            rw [HR.out, firstE_hit HA.out (by rw [e]; decide) hlt, e])
          have HNB := Lib.hid hnb
          clear hnb
          go_wp2_with (go_at_call 138; refine (name_s nm _ (by omega)).mono ?_; rintro e w' ⟨rfl, rfl⟩; rw [HNB.out])
          go_ret
          exact ⟨by rw [HR2.out]; rfl, HB2.out⟩
        · have HNB := Lib.hid hnb
          clear hnb
          have hlook := HG2.out.look lw (by unfold maxLen; omega)
          cases hm2 : memB (lowN (l.take j)) lw
          · rw [hm2] at hlook
            have HM := Lib.hid hm2
            clear hm2
            by_cases hz : vs.length = 0
            · have HR2 := Lib.hid (show chkA l = 6 by
                have e : errA l j = 6 := by rw [HE2.out, HNB.out, HM.out, if_neg (by decide), if_neg (by decide), if_pos hz]
                rw [HR.out, firstE_hit HA.out (by rw [e]; decide) hlt, e])
              have d2 : ((vn : Int) == 0) = true := beq_iff_eq.2 (by omega)
              go_wp2_with (go_at_call 138; refine (name_s nm _ (by omega)).mono ?_; rintro e w' ⟨rfl, rfl⟩; rw [HNB.out])
              go_ret
              exact ⟨by rw [HR2.out]; rfl, HB2.out⟩
            · have d2 : ((vn : Int) == 0) = false := beq_eq_false_iff_ne.2 (by omega)
              by_cases h16 : 16 < vs.length
              · have HR2 := Lib.hid (show chkA l = 3 by
                  have e : errA l j = 3 := by rw [HE2.out, HNB.out, HM.out, if_neg (by decide), if_neg (by decide), if_neg hz, if_pos h16]
                  rw [HR.out, firstE_hit HA.out (by rw [e]; decide) hlt, e])
                have d3 : decide ((16 : Int) < (vn : Int)) = true := decide_eq_true (by omega)
                go_wp2_with (go_at_call 138; refine (name_s nm _ (by omega)).mono ?_; rintro e w' ⟨rfl, rfl⟩; rw [HNB.out])
                go_ret
                exact ⟨by rw [HR2.out]; rfl, HB2.out⟩
              · have d3 : decide ((16 : Int) < (vn : Int)) = false := decide_eq_false (by omega)
                have HC := Lib.hid (show errA l j = chkV vs [] by rw [HE2.out, HNB.out, HM.out, if_neg (by decide), if_neg (by decide), if_neg hz, if_neg h16])
                obtain ⟨W3, hrun, HG', hgr⟩ := HG2.out.store lw (by unfold maxLen; omega) (by unfold maxLen; omega)
                have HG3 := Lib.hid HG'
                have HB3 := Lib.hid (HB2.out.grown hgr (HB2.out.size) (fun j hj => by cases hj; exact Nat.le_refl _))
                have HX3 := Lib.hid (HX2.out.grown hgr (by intro e; have := Option.some.inj e; omega))
                obtain ⟨b2, b3⟩ := HX3.out.cells
                have HV3 := Lib.hid (HV.out.below HB3.out)
                have HN3 := Lib.hid (show StrsAt W3 none 0 0 [] from ⟨rfl, Nat.le_refl _, by unfold maxLen; omega, fun h => absurd h (Nat.lt_irrefl _)⟩)
                clear HG' hgr
                obtain ⟨r, hr⟩ : ∃ r, chkV vs [] = r := ⟨_, rfl⟩
                have HRR := Lib.hid hr
                clear hr
                by_cases hr0 : r = 0
                · subst hr0
                  go_wp2_with (first
                    | (go_at_call 138; refine (name_s nm _ (by omega)).mono ?_; rintro e w' ⟨rfl, rfl⟩; rw [HNB.out])
                    | (go_at_call 139; refine (checkNew_s none vo 0 vn 0 vc [] vs W3 HN3.out HV3.out (by omega) (by omega) (by intro v hv; cases hv) HVS.out).mono ?_; rintro e W4 ⟨rfl, hb⟩; rw [HRR.out]; have HB4 := Lib.hid (HB3.out.trans (hb.mono HB3.out.size)); have HG4 := Lib.hid (HG3.out.below hb)))
                  go_roundw
                  case rel =>
                    refine ⟨j + 1, _, by omega, by go_num, Lib.hid fun q hq => ?_, by rw [HT2.out]; exact HG4, HB4⟩
                    by_cases e : q = j
                    · rw [e, HC.out, HRR.out]
                    · exact HA.out q (by omega)
                  case measure => simp [intOf]; omega
                · have HR2 := Lib.hid (show chkA l = r by
                    have e : errA l j = r := by rw [HC.out, HRR.out]
                    rw [HR.out, firstE_hit HA.out (by rw [e]; exact hr0) hlt, e])
                  have d4 : (r == 0) = false := beq_eq_false_iff_ne.2 hr0
                  have d5 : (r != 0) = true := by unfold bne; rw [d4]; rfl
                  clear hr0
                  go_wp2_with (first
                    | (go_at_call 138; refine (name_s nm _ (by omega)).mono ?_; rintro e w' ⟨rfl, rfl⟩; rw [HNB.out])
                    | (go_at_call 139; refine (checkNew_s none vo 0 vn 0 vc [] vs W3 HN3.out HV3.out (by omega) (by omega) (by intro v hv; cases hv) HVS.out).mono ?_; rintro e W4 ⟨rfl, hb⟩; rw [HRR.out]; have HB4 := Lib.hid (HB3.out.trans (hb.mono HB3.out.size))))
                  go_ret
                  exact ⟨by rw [HR2.out]; rfl, HB4.out⟩
          · have HR2 := Lib.hid (show chkA l = 7 by
              have e : errA l j = 7 := by rw [HE2.out, HNB.out, hm2, if_neg (by decide), if_pos rfl]
              rw [HR.out, firstE_hit HA.out (by rw [e]; decide) hlt, e])
            rw [hm2] at hlook
            clear hm2
            go_wp2_with (go_at_call 138; refine (name_s nm _ (by omega)).mono ?_; rintro e w' ⟨rfl, rfl⟩; rw [HNB.out])
            go_ret
            exact ⟨by rw [HR2.out]; rfl, HB2.out⟩
      · have hke : j = l.length := by omega
        subst hke
        have HR2 := Lib.hid (show chkA l = 0 by rw [HR.out]; exact firstE_zero HA.out)
        go_wp2_with fail
        go_ret
        exact ⟨by rw [HR2.out]; rfl, HB.out⟩
end Go.Proofs.YtbkignlbcneddaaGreatDoor
end

section
/-
  The map that attrs.Sorted builds: what it holds behind k attributes.
-/
set_option maxRecDepth 100000
namespace Go.Proofs.YtbkignlbcneddaaGreatDoor
open Go.RowKit Go.PlainAid Go.Maps Go.ChangeMaps
theorem allV_snoc (l : List At) (a : At) (n : ByteArray) : allV (l ++ [a]) n = allV l n ++ (if lowS a.1 = n then a.2 else []) := by
  unfold allV
  rw [List.filter_append, List.flatMap_append]
  congr 1
  by_cases h : lowS a.1 = n <;> simp [h]
/-- the united values behind k attributes -/
structure United (w : World) (b k : Nat) (D : DataW Unit) (l : List At) (hv : ByteArray → Value) : Prop where
  grp : Groups w (b + 1) b k D (allV l) hv
  keys : ∀ x : ByteArray, Maps.has D (klit x) = true ↔ x ∈ lowN l
theorem united_made (w : World) : United (w.alloc (.map #[] 0)) w.heap.size 0 (.map []) [] (fun _ => .slice none 0 0) where
  grp := groups_made w
  keys x := by simp [lowN, Maps.has]
theorem Groups.below {H : Type} {w w' : World} {base b n : Nat} {D : DataW H} {gv : ByteArray → List ByteArray} {hv : ByteArray → Value} (G : Groups w base b n D gv hv) (hb : Below w.heap.size w w') : Groups w' base b n D gv hv where
  map := G.map.kept (row := none) ⟨hb.os, hb.tape, hb.output, hb.size, fun k hk _ => hb.block k hk⟩ (by simp)
  low := G.low
  reads := G.reads
  own k := own_below (G.own k) hb
  apart := G.apart
theorem United.below {w w' : World} {b k : Nat} {D : DataW Unit} {l : List At} {hv : ByteArray → Value} (U : United w b k D l hv) (hb : Below w.heap.size w w') : United w' b k D l hv := ⟨U.grp.below hb, U.keys⟩
theorem United.store {w w1 : World} {b k : Nat} {D : DataW Unit} {l : List At} {hv : ByteArray → Value} (U : United w b k D l hv) (a : At) {lw : ByteArray} (hlw : lowS a.1 = lw) (hk : lw.size ≤ maxLen) (hn : k < maxLen) {v' : Value}
    (hg : w.grownBy w1 (hv lw).ownBlock) (hown : w1.ownsRow (b + 1) 9 1 v' ((allV l lw).length + a.2.length) (scells (allV l lw) ++ scells a.2)) (hl : v'.ownBlock = (hv lw).ownBlock ∨ v'.ownBlock = some w.heap.size) :
    ∃ w2 D2 hv2, (Instr.mapUpdate 106 (.map (some b)) (.string lw) v').run Tryz.prog w1 = .ok () w2 ∧ United w2 b (k + 1) D2 (l ++ [a]) hv2 ∧ w1.grownBy w2 (some b) := by
  have hown' : w1.ownsRow (b + 1) 9 1 v' (allV l lw ++ a.2).length (scells (allV l lw ++ a.2)) := by
    rw [List.length_append]
    have : scells (allV l lw ++ a.2) = scells (allV l lw) ++ scells a.2 := by unfold scells; rw [List.map_append]
    rw [this]; exact hown
  obtain ⟨w2, d, hrun, G, hg2⟩ := U.grp.store lw hk hn hg hown' (hl.imp id fun e => ⟨_, e, Nat.le_refl _⟩)
  have e : setK (allV l) lw (allV l lw ++ a.2) = allV (l ++ [a]) := by
    funext n
    rw [allV_snoc, hlw]
    by_cases h : lw = n
    · subst h; rw [setK_same, if_pos rfl]
    · rw [setK_other _ _ (fun e => h e.symm), if_neg h, List.append_nil]
  rw [e] at G
  refine ⟨w2, _, _, hrun, ⟨G, fun x => ?_⟩, hg2⟩
  have hm : lowN (l ++ [a]) = lowN l ++ [lw] := by unfold lowN; rw [List.map_append, ← hlw]; rfl
  rw [hm, List.mem_append, List.mem_singleton]
  by_cases h : x = lw
  · subst h
    rw [has_put_same U.grp.map.isMap (by unfold klit; trivial)]
    simp
  · rw [has_put_other (fun e => h (klit_one e)), U.keys x]
    simp [h]
/-- how many values there are in all -/
def sumV (l : List At) : Nat := (l.map fun a => a.2.length).sum
theorem sumV_cons (a : At) (l : List At) : sumV (a :: l) = a.2.length + sumV l := by unfold sumV; rw [List.map_cons, List.sum_cons]
theorem allV_cons (a : At) (l : List At) (n : ByteArray) : allV (a :: l) n = (if lowS a.1 = n then a.2 else []) ++ allV l n := by
  unfold allV
  by_cases h : lowS a.1 = n
  · rw [List.filter_cons_of_pos (by simpa using h), List.flatMap_cons, if_pos h]
  · rw [List.filter_cons_of_neg (by simpa using h), if_neg h]; rfl
theorem allV_len (n : ByteArray) : ∀ l : List At, (allV l n).length ≤ sumV l
  | [] => Nat.le_refl _
  | a :: l => by
    rw [allV_cons, sumV_cons, List.length_append]
    have := allV_len n l
    split
    · omega
    · simp; omega
theorem sumV_take : ∀ (l : List At) (j : Nat), sumV (l.take j) ≤ sumV l
  | [], j => by simp
  | a :: l, 0 => by simp [sumV]
  | a :: l, j + 1 => by
    rw [List.take_succ_cons, sumV_cons, sumV_cons]
    have := sumV_take l j
    omega
end Go.Proofs.YtbkignlbcneddaaGreatDoor
end

section
/-
  Contract of the specification's Sorted: the normal form. Condition: at most 1000 attributes with at most 100000 values together, strings of at most 1100000 bytes.
-/
set_option maxRecDepth 100000
namespace Go.Proofs.YtbkignlbcneddaaGreatDoor
open Go.RowKit Go.PlainAid
theorem names_len (l : List At) : (names l).length ≤ l.length := by
  unfold names
  refine Nat.le_trans (sortU_len _) ?_
  rw [List.length_map]; exact List.length_filter_le _ _
theorem names_asc (l : List At) : Asc (names l) := sortU_asc _
theorem lowS_small {s : ByteArray} {m : Nat} (h : s.size ≤ m) : (lowS s).size ≤ m := by rw [lowS_size]; exact h
theorem names_small {l : List At} (h : SmallA l) : SmallS (names l) := by
  intro v hv
  obtain ⟨u, a, ha, rfl, _⟩ := names_mem.1 hv
  exact lowS_small (h a ha).1
theorem vals_small {l : List At} (h : SmallA l) (n : ByteArray) : SmallS (vals l n) := by
  intro v hv
  obtain ⟨a, ha, _, hx⟩ := vals_mem.1 hv
  exact (h a ha).2 v hx
theorem nf_len (l : List At) : (nf l).length ≤ l.length := by unfold nf; rw [List.length_map]; exact names_len l
theorem nf_small {l : List At} (h : SmallA l) : SmallA (nf l) := by
  intro a ha
  unfold nf at ha
  obtain ⟨n, hn, rfl⟩ := List.mem_map.1 ha
  exact ⟨names_small h n hn, vals_small h n⟩
/-- the values' slices are the call's own, apart from the row v -/
def TOwn (w : World) (base : Nat) (v : Value) (T : List Tr) : Prop := ∀ t ∈ T, w.ownsRow base 9 1 t.2.1 t.2.2.length (scells t.2.2) ∧ (t.2.1.ownBlock = none ∨ t.2.1.ownBlock ≠ v.ownBlock)
theorem TOwn.ok {w : World} {base : Nat} {v : Value} {T : List Tr} (h : TOwn w base v T) : TOk w T := fun t ht => hdr_owns (h t ht).1
theorem TOwn.below {w w' : World} {base : Nat} {v : Value} {T : List Tr} (h : TOwn w base v T) (hb : Below w.heap.size w w') : TOwn w' base v T := fun t ht => ⟨own_below (h t ht).1 hb, (h t ht).2⟩
theorem TOwn.mono {w : World} {base base' : Nat} {v : Value} {T : List Tr} (h : TOwn w base v T) (hb : base' ≤ base) : TOwn w base' v T := fun t ht => ⟨(h t ht).1.mono hb, (h t ht).2⟩
theorem TOwn.snoc {w : World} {base : Nat} {v : Value} {T : List Tr} (h : TOwn w base v T) {t : Tr} (ht : w.ownsRow base 9 1 t.2.1 t.2.2.length (scells t.2.2)) (hv : t.2.1.ownBlock = none ∨ t.2.1.ownBlock ≠ v.ownBlock) : TOwn w base v (T ++ [t]) :=
  fun u hu => (List.mem_append.1 hu).elim (h u) fun k => by rw [List.mem_singleton.1 k]; exact ⟨ht, hv⟩
theorem TOwn.grown {w w' : World} {base : Nat} {v v' : Value} {T : List Tr} (h : TOwn w base v T) (hg : w.grownBy w' v.ownBlock) (hl : v'.ownBlock = v.ownBlock ∨ v'.ownBlock = some w.heap.size) : TOwn w' base v' T := fun t ht => by
  obtain ⟨h1, h2⟩ := h t ht
  refine ⟨h1.kept hg h2, ?_⟩
  cases hb : t.2.1.ownBlock with
  | none => exact .inl rfl
  | some g =>
    refine .inr fun e => ?_
    rcases hl with k | k
    · rcases h2 with h2 | h2
      · rw [hb] at h2; cases h2
      · exact h2 (by rw [hb, e, k])
    · rw [k] at e
      cases e
      have := (h1.lt _ hb).2
      omega
theorem allV_small (l : List At) (k : Nat) (n : ByteArray) : (allV (l.take k) n).length ≤ sumV l := Nat.le_trans (allV_len n _) (sumV_take l k)
end Go.Proofs.YtbkignlbcneddaaGreatDoor
end

section
/-
  Contracts of the specification's Same, Equal, Get, Has and Names. Condition: as Sorted's.
-/
set_option maxRecDepth 100000
namespace Go.Proofs.YtbkignlbcneddaaGreatDoor
open Go.RowKit Go.PlainAid
/-- a list of attributes handed back -/
def AttsR (w : World) (v : Value) (l : List At) : Prop := ∃ ao n cap, v = .slice ao n cap ∧ AttrsAt w ao n cap l
theorem AttsR.below {w w' : World} {v : Value} {l : List At} (h : AttsR w v l) (hb : Below w.heap.size w w') : AttsR w' v l := by
  obtain ⟨ao, n, cap, e, hs⟩ := h
  exact ⟨ao, n, cap, e, hs.below hb⟩
theorem atts_own {w : World} {base n : Nat} {v : Value} {T : List Tr} (h : w.ownsRow base 60 2 v n (tcells T)) (hT : TOk w T) : AttsR w v (tats T) := by
  obtain ⟨_, ao, cap, rfl, hat, _⟩ := ts_owns h
  exact ⟨ao, n, cap, rfl, ts_ats hat hT⟩
end Go.Proofs.YtbkignlbcneddaaGreatDoor
end

section
/-
  Contracts of the specification's Get, Has and Names. Condition: as Sorted's.
-/
set_option maxRecDepth 100000
namespace Go.Proofs.YtbkignlbcneddaaGreatDoor
open Go.RowKit Go.PlainAid
/-- what the functions of the layer ask of a list of attributes -/
structure Few (l : List At) : Prop where
  small : SmallA l
  vals : sumV l ≤ 1100000
  len : l.length ≤ 3000
end Go.Proofs.YtbkignlbcneddaaGreatDoor
end

section
/-
  Contracts of the specification's Names, without and with. Condition: as Sorted's.
-/
set_option maxRecDepth 100000
namespace Go.Proofs.YtbkignlbcneddaaGreatDoor
open Go.RowKit Go.PlainAid
/-- what is handed back as a row of the call's own -/
def AttsO (w : World) (base : Nat) (v : Value) (l : List At) : Prop := ∃ T, tats T = l ∧ TOwn w base v T ∧ w.ownsRow base 60 2 v T.length (tcells T)
theorem AttsO.r {w : World} {base : Nat} {v : Value} {l : List At} (h : AttsO w base v l) : AttsR w v l := by
  obtain ⟨T, rfl, hO, hown⟩ := h
  exact atts_own hown hO.ok
end Go.Proofs.YtbkignlbcneddaaGreatDoor
end

section
/-
  Contracts of the specification's checkValues and with. Condition: as Sorted's.
-/
set_option maxRecDepth 100000
namespace Go.Proofs.YtbkignlbcneddaaGreatDoor
open Go.RowKit Go.PlainAid
theorem sum_none : ∀ l : List Nat, (∀ x ∈ l, x = 0) → l.sum = 0
  | [], _ => rfl
  | x :: l, h => by
    rw [List.sum_cons, h x (List.mem_cons_self ..), sum_none l fun y hy => h y (List.mem_cons_of_mem _ hy)]
theorem sum_hit (m : Nat) (n : ByteArray) : ∀ ns : List ByteArray, ns.Nodup → (ns.map fun k => if n = k then m else 0).sum ≤ m
  | [], _ => Nat.zero_le _
  | k :: ns, h => by
    have h' := List.nodup_cons.1 h
    rw [List.map_cons, List.sum_cons]
    by_cases e : n = k
    · rw [if_pos e]
      have hz : (ns.map fun k => if n = k then m else 0).sum = 0 := by
        refine sum_none _ fun x hx => ?_
        obtain ⟨j, hj, rfl⟩ := List.mem_map.1 hx
        rw [if_neg fun e2 => h'.1 (by rw [← e, e2]; exact hj)]
      omega
    · rw [if_neg e]
      have := sum_hit m n ns h'.2
      omega
theorem sum_le {α : Type} (f g : α → Nat) : ∀ l : List α, (∀ x ∈ l, f x ≤ g x) → (l.map f).sum ≤ (l.map g).sum
  | [], _ => Nat.le_refl _
  | x :: l, h => by
    rw [List.map_cons, List.map_cons, List.sum_cons, List.sum_cons]
    have h1 := h x (List.mem_cons_self ..)
    have h2 := sum_le f g l fun y hy => h y (List.mem_cons_of_mem _ hy)
    omega
theorem sum_add {α : Type} (f g : α → Nat) : ∀ l : List α, (l.map fun x => f x + g x).sum = (l.map f).sum + (l.map g).sum
  | [] => rfl
  | x :: l => by
    rw [List.map_cons, List.map_cons, List.map_cons, List.sum_cons, List.sum_cons, List.sum_cons, sum_add f g l]; omega
theorem sum_allV : ∀ (l : List At) (ns : List ByteArray), ns.Nodup → (ns.map fun n => (allV l n).length).sum ≤ sumV l
  | [], ns, _ => by
    have : (ns.map fun n => (allV [] n).length).sum = 0 := by
      refine sum_none _ fun x hx => ?_
      obtain ⟨j, hj, rfl⟩ := List.mem_map.1 hx
      rfl
    rw [this]; exact Nat.zero_le _
  | a :: l, ns, h => by
    have e : (fun n => (allV (a :: l) n).length) = fun n => (if lowS a.1 = n then a.2.length else 0) + (allV l n).length := by
      funext n
      rw [allV_cons, List.length_append]
      split <;> rfl
    rw [e, sum_add, sumV_cons]
    have h1 := sum_hit a.2.length (lowS a.1) ns h
    have h2 := sum_allV l ns h
    omega
theorem sumV_nf (l : List At) : sumV (nf l) ≤ sumV l := by
  unfold sumV nf
  rw [List.map_map]
  refine Nat.le_trans (sum_le _ (fun n => (allV l n).length) _ fun n _ => ?_) (sum_allV l _ (asc_nodup (names_asc l)))
  exact sortU_len _
theorem few_nf {l : List At} (h : Few l) : Few (nf l) := ⟨nf_small h.small, Nat.le_trans (sumV_nf l) h.vals, Nat.le_trans (nf_len l) h.len⟩
/-- there is room for the values vs under one more name -/
structure Room (l : List At) (vs : List ByteArray) : Prop where
  small : SmallA l
  vals : sumV l + vs.length ≤ 1100000
  len : l.length ≤ 999
  vsmall : SmallS vs
theorem Room.few {l : List At} {vs : List ByteArray} (h : Room l vs) : Few l := ⟨h.small, by have := h.vals; omega, by have := h.len; omega⟩
end Go.Proofs.YtbkignlbcneddaaGreatDoor
end

section
/-
  Contract of attrs.Sorted: the normal form, each part of it the call's own. Condition: at most 1000 attributes with at most 100000 values together, strings of at most 1100000 bytes.
-/
set_option maxRecDepth 100000
namespace Go.Proofs.YtbkignlbcneddaaGreatDoor
open Go.RowKit Go.PlainAid Go.Maps Go.ChangeMaps
theorem sumV_mem {a : At} : ∀ {l : List At}, a ∈ l → a.2.length ≤ sumV l
  | x :: l, h => by
    rw [sumV_cons]
    rcases List.mem_cons.1 h with k | k
    · rw [k]; omega
    · have := sumV_mem k; omega
/-- the heads of the slices under the keys, whatever the slices hold -/
structure GMap (w : World) (b n : Nat) (D : DataW Unit) (hv : ByteArray → Value) : Prop where
  map : w.ownsMap Tryz.prog 9 hdrE b n D
  reads : ∀ k, hdrE (H := Unit) (hv k) = some (D.atKey (klit k) .nil, [])
theorem GMap.look {w : World} {b n : Nat} {D : DataW Unit} {hv : ByteArray → Value} (G : GMap w b n D hv) (k : ByteArray) (hk : k.size ≤ maxLen) :
    (Instr.lookup 106 (.map (some b)) (.string k) false).run Tryz.prog w = .ok (hv k) w := by
  obtain ⟨v, ps, hrun, hv'⟩ := G.map.lookup (t := 106) (e := 58) (string_keyed Tryz.underlying9) Tryz.underlying106 (z := .slice none 0 0) (Tryz.zeroValue58 _) hdrE_nil (klit_key k hk)
  rw [hrun, hdrE_one hv' (G.reads k)]
theorem GMap.kept {w w' : World} {b n : Nat} {D : DataW Unit} {hv : ByteArray → Value} {row : Option Nat} (G : GMap w b n D hv) (hg : w.grownBy w' row) (hne : some b ≠ row) : GMap w' b n D hv := ⟨G.map.kept hg hne, G.reads⟩
theorem GMap.below {w w' : World} {b n : Nat} {D : DataW Unit} {hv : ByteArray → Value} (G : GMap w b n D hv) (hb : Below w.heap.size w w') : GMap w' b n D hv :=
  G.kept (row := none) ⟨hb.os, hb.tape, hb.output, hb.size, fun k hk _ => hb.block k hk⟩ (by simp)
/-- what loop 2 has behind the keys K: T, in the rows that the keys' slices lie in -/
structure Done (w : World) (base : Nat) (hv : ByteArray → Value) (K : List ByteArray) (T : List Tr) : Prop where
  own : ∀ t ∈ T, w.ownsRow base 9 1 t.2.1 t.2.2.length (scells t.2.2) ∧ t.2.1.ownBlock = (hv t.1).ownBlock
  keys : ∀ t ∈ T, t.1 ∈ K
def nfK (l : List At) (K : List ByteArray) : List At := (K.filter fun n => !(vals l n).isEmpty).map fun n => (n, vals l n)
theorem nfK_snoc (l : List At) (K : List ByteArray) (n : ByteArray) : nfK l (K ++ [n]) = nfK l K ++ (if vals l n = [] then [] else [(n, vals l n)]) := by
  unfold nfK
  rw [List.filter_append, List.map_append]
  congr 1
  by_cases h : vals l n = []
  · simp [h]
  · simp [h]
theorem lowN_names {l : List At} {n : ByteArray} (h : n ∈ names l) : n ∈ lowN l := by
  obtain ⟨v, a, ha, e, _⟩ := names_mem.1 h
  unfold lowN
  exact List.mem_map.2 ⟨a, ha, e⟩
theorem nfK_all (l : List At) : nfK l (sortU (lowN l)) = nf l := by
  unfold nfK nf
  congr 1
  refine asc_ext (List.Pairwise.sublist List.filter_sublist (sortU_asc _)) (names_asc l) fun n => ?_
  rw [List.mem_filter, sortU_mem]
  constructor
  · rintro ⟨_, h⟩
    exact names_vals.2 (by intro e; rw [e] at h; simp at h)
  · intro h
    exact ⟨lowN_names h, by have := names_vals.1 h; simpa using this⟩
theorem sortU_lowN_len (l : List At) : (sortU (lowN l)).length ≤ l.length := by
  refine Nat.le_trans (sortU_len _) ?_
  unfold lowN; rw [List.length_map]; exact Nat.le_refl _
/-- the values' slices lie apart -/
def TApart (T : List Tr) : Prop := T.Pairwise fun s t => s.2.1.ownBlock = none ∨ s.2.1.ownBlock ≠ t.2.1.ownBlock
theorem Done.apart {w : World} {base : Nat} {hv : ByteArray → Value} {K : List ByteArray} {T : List Tr} (h : Done w base hv K T) (hT : Asc ((tats T).map (·.1))) (hap : ∀ k k', k ≠ k' → (hv k).ownBlock = none ∨ (hv k).ownBlock ≠ (hv k').ownBlock) : TApart T := by
  unfold TApart
  unfold Asc tats at hT
  rw [List.map_map, List.pairwise_map] at hT
  refine List.Pairwise.imp_of_mem (fun {s t} hs ht k => ?_) hT
  rw [(h.own s hs).2, (h.own t ht).2]
  exact hap _ _ (cs_ne k)
theorem own_strs {w : World} {base n cap : Nat} {ao : Option Addr} {l : List ByteArray} (h : w.ownsRow base 9 1 (.slice ao n cap) n (scells l)) (hn : l.length = n) : StrsAt w ao n cap l := by
  obtain ⟨ao', cap', e, hs⟩ := strs_own h hn
  cases e
  exact hs
theorem part_ne {K : List ByteArray} (h : Asc K) {i j : Nat} (hi : i < K.length) (hj : j < K.length) (hne : i ≠ j) : partAt K i ≠ partAt K j := by
  have e : ∀ q, (hq : q < K.length) → partAt K q = K[q] := fun q hq => by unfold partAt; rw [List.getD_eq_getElem?_getD, List.getElem?_eq_getElem hq]; rfl
  have h' := List.pairwise_iff_getElem.1 h
  rw [e i hi, e j hj]
  rcases Nat.lt_or_gt_of_ne hne with k | k
  · exact cs_ne (h' i j hi hj k)
  · exact (cs_ne (h' j i hj hi k)).symm
theorem take_ne {K : List ByteArray} (h : Asc K) {k : Nat} (hk : k < K.length) {x : ByteArray} (hx : x ∈ K.take k) : x ≠ partAt K k := by
  obtain ⟨i, hi, rfl⟩ := List.mem_take_iff_getElem.1 hx
  have : K[i] = partAt K i := by unfold partAt; rw [List.getD_eq_getElem?_getD, List.getElem?_eq_getElem (by omega)]; rfl
  rw [this]
  exact part_ne h (by omega) hk (by omega)
theorem Done.kept {w w' : World} {base : Nat} {hv : ByteArray → Value} {K : List ByteArray} {T : List Tr} {row : Option Nat} (h : Done w base hv K T) (hg : w.grownBy w' row) (hne : ∀ x ∈ K, (hv x).ownBlock = none ∨ (hv x).ownBlock ≠ row) : Done w' base hv K T :=
  ⟨fun t ht => ⟨(h.own t ht).1.kept hg (by rw [(h.own t ht).2]; exact hne _ (h.keys t ht)), (h.own t ht).2⟩, h.keys⟩
theorem Done.below {w w' : World} {base : Nat} {hv : ByteArray → Value} {K : List ByteArray} {T : List Tr} (h : Done w base hv K T) (hb : Below w.heap.size w w') : Done w' base hv K T := ⟨fun t ht => ⟨own_below (h.own t ht).1 hb, (h.own t ht).2⟩, h.keys⟩
theorem Done.more {w : World} {base : Nat} {hv : ByteArray → Value} {K K' : List ByteArray} {T : List Tr} (h : Done w base hv K T) (hk : ∀ x ∈ K, x ∈ K') : Done w base hv K' T := ⟨h.own, fun t ht => hk _ (h.keys t ht)⟩
theorem Done.snoc {w : World} {base : Nat} {hv : ByteArray → Value} {K : List ByteArray} {T : List Tr} (h : Done w base hv K T) {t : Tr} (h1 : w.ownsRow base 9 1 t.2.1 t.2.2.length (scells t.2.2)) (h2 : t.2.1.ownBlock = (hv t.1).ownBlock) (h3 : t.1 ∈ K) : Done w base hv K (T ++ [t]) :=
  ⟨fun u hu => (List.mem_append.1 hu).elim (h.own u) fun k => by rw [List.mem_singleton.1 k]; exact ⟨h1, h2⟩, fun u hu => (List.mem_append.1 hu).elim (h.keys u) fun k => by rw [List.mem_singleton.1 k]; exact h3⟩
theorem not_block {a row : Option Nat} {Bk : Nat} (hx : ∀ g, a = some g → g < Bk) (hv : ∀ g, row = some g → Bk ≤ g) : a = none ∨ a ≠ row := by
  cases a with
  | none => exact .inl rfl
  | some g => exact .inr fun e => by have := hx g rfl; have := hv g e.symm; omega
theorem not_block' {a row : Option Nat} {Bk : Nat} (hx : ∀ g, a = some g → Bk ≤ g) (hv : ∀ g, row = some g → g < Bk) : a = none ∨ a ≠ row := by
  cases a with
  | none => exact .inl rfl
  | some g => exact .inr fun e => by have := hx g rfl; have := hv g e.symm; omega
set_option maxRecDepth 100000 in
set_option maxHeartbeats 8000000 in
theorem sorted_s (ao : Option Addr) (n cap : Nat) (l : List At) (w : World) (h : AttrsAt w ao n cap l) (hF : Few l) :
    Calls Tryz.prog 36 #[.slice ao n cap] w fun e w' => ∃ v T, e = .returned v ∧ tats T = nf l ∧ TOwn w' w.heap.size v T ∧ TApart T ∧ w'.ownsRow w.heap.size 60 2 v T.length (tcells T) ∧ Below w.heap.size w w' := by
  obtain ⟨h1, h2, h3, h4⟩ := h
  subst h1
  unfold maxLen at h3
  have H4 := Lib.hid h4; clear h4
  have HS := Lib.hid hF.small
  have HV := Lib.hid hF.vals
  have hn := hF.len
  clear hF
  have hB0 : Below w.heap.size w (w.alloc (.map #[] 0)) := (Below.refl _ _).alloc (Nat.le_refl _) _
  have U0 := united_made w
  have hmm := @run_makeMap Tryz.prog
  go_enter Tryz.func36, Tryz.ntmps36
  go_wp2
  clear hmm
  go_loopw [5, 6, 14] (fun s5 s6 i wr => ∃ (j : Nat) (D : DataW Unit) (hv : ByteArray → Value), j ≤ l.length ∧ i = .int .i64 j ∧ Hid (United wr w.heap.size j D (l.take j) hv) ∧ Hid (Below w.heap.size w wr)) (fun _ _ i _ => l.length - (intOf i).toNat)
  case atStart => exact ⟨0, _, _, Nat.zero_le _, rfl, Lib.hid U0, Lib.hid hB0⟩
  case round =>
    obtain ⟨j, D, hv, hj, rfl, HU, HB⟩ := hrel
    by_cases hlt : j < l.length
    · obtain ⟨b, off, rfl, hblt, hat⟩ := H4.out (by omega)
      obtain ⟨c0, vo, vn, vc, c1, hvs0⟩ := hat j hlt
      have c0 := cell_later HB.out c0
      have c1 := cell_later HB.out c1
      obtain ⟨a, ha⟩ : ∃ x, atD l j = x := ⟨_, rfl⟩
      have hsz := HS.out _ (at_mem l j hlt)
      have hfw := Nat.le_trans (sumV_mem (at_mem l j hlt)) HV.out
      have HT := Lib.hid (show l.take (j + 1) = l.take j ++ [a] by rw [at_take l j hlt, ha])
      rw [ha] at c0 hsz hfw hvs0
      clear ha hat
      obtain ⟨nm, hnm⟩ : ∃ x, a.1 = x := ⟨_, rfl⟩
      have hns := hsz.1
      rw [hnm] at c0 hns
      have HVV := Lib.hid hvs0
      have hvl : a.2.length = vn := hvs0.1
      have d1 : (j : Int) < (l.length : Int) := by omega
      have HNM := Lib.hid hnm
      clear hsz hvs0 hnm
      go_wp2_with fail
      obtain ⟨W1, hW1⟩ : ∃ W1, wr.alloc (.cells #[.string nm, .slice vo vn vc] 60) = W1 := ⟨_, rfl⟩
      have hbl1 : Below wr.heap.size wr W1 := by rw [← hW1]; exact (Below.refl _ wr).alloc (Nat.le_refl _) _
      have X1 : ABox W1 wr.heap.size nm (.slice vo vn vc) := by rw [← hW1]; exact abox_new wr nm _
      have HB1 := Lib.hid (HB.out.trans (hbl1.mono HB.out.size))
      have HU1 := Lib.hid (HU.out.below hbl1)
      rw [hW1]
      clear hW1
      refine (lower_s nm W1 (by omega)).mono ?_
      rintro e W2 ⟨rfl, hb⟩
      obtain ⟨b0, b1⟩ := (X1.below hb).cells
      have HB2 := Lib.hid (HB1.out.trans (hb.mono HB1.out.size))
      have HU2 := Lib.hid (HU1.out.below hb)
      have HV2 := Lib.hid (HVV.out.below HB2.out)
      obtain ⟨lw, hlw⟩ : ∃ x, lowS nm = x := ⟨_, rfl⟩
      have hls : lw.size ≤ 1100000 := by rw [← hlw, lowS_size]; omega
      rw [hlw]
      have HLW := Lib.hid (show lowS a.1 = lw by rw [HNM.out, hlw])
      clear hlw hb X1 hbl1 HU1 HB1
      have hlook := HU2.out.grp.look lw (by unfold maxLen; omega)
      have hown := HU2.out.grp.own lw
      have hlen : (allV (l.take j) lw).length ≤ 1100000 := Nat.le_trans (allV_small l j lw) HV.out
      obtain ⟨v0, hv0⟩ : ∃ x, hv lw = x := ⟨_, rfl⟩
      have HW0 := Lib.hid hv0
      rw [hv0] at hlook hown
      clear hv0
      go_wp2_with (at_builtin; go_must (refine push_strs W2 hown (.tmp 25) (.tmp 27) HV2.out ?_ ?_ ?_ ?_ ?_ ?_ ?_; exact rfl; exact rfl; exact rfl; exact rfl; omega; (have := HB2.out.size; have := HU2.out.grp.map.lt; omega); intro v3 W3 hown3 hg3 hl3; have HB3 := Lib.hid (HB2.out.grown hg3 HB2.out.size (fun q hq => by have := (hown.lt q hq).1; omega)); obtain ⟨W4, D4, hv4, hrun4, hU4, hg4⟩ := HU2.out.store a HLW.out (by unfold maxLen; omega) (by unfold maxLen; omega) (by rw [HW0.out]; exact hg3) (by rw [hvl]; exact hown3) (by rw [HW0.out]; exact hl3); have HU4 := Lib.hid hU4; have HB4 := Lib.hid (HB3.out.grown hg4 HB3.out.size (fun q hq => by cases hq; exact Nat.le_refl _)); clear hU4 hg4))
      go_roundw
      case rel => exact ⟨j + 1, D4, hv4, by omega, by go_num, by rw [HT.out]; exact HU4, HB4⟩
      case measure => simp [intOf]; omega
    · obtain rfl : l.length = j := by omega
      rw [List.take_length] at HU
      have HKS := Lib.hid (keys_s (some w.heap.size) wr)
      have HSK := Lib.hid (sorted_keys w.heap.size l.length D hdrE wr HU.out.grp.map (Nat.le_trans HU.out.grp.map.size_le (by omega)))
      have HKE := Lib.hid (fun (ss : List (List UInt8)) hp => keys_sorted (ks := lowN l) (ss := ss) HU.out.grp.map HU.out.keys hp)
      obtain ⟨wa, hwa⟩ : ∃ x, x = wr := ⟨_, rfl⟩
      subst hwa
      obtain ⟨K, hK⟩ : ∃ x, sortU (lowN l) = x := ⟨_, rfl⟩
      have hKl : K.length ≤ 3000 := by rw [← hK]; have := sortU_lowN_len l; omega
      have HKA := Lib.hid (show Asc K by rw [← hK]; exact sortU_asc _)
      have HKM := Lib.hid (fun x (hx : x ∈ K) => (show x.size ≤ 1100000 by
        rw [← hK, sortU_mem] at hx
        unfold lowN at hx
        obtain ⟨a, ha, rfl⟩ := List.mem_map.1 hx
        exact lowS_small (HS.out a ha).1))
      have HNK := Lib.hid (show nfK l K = nf l by rw [← hK]; exact nfK_all l)
      rw [hK] at HKE
      clear hK
      go_wp2_with fail
      refine HKS.out.mono ?_
      rintro e w1 ⟨rfl, rfl⟩
      go_wp2_with fail
      refine HSK.out.mono ?_
      rintro e w2 ⟨kv, ss, rfl, hp, hkown, hb⟩
      have hke := HKE.out ss hp
      have hsl : ss.length = K.length := by rw [← hke, List.length_map]; exact (List.mergeSort_perm ss _).length_eq.symm
      rw [hke, hsl] at hkown
      have HB2a : Hid (Below (wa.heap.size + 1) (wa.alloc (.cells #[.map (some w.heap.size)] 106)) w2) := Lib.hid hb
      have HB2b := Lib.hid (((Below.refl wa.heap.size wa).alloc (Nat.le_refl _) (.cells #[.map (some w.heap.size)] 106)).trans (hb.mono (Nat.le_succ _)))
      clear hke hp hb HSK HKS HKE
      obtain ⟨ko, kcap, rfl, hks⟩ := strs_own hkown rfl
      have hkc : kcap ≤ 9223372036854775807 := hks.2.2.1
      clear hks
      have hbs : wa.heap.size ≤ w2.heap.size := HB2b.out.size
      have HLT := Lib.hid (fun x g (e : (hv x).ownBlock = some g) => ((HU.out.grp.own x).lt g e).2)
      have HAP := Lib.hid HU.out.grp.apart
      have HG0 : Hid (GMap w2 w.heap.size l.length D hv) := Lib.hid (GMap.below ⟨HU.out.grp.map, HU.out.grp.reads⟩ HB2b.out)
      have HO0 := Lib.hid (fun x => own_below (HU.out.grp.own x) HB2b.out)
      have HB0 : Hid (Below w.heap.size w w2 ∧ w2.heap.size ≤ w2.heap.size) := Lib.hid ⟨HB.out.trans (HB2b.out.mono HB.out.size), Nat.le_refl _⟩
      have hwa : w.heap.size < wa.heap.size := HU.out.grp.map.lt
      have HKO0 := Lib.hid (fun g (e : (Value.slice ko K.length kcap).ownBlock = some g) => (hkown.lt g e).2)
      have HKO := Lib.hid hkown
      clear hkown HU HB HB2a HB2b
      go_wp2_with fail
      go_loopw [7, 9, 10, 34] (fun v s9 s10 iv wr => ∃ (k : Nat) (T : List Tr), k ≤ K.length ∧ iv = .int .i64 k ∧ T.length ≤ k ∧ Hid (tats T = nfK l (K.take k)) ∧ Hid (Done wr (w.heap.size + 1) hv (K.take k) T) ∧ Hid (∀ j, k ≤ j → j < K.length → wr.ownsRow (w.heap.size + 1) 9 1 (hv (partAt K j)) (allV l (partAt K j)).length (scells (allV l (partAt K j)))) ∧ Hid (GMap wr w.heap.size l.length D hv) ∧ Hid (wr.ownsRow (wa.heap.size + 1) 9 1 (.slice ko K.length kcap) K.length (scells K)) ∧ wr.ownsRow w2.heap.size 60 2 v T.length (tcells T) ∧ Hid (Below w.heap.size w wr ∧ w2.heap.size ≤ wr.heap.size)) (fun _ _ _ iv _ => K.length - (intOf iv).toNat)
      case atStart => exact ⟨0, [], Nat.zero_le _, rfl, Nat.le_refl _, Lib.hid rfl, Lib.hid ⟨fun t ht => (List.not_mem_nil ht).elim, fun t ht => (List.not_mem_nil ht).elim⟩, Lib.hid (fun j _ _ => HO0.out _), HG0, HKO, World.ownsRow_nil _ _ _ _, HB0⟩
      case round =>
        obtain ⟨k, T, hk, rfl, hTk, HT, HD, HO, HG, HKO, hown, HBB⟩ := hrel
        by_cases hlt : k < K.length
        · have hKS := own_strs HKO.out rfl
          obtain ⟨kb, koff, rfl, hs⟩ := hKS.2.2.2 (by omega)
          have hcell := hs.2 k hlt
          have HNE := Lib.hid (fun x (hx : x ∈ K.take k) => take_ne HKA.out hlt hx)
          have HNJ := Lib.hid (fun j (hj : k + 1 ≤ j) (hjl : j < K.length) => part_ne HKA.out hjl hlt (by omega))
          have HTS := Lib.hid (show K.take (k + 1) = K.take k ++ [partAt K k] from take_snoc K k hlt)
          have hownk := HO.out k (Nat.le_refl _) hlt
          have hns := HKM.out _ (part_mem K k hlt)
          have HNK1 := Lib.hid (show nfK l (K.take (k + 1)) = nfK l (K.take k) ++ (if vals l (partAt K k) = [] then [] else [(partAt K k, vals l (partAt K k))]) by rw [HTS.out, nfK_snoc])
          obtain ⟨nm, hnm⟩ : ∃ x, partAt K k = x := ⟨_, rfl⟩
          rw [hnm] at hcell HNE HNJ HTS hownk hns HNK1
          have hlook := HG.out.look nm (by unfold maxLen; omega)
          clear hnm hs hKS
          have hlen : (allV l nm).length ≤ 1100000 := Nat.le_trans (allV_len nm l) HV.out
          have HLK := Lib.hid (fun g e => HLT.out nm g e)
          have HAK := Lib.hid (fun x (hx : x ≠ nm) => HAP.out x nm hx)
          obtain ⟨v0, hv0⟩ : ∃ x, hv nm = x := ⟨_, rfl⟩
          have HW0 := Lib.hid hv0
          rw [hv0] at hlook hownk HLK HAK
          clear hv0
          have d1 : (k : Int) < (K.length : Int) := by omega
          go_wp2_with fail
          refine (ascending_s (w.heap.size + 1) _ v0 (allV l nm) wr hownk rfl (by omega)).mono ?_
          rintro e w5 ⟨u, rfl, hu, hg, hub⟩
          have hu' : w5.ownsRow (w.heap.size + 1) 9 1 u (vals l nm).length (scells (vals l nm)) := hu
          have hlow : ∀ g, v0.ownBlock = some g → g < w2.heap.size := fun g e => Nat.lt_of_lt_of_le (HLK.out g e) hbs
          have HD5 := Lib.hid (HD.out.kept hg fun x hx => HAK.out x (HNE.out x hx))
          have HO5 := Lib.hid (fun j (hj : k + 1 ≤ j) (hjl : j < K.length) => (HO.out j (by omega) hjl).kept hg (HAK.out _ (HNJ.out j hj hjl)))
          have HG5 := Lib.hid (HG.out.kept hg (fun e => by have := (hownk.lt _ e.symm).1; omega))
          have HKO5 := Lib.hid (HKO.out.kept hg (not_block' (fun g e => (HKO.out.lt g e).1) (fun g e => Nat.lt_succ_of_lt (HLK.out g e))))
          have hown5 := hown.kept hg (not_block' (fun g e => (hown.lt g e).1) hlow)
          have HBB5 : Hid (Below w.heap.size w w5 ∧ w2.heap.size ≤ w5.heap.size) := Lib.hid ⟨HBB.out.1.grown hg HBB.out.1.size (fun q hq => by have := (hownk.lt q hq).1; omega), Nat.le_trans HBB.out.2 hg.size⟩
          clear hu HD HO HG HKO hown HBB hownk hlook hg
          obtain ⟨n, hn'⟩ : ∃ x, (vals l nm).length = x := ⟨_, rfl⟩
          rw [hn'] at hu'
          obtain ⟨uo, uc, rfl, hus⟩ := strs_own hu' hn'
          by_cases h0 : n = 0
          · have HT2 := Lib.hid (show tats T = nfK l (K.take (k + 1)) by rw [HNK1.out, if_pos (List.length_eq_zero_iff.1 (by omega)), List.append_nil]; exact HT.out)
            have HD6 := Lib.hid (HD5.out.more (K' := K.take (k + 1)) fun x hx => by rw [HTS.out]; exact List.mem_append_left _ hx)
            have d2 : decide ((0 : Int) < (n : Int)) = false := decide_eq_false (by omega)
            go_wp2_with fail
            go_roundw
            case rel => exact ⟨k + 1, T, by omega, by go_num, by omega, HT2, HD6, HO5, HG5, HKO5, hown5, HBB5⟩
            case measure => simp [intOf]; omega
          · have HT2 := Lib.hid (show tats (T ++ [(nm, .slice uo n uc, vals l nm)]) = nfK l (K.take (k + 1)) by rw [HNK1.out, if_neg (fun e => h0 (by rw [← hn', e]; rfl)), tats_append, HT.out]; rfl)
            have d2 : decide ((0 : Int) < (n : Int)) = true := decide_eq_true (by omega)
            have HHd : Hid (Hdr w5 (.slice uo n uc) (vals l nm)) := Lib.hid ⟨uo, n, uc, rfl, hus⟩
            have hsz6 := HBB5.out.2
            have hsz7 := HBB5.out.1.size
            have HD6 := Lib.hid ((HD5.out.more (K' := K.take (k + 1)) fun x hx => by rw [HTS.out]; exact List.mem_append_left _ hx).snoc (t := (nm, .slice uo n uc, vals l nm)) (by rw [hn']; exact hu') (by rw [HW0.out]; exact hub) (by rw [HTS.out]; simp))
            clear hus
            go_wp2_with (at_builtin; go_must (refine app_attrs (w5.alloc (.cells #[.string nm, .slice uo n uc] 60)) (hown5.alloc _) (.tmp 45) (.tmp 49) _ 1 1 [(nm, .slice uo n uc, vals l nm)] ?_ ?_ ?_ ?_ (ts_new1 w5 (nm, .slice uo n uc, vals l nm)) ?_ ?_ ?_ ?_; exact rfl; exact rfl; exact rfl; exact rfl; exact (fun t ht => by rw [List.mem_singleton.1 ht]; exact HHd.out.below ((Below.refl _ w5).alloc (Nat.le_refl _) _)); omega; (simp; omega); intro v7 w7 hown7 hg7 hl7))
            have hba : Below w5.heap.size w5 (w5.alloc (.cells #[.string nm, .slice uo n uc] 60)) := (Below.refl _ w5).alloc (Nat.le_refl _) _
            have hrow := fun g e => (hown5.lt g e).1
            have HD7 := Lib.hid ((HD6.out.below hba).kept hg7 (fun x hx => not_block (fun g e => Nat.lt_of_lt_of_le (HLT.out x g e) hbs) hrow))
            have HO7 := Lib.hid (fun j (hj : k + 1 ≤ j) (hjl : j < K.length) => (own_below (HO5.out j hj hjl) hba).kept hg7 (not_block (fun g e => Nat.lt_of_lt_of_le (HLT.out _ g e) hbs) hrow))
            have HG7 := Lib.hid ((HG5.out.below hba).kept hg7 (fun e => by have := hrow _ e.symm; omega))
            have HK7 := Lib.hid ((own_below HKO5.out hba).kept hg7 (not_block (Bk := w2.heap.size) (fun g e => by have := HKO0.out; exact this g e) hrow))
            have HBB7 : Hid (Below w.heap.size w w7 ∧ w2.heap.size ≤ w7.heap.size) := Lib.hid ⟨(HBB5.out.1.alloc hsz7 _).grown hg7 (by simp; omega) (fun q hq => by have := hrow q hq; omega), Nat.le_trans hsz6 (Nat.le_trans (by simp) hg7.size)⟩
            clear hba hrow hg7 hl7
            go_roundw
            case rel => exact ⟨k + 1, T ++ [(nm, .slice uo n uc, vals l nm)], by omega, by go_num, by simp; omega, HT2, HD7, HO7, HG7, HK7, by rw [List.length_append, tcells_append]; exact hown7, HBB7⟩
            case measure => simp [intOf]; omega
        · obtain rfl : K.length = k := by omega
          have HE := Lib.hid (show tats T = nf l by rw [HT.out, List.take_length, HNK.out])
          go_wp2_with fail
          go_ret
          refine ⟨_, T, rfl, HE.out, fun t ht => ⟨(HD.out.own t ht).1.mono (Nat.le_succ _), ?_⟩, HD.out.apart (by rw [HE.out]; exact (nf_NF l).asc) HAP.out, hown.mono (by omega), HBB.out.1⟩
          rw [(HD.out.own t ht).2]
          exact not_block (Bk := w2.heap.size) (fun g e => Nat.lt_of_lt_of_le (HLT.out _ g e) hbs) (fun g e => (hown.lt g e).1)
end Go.Proofs.YtbkignlbcneddaaGreatDoor
end

section
/-
  Plain functions for the escaped forms: which bytes stand as they are, hexadecimal digits, the escaped form and reading it back. No condition.
-/
set_option maxRecDepth 100000
namespace Go.Proofs.YtbkignlbcneddaaGreatDoor
open Go.PlainAid
def plainI (c : Int) : Bool := decide (33 ≤ c) && decide (c ≤ 126) && !(c == 37) && !(c == 124) && !(c == 44) && !(c == 61) && !(c == 59) && !(c == 34)
def plainC (c : UInt8) : Bool := plainI (c.toNat : Int)
def hexC (d : Nat) : UInt8 := if d < 10 then UInt8.ofNat (48 + d) else UInt8.ofNat (55 + d)
def escC (c : UInt8) : List UInt8 := if plainC c then [c] else [37, hexC (c.toNat / 16), hexC (c.toNat % 16)]
def escL (l : List UInt8) : List UInt8 := l.flatMap escC
def hexS : ByteArray := ⟨#[48, 49, 50, 51, 52, 53, 54, 55, 56, 57, 65, 66, 67, 68, 69, 70]⟩
theorem hexC_table : ∀ d : Nat, d < 16 → bt hexS d = ((hexC d).toNat : Int) := by decide +kernel
theorem escL_snoc (l : List UInt8) (c : UInt8) : escL (l ++ [c]) = escL l ++ escC c := by simp [escL]
theorem escC_length (c : UInt8) : (escC c).length ≤ 3 := by unfold escC; split <;> simp
theorem escL_length (l : List UInt8) : (escL l).length ≤ 3 * l.length := by
  induction l with
  | nil => simp [escL]
  | cons c l ih =>
    have e : escL (c :: l) = escC c ++ escL l := by simp [escL]
    rw [e, List.length_append, List.length_cons]
    have := escC_length c
    omega
theorem escC_plain (c : UInt8) (h : plainC c = true) : escC c = [c] := by unfold escC; rw [if_pos h]
theorem escC_other (c : UInt8) (h : plainC c = false) : escC c = [37, hexC (c.toNat / 16), hexC (c.toNat % 16)] := by unfold escC; rw [if_neg (by simp [h])]
theorem hex_hi (x : Int) (c : UInt8) (h : x = (c.toNat : Int)) : bt (⟨#[48, 49, 50, 51, 52, 53, 54, 55, 56, 57, 65, 66, 67, 68, 69, 70]⟩ : ByteArray) (x / 16).toNat = ((hexC (c.toNat / 16)).toNat : Int) := by
  have hc := c.toNat_lt
  have e : (x / 16).toNat = c.toNat / 16 := by omega
  rw [e]
  exact hexC_table _ (by omega)
theorem hex_lo (x : Int) (c : UInt8) (h : x = (c.toNat : Int)) : bt (⟨#[48, 49, 50, 51, 52, 53, 54, 55, 56, 57, 65, 66, 67, 68, 69, 70]⟩ : ByteArray) (x % 16).toNat = ((hexC (c.toNat % 16)).toNat : Int) := by
  have e : (x % 16).toNat = c.toNat % 16 := by omega
  rw [e]
  exact hexC_table _ (by omega)
/-- byte k of a string -/
def chr (s : ByteArray) (k : Nat) : UInt8 := s.data.toList.getD k 0
theorem bt_chr (s : ByteArray) (k : Nat) : bt s k = ((chr s k).toNat : Int) := by
  unfold chr
  by_cases h : k < s.size
  · rw [bt_at s k h, List.getD_eq_getElem?_getD, List.getElem?_eq_getElem (by simpa using h)]; rfl
  · rw [bt_end s (by omega), List.getD_eq_getElem?_getD, List.getElem?_eq_none (by rw [← Lib.size_eq]; omega)]; rfl
theorem take_chr (s : ByteArray) (k : Nat) (h : k < s.size) : s.data.toList.take (k + 1) = s.data.toList.take k ++ [chr s k] := by
  rw [take_succ s k h]; unfold chr; rw [List.getD_eq_getElem?_getD, List.getElem?_eq_getElem (by simpa using h)]; rfl
theorem esc_step (s : ByteArray) (k : Nat) (h : k < s.size) : escL (s.data.toList.take (k + 1)) = escL (s.data.toList.take k) ++ escC (chr s k) := by rw [take_chr s k h, escL_snoc]
theorem plain_chr (s : ByteArray) (k : Nat) : plainC (chr s k) = plainI (bt s k) := by unfold plainC; rw [bt_chr]
end Go.Proofs.YtbkignlbcneddaaGreatDoor
end
