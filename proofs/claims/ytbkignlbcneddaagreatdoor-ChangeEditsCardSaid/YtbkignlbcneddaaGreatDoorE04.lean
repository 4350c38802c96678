/-
  Texts of the schema layer and of those beneath it, joined: AttSet, AttNew, AttCk, AttSrt. Conditions stand at each contract.
-/
import Derived.Test.YtbkignlbcneddaaGreatDoorE03
set_option linter.unusedVariables false
set_option linter.unusedSimpArgs false
set_option linter.unnecessarySimpa false

section
/-
  Contract of attrs.setOf: a map of the call's own whose keys are the strings of a list. Condition: at most 1100000 strings of at most 1100000 bytes.
-/
set_option maxRecDepth 100000
namespace Go.Proofs.YtbkignlbcneddaaGreatDoor
open Go.RowKit Go.PlainAid Go.Maps Go.ChangeMaps
variable {H : Type}
/-- a set of strings: the map's keys are those of ks, each with true -/
structure SetM (w : World) (b n : Nat) (D : DataW H) (ks : List ByteArray) : Prop where
  map : w.ownsMap Tryz.prog 9 (plainElem Tryz.prog 4) b n D
  reads : ∀ k : ByteArray, D.atKey (klit k) (.lit (.bool false)) = .lit (.bool (memB ks k))
theorem plain_bool {P : Program} {e : TypeId} {v : Value} {x : Bool} {ps : List MemPlace} (he : P.underlying e = some .bool) (h : plainElem (H := H) P e v = some (.lit (.bool x), ps)) : v = .bool x := by
  unfold plainElem at h
  rw [he] at h
  cases v <;> simp at h
  rw [h.1]
theorem memB_snoc (ks : List ByteArray) (s k : ByteArray) : memB (ks ++ [s]) k = (memB ks k || decide (s = k)) := by
  unfold memB; rw [List.any_append]; simp
theorem setM_made (w : World) : SetM (H := H) (w.alloc (.map #[] 0)) w.heap.size 0 (.map []) [] where
  map := World.ownsMap_made w _ _ _
  reads k := rfl
theorem SetM.look {w : World} {b n : Nat} {D : DataW H} {ks : List ByteArray} (G : SetM w b n D ks) (k : ByteArray) (hk : k.size ≤ maxLen) :
    (Instr.lookup 162 (.map (some b)) (.string k) false).run Tryz.prog w = .ok (.bool (memB ks k)) w := by
  obtain ⟨v, ps, hrun, hv⟩ := G.map.lookup (t := 162) (e := 4) (string_keyed Tryz.underlying9) Tryz.underlying162 (z := .bool false) (Tryz.zeroValue4 _) (plainElem_bool Tryz.underlying4 false) (klit_key k hk)
  rw [G.reads k] at hv
  have hv' : v = .bool (memB ks k) := plain_bool Tryz.underlying4 hv
  rw [hrun, hv']
theorem SetM.store {w : World} {b n : Nat} {D : DataW H} {ks : List ByteArray} (G : SetM w b n D ks) (k : ByteArray) (hk : k.size ≤ maxLen) (hn : n < maxLen) :
    ∃ w', (Instr.mapUpdate 162 (.map (some b)) (.string k) (.bool true)).run Tryz.prog w = .ok () w' ∧ SetM w' b (n + 1) (D.put (klit k) (.lit (.bool true))) (ks ++ [k]) ∧ w.grownBy w' (some b) := by
  obtain ⟨w', hrun, hm, hg⟩ := G.map.update (t := 162) (e := 4) (string_keyed Tryz.underlying9) Tryz.underlying162 hn (klit_key k hk) (plainElem_bool Tryz.underlying4 true)
  refine ⟨w', hrun, ⟨hm, fun j => ?_⟩, hg⟩
  rw [memB_snoc]
  by_cases e : k = j
  · subst e
    rw [atKey_put_same G.map.isMap (by unfold klit; trivial)]; simp
  · rw [atKey_put_other (fun h => e (klit_one h).symm), G.reads j]
    simp [e]
theorem SetM.kept {w w' : World} {b n : Nat} {D : DataW H} {ks : List ByteArray} {row : Option Nat} (G : SetM w b n D ks) (hg : w.grownBy w' row) (hne : some b ≠ row) : SetM w' b n D ks := ⟨G.map.kept hg hne, G.reads⟩
set_option maxRecDepth 100000 in
set_option maxHeartbeats 2000000 in
theorem setOf_s (ao : Option Addr) (n cap : Nat) (ps : List ByteArray) (w : World) (h : StrsAt w ao n cap ps) (hn : n ≤ 1100000) (hS : SmallS ps) :
    Calls Tryz.prog 178 #[.slice ao n cap] w fun e w' => e = .returned (.map (some w.heap.size)) ∧ (∃ D, SetM (H := Unit) w' w.heap.size n D ps) ∧ Below w.heap.size w w' := by
  obtain ⟨h1, h2, h3, h4⟩ := h
  subst h1
  unfold maxLen at h3
  have H4 := Lib.hid h4; clear h4
  have HS := Lib.hid hS; clear hS
  have hB0 : Below w.heap.size w (w.alloc (.map #[] 0)) := (Below.refl _ _).alloc (Nat.le_refl _) _
  have G0 := setM_made (H := Unit) w
  have hmm := @run_makeMap Tryz.prog
  go_enter Tryz.func178, Tryz.ntmps178
  go_wp2
  clear hmm
  go_loopw [5, 9] (fun s i wr => ∃ (k : Nat) (D : DataW Unit), k ≤ ps.length ∧ i = .int .i64 k ∧ Hid (SetM wr w.heap.size k D (ps.take k)) ∧ Hid (Below w.heap.size w wr)) (fun _ i _ => ps.length - (intOf i).toNat)
  case atStart => exact ⟨0, _, Nat.zero_le _, rfl, Lib.hid G0, Lib.hid hB0⟩
  case round =>
    obtain ⟨k, D, hk, rfl, HG, HB⟩ := hrel
    by_cases hlt : k < ps.length
    · obtain ⟨b, off, rfl, hs⟩ := H4.out (by omega)
      have hcell := (hs.below HB.out hs.1).2 k hlt
      clear hs
      obtain ⟨p, hpe⟩ : ∃ p, partAt ps k = p := ⟨_, rfl⟩
      have hps : p.size ≤ 1100000 := by rw [← hpe]; exact HS.out _ (part_mem ps k hlt)
      rw [hpe] at hcell
      have HT := Lib.hid (show ps.take (k + 1) = ps.take k ++ [p] by rw [← hpe]; exact take_snoc ps k hlt)
      clear hpe
      obtain ⟨w', hrun, HG', hgr⟩ := HG.out.store p (by unfold maxLen; omega) (by unfold maxLen; omega)
      have HG2 := Lib.hid HG'
      have HB2 := Lib.hid (HB.out.grown hgr (HB.out.size) (fun j hj => by cases hj; exact Nat.le_refl _))
      clear HG' hgr
      have d1 : (k : Int) < (ps.length : Int) := by omega
      go_wp2_with fail
      go_roundw
      case rel => exact ⟨k + 1, _, by omega, by go_num, by rw [HT.out]; exact HG2, HB2⟩
      case measure => simp [intOf]; omega
    · have hke : k = ps.length := by omega
      subst hke
      go_wp2_with fail
      go_ret
      have hg := HG.out
      rw [List.take_length] at hg
      exact ⟨rfl, ⟨D, hg⟩, HB.out⟩
end Go.Proofs.YtbkignlbcneddaaGreatDoor
end

section
/-
  Contract of attrs.checkNew. Condition: at most 1100000 strings in each list, of at most 1100000 bytes.
-/
set_option maxRecDepth 100000
namespace Go.Proofs.YtbkignlbcneddaaGreatDoor
open Go.RowKit Go.PlainAid Go.Maps Go.ChangeMaps
theorem memB_app (a b : List ByteArray) (s : ByteArray) : memB (a ++ b) s = (memB a s || memB b s) := by unfold memB; rw [List.any_append]
theorem errV_form {vs old : List ByteArray} {j : Nat} {p : ByteArray} (hp : partAt vs j = p) : errV vs old j = if cleanB p = false then 4 else if memB (old ++ vs.take j) p = true then 7 else 0 := by
  unfold errV
  rw [hp, memB_app]
  cases cleanB p <;> cases memB old p <;> cases memB (vs.take j) p <;> simp
set_option maxRecDepth 100000 in
set_option maxHeartbeats 2000000 in
theorem checkNew_s (ao bo : Option Addr) (n m cap dap : Nat) (old vs : List ByteArray) (w : World) (h : StrsAt w ao n cap old) (k : StrsAt w bo m dap vs) (hn : n ≤ 1100000) (hm : m ≤ 1100000) (hS : SmallS old) (hV : SmallS vs) :
    Calls Tryz.prog 139 #[.slice ao n cap, .slice bo m dap] w fun e w' => e = .returned (.int .i64 (chkV vs old)) ∧ Below w.heap.size w w' := by
  have HO := Lib.hid (setOf_s ao n cap old w h hn hS)
  obtain ⟨k1, k2, k3, k4⟩ := k
  subst k1
  unfold maxLen at k3
  have K4 := Lib.hid k4; clear k4
  have HV := Lib.hid hV; clear hV
  go_enter Tryz.func139, Tryz.ntmps139
  go_wp2_with fail
  refine HO.out.mono ?_
  rintro e w1 ⟨rfl, ⟨D0, hG⟩, hb⟩
  have HG0 := Lib.hid hG
  have HB0 := Lib.hid hb
  clear hG hb HO
  go_wp2
  go_loopw [7, 12, 16, 20] (fun s i u v wr => ∃ (j : Nat) (D : DataW Unit), j ≤ vs.length ∧ i = .int .i64 j ∧ Hid (∀ q, q < j → errV vs old q = 0) ∧ Hid (SetM wr w.heap.size (n + j) D (old ++ vs.take j)) ∧ Hid (Below w.heap.size w wr)) (fun _ i _ _ _ => vs.length - (intOf i).toNat)
  case atStart => exact ⟨0, D0, Nat.zero_le _, rfl, Lib.hid (fun q hq => absurd hq (Nat.not_lt_zero _)), Lib.hid (by simpa using HG0.out), HB0⟩
  case round =>
    obtain ⟨j, D, hj, rfl, HA, HG, HB⟩ := hrel
    by_cases hlt : j < vs.length
    · obtain ⟨b, off, rfl, hs⟩ := K4.out (by omega)
      have hcell := (hs.below HB.out hs.1).2 j hlt
      clear hs
      obtain ⟨p, hpe⟩ : ∃ p, partAt vs j = p := ⟨_, rfl⟩
      have hps : p.size ≤ 1100000 := by rw [← hpe]; exact HV.out _ (part_mem vs j hlt)
      rw [hpe] at hcell
      have HF := Lib.hid (errV_form (vs := vs) (old := old) (j := j) hpe)
      have HT := Lib.hid (show old ++ vs.take (j + 1) = (old ++ vs.take j) ++ [p] by rw [← hpe, take_snoc vs j hlt, List.append_assoc])
      clear hpe
      have d1 : (j : Int) < (vs.length : Int) := by omega
      cases hc : cleanB p
      · have HR := Lib.hid (show chkV vs old = 4 by
          have e : errV vs old j = 4 := by rw [HF.out, if_pos hc]
          unfold chkV; rw [firstE_hit HA.out (by rw [e]; decide) hlt, e])
        have HCL := Lib.hid hc
        clear hc
        go_wp2_with (go_at_call 179; refine (clean_s p _ (by omega)).mono ?_; rintro e w' ⟨rfl, rfl⟩; rw [HCL.out])
        go_ret
        exact ⟨by rw [HR.out]; rfl, HB.out⟩
      · have HCL := Lib.hid hc
        clear hc
        have hlook := HG.out.look p (by unfold maxLen; omega)
        cases hm2 : memB (old ++ vs.take j) p
        · have HZ := Lib.hid (show errV vs old j = 0 by rw [HF.out, HCL.out, hm2]; simp)
          rw [hm2] at hlook
          clear hm2
          obtain ⟨w', hrun, HG', hgr⟩ := HG.out.store p (by unfold maxLen; omega) (by unfold maxLen; omega)
          have HG2 := Lib.hid HG'
          have HB2 := Lib.hid (HB.out.grown hgr (HB.out.size) (fun j hj => by cases hj; exact Nat.le_refl _))
          clear HG' hgr
          go_wp2_with (go_at_call 179; refine (clean_s p _ (by omega)).mono ?_; rintro e w' ⟨rfl, rfl⟩; rw [HCL.out])
          go_roundw
          case rel =>
            refine ⟨j + 1, _, by omega, by go_num, Lib.hid fun q hq => ?_, by rw [HT.out]; exact HG2, HB2⟩
            by_cases e : q = j
            · rw [e]; exact HZ.out
            · exact HA.out q (by omega)
          case measure => simp [intOf]; omega
        · have HR := Lib.hid (show chkV vs old = 7 by
            have e : errV vs old j = 7 := by rw [HF.out, HCL.out, hm2]; simp
            unfold chkV; rw [firstE_hit HA.out (by rw [e]; decide) hlt, e])
          rw [hm2] at hlook
          clear hm2
          go_wp2_with (go_at_call 179; refine (clean_s p _ (by omega)).mono ?_; rintro e w' ⟨rfl, rfl⟩; rw [HCL.out])
          go_ret
          exact ⟨by rw [HR.out]; rfl, HB.out⟩
    · have hke : j = vs.length := by omega
      subst hke
      have HR := Lib.hid (show chkV vs old = 0 from firstE_zero HA.out)
      go_wp2_with fail
      go_ret
      exact ⟨by rw [HR.out]; rfl, HB.out⟩
end Go.Proofs.YtbkignlbcneddaaGreatDoor
end

section
/-
  Contract of attrs.Check. Condition: at most 1100000 values an attribute, strings of at most 1100000 bytes.
-/
set_option maxRecDepth 100000
namespace Go.Proofs.YtbkignlbcneddaaGreatDoor
open Go.RowKit Go.PlainAid Go.Maps Go.ChangeMaps
def errA (l : List At) (j : Nat) : Int :=
  if nameB (atD l j).1 = false then 5 else if twiceB l j = true then 7 else if (atD l j).2.length = 0 then 6 else if 16 < (atD l j).2.length then 3 else chkV (atD l j).2 []
def chkA (l : List At) : Int := if 32 < l.length then 3 else firstE (errA l) l.length
def lowN (l : List At) : List ByteArray := l.map fun a => lowS a.1
theorem twice_mem (l : List At) (j : Nat) : memB (lowN (l.take j)) (lowS (atD l j).1) = twiceB l j := by
  unfold memB lowN twiceB
  rw [List.any_map]; rfl
theorem SetM.below {H : Type} {w w' : World} {b n : Nat} {D : DataW H} {ks : List ByteArray} (G : SetM w b n D ks) (hb : Below w.heap.size w w') : SetM w' b n D ks :=
  G.kept (row := none) ⟨hb.os, hb.tape, hb.output, hb.size, fun k hk _ => hb.block k hk⟩ (by simp)
/-- a local attribute's box -/
def ABox (w : World) (b : Nat) (nm : ByteArray) (v : Value) : Prop := w.heap[b]? = some (.cells #[.string nm, v] 60)
theorem abox_new (w : World) (nm : ByteArray) (v : Value) : ABox (w.alloc (.cells #[.string nm, v] 60)) w.heap.size nm v := heap_alloc_new w _
theorem ABox.cells {w : World} {b : Nat} {nm : ByteArray} {v : Value} (h : ABox w b nm v) : w.cell? ⟨b, 0, none⟩ = some (.string nm) ∧ w.cell? ⟨b, 1, none⟩ = some v := by
  unfold ABox at h
  exact ⟨by simp [World.cell?, h], by simp [World.cell?, h]⟩
theorem ABox.lt {w : World} {b : Nat} {nm : ByteArray} {v : Value} (h : ABox w b nm v) : b < w.heap.size := (Array.getElem?_eq_some_iff.1 h).1
theorem ABox.below {w w' : World} {b : Nat} {nm : ByteArray} {v : Value} (h : ABox w b nm v) (hb : Below w.heap.size w w') : ABox w' b nm v := (hb.block b h.lt).trans h
theorem ABox.grown {w w' : World} {b : Nat} {nm : ByteArray} {v : Value} {row : Option Nat} (h : ABox w b nm v) (hg : w.grownBy w' row) (hne : some b ≠ row) : ABox w' b nm v := (hg.block b h.lt hne).trans h
/-- values are few -/
def FewV (l : List At) : Prop := ∀ a ∈ l, a.2.length ≤ 1100000
set_option maxRecDepth 100000 in
set_option maxHeartbeats 4000000 in
theorem check_s (ao : Option Addr) (n cap : Nat) (l : List At) (w : World) (h : AttrsAt w ao n cap l) (hS : SmallA l) (hF : FewV l) :
    Calls Tryz.prog 100 #[.slice ao n cap] w fun e w' => e = .returned (.int .i64 (chkA l)) ∧ Below w.heap.size w w' := by
  obtain ⟨h1, h2, h3, h4⟩ := h
  subst h1
  unfold maxLen at h3
  have H4 := Lib.hid h4; clear h4
  have HS := Lib.hid hS; clear hS
  have HF := Lib.hid hF; clear hF
  by_cases h32 : 32 < l.length
  · have HR := Lib.hid (show chkA l = 3 from if_pos h32)
    have d0 : decide ((32 : Int) < (l.length : Int)) = true := decide_eq_true (by omega)
    go_enter Tryz.func100, Tryz.ntmps100
    go_wp2_with fail
    go_ret
    exact ⟨by rw [HR.out]; rfl, Below.refl _ _⟩
  · have HR := Lib.hid (show chkA l = firstE (errA l) l.length from if_neg h32)
    have d0 : decide ((32 : Int) < (l.length : Int)) = false := decide_eq_false (by omega)
    have hB0 : Below w.heap.size w (w.alloc (.map #[] 0)) := (Below.refl _ _).alloc (Nat.le_refl _) _
    have G0 := setM_made (H := Unit) w
    have hmm := @run_makeMap Tryz.prog
    go_enter Tryz.func100, Tryz.ntmps100
    go_wp2
    clear hmm d0
    go_loopw [5, 6, 7, 14, 21, 26, 30, 35] (fun s5 s6 s7 i u21 u26 u30 u35 wr => ∃ (j : Nat) (D : DataW Unit), j ≤ l.length ∧ i = .int .i64 j ∧ Hid (∀ q, q < j → errA l q = 0) ∧ Hid (SetM wr w.heap.size j D (lowN (l.take j))) ∧ Hid (Below w.heap.size w wr)) (fun _ _ _ i _ _ _ _ _ => l.length - (intOf i).toNat)
    case atStart => exact ⟨0, _, Nat.zero_le _, rfl, Lib.hid (fun q hq => absurd hq (Nat.not_lt_zero _)), Lib.hid G0, Lib.hid hB0⟩
    case round =>
      obtain ⟨j, D, hj, rfl, HA, HG, HB⟩ := hrel
      by_cases hlt : j < l.length
      · obtain ⟨b, off, rfl, hblt, hat⟩ := H4.out (by omega)
        obtain ⟨c0, vo, vn, vc, c1, hv⟩ := hat j hlt
        have c0 := cell_later HB.out c0
        have c1 := cell_later HB.out c1
        obtain ⟨nm, hnm⟩ : ∃ x, (atD l j).1 = x := ⟨_, rfl⟩
        obtain ⟨vs, hvs⟩ : ∃ x, (atD l j).2 = x := ⟨_, rfl⟩
        have hsz := HS.out _ (at_mem l j hlt)
        have hfw := HF.out _ (at_mem l j hlt)
        have HE := Lib.hid (show errA l j = if nameB nm = false then 5 else if memB (lowN (l.take j)) (lowS nm) = true then 7 else if vs.length = 0 then 6 else if 16 < vs.length then 3 else chkV vs [] by rw [← hnm, ← hvs, twice_mem]; rfl)
        have HT := Lib.hid (show lowN (l.take (j + 1)) = lowN (l.take j) ++ [lowS nm] by rw [at_take l j hlt, ← hnm]; unfold lowN; rw [List.map_append]; rfl)
        rw [hnm] at c0 hsz
        rw [hvs] at hv hsz hfw
        clear hnm hvs hat
        have hns := hsz.1
        have HVS := Lib.hid hsz.2
        have HV := Lib.hid hv
        have d1 : (j : Int) < (l.length : Int) := by omega
        clear hsz hv
        go_wp2_with fail
        obtain ⟨W1, hW1⟩ : ∃ W1, wr.alloc (.cells #[.string nm, .slice vo vn vc] 60) = W1 := ⟨_, rfl⟩
        have hbl1 : Below wr.heap.size wr W1 := by rw [← hW1]; exact (Below.refl _ wr).alloc (Nat.le_refl _) _
        have X1 : ABox W1 wr.heap.size nm (.slice vo vn vc) := by rw [← hW1]; exact abox_new wr nm _
        have HB1 := Lib.hid (HB.out.trans (hbl1.mono HB.out.size))
        have HG1 := Lib.hid (HG.out.below hbl1)
        rw [hW1]
        clear hW1
        refine (lower_s nm W1 (by omega)).mono ?_
        rintro e W2 ⟨rfl, hb⟩
        obtain ⟨b0, b1⟩ := (X1.below hb).cells
        have HX2 := Lib.hid (X1.below hb)
        have HB2 := Lib.hid (HB1.out.trans (hb.mono HB1.out.size))
        have HG2 := Lib.hid (HG1.out.below hb)
        have hwb : w.heap.size < wr.heap.size := HG.out.map.lt
        have hls : (lowS nm).size ≤ 1100000 := by rw [lowS_size]; omega
        obtain ⟨lw, hlw⟩ : ∃ x, lowS nm = x := ⟨_, rfl⟩
        rw [hlw] at hls ⊢
        have HE2 := HE
        have HT2 := HT
        rw [hlw] at HE2 HT2
        clear hlw HE HT hb X1 HG1 HB1 hbl1
        have hvl : vs.length = vn := HV.out.1
        cases hnb : nameB nm
        · have HR2 := Lib.hid (show chkA l = 5 by
            have e : errA l j = 5 := by rw [HE2.out, if_pos hnb]
            rw [HR.out, firstE_hit HA.out (by rw [e]; decide) hlt, e])
          have HNB := Lib.hid hnb
          clear hnb
          go_wp2_with (go_at_call 138; refine (name_s nm _ (by omega)).mono ?_; rintro e w' ⟨rfl, rfl⟩; rw [HNB.out])
          go_ret
          exact ⟨by rw [HR2.out]; rfl, HB2.out⟩
        · have HNB := Lib.hid hnb
          clear hnb
          have hlook := HG2.out.look lw (by unfold maxLen; omega)
          cases hm2 : memB (lowN (l.take j)) lw
          · rw [hm2] at hlook
            have HM := Lib.hid hm2
            clear hm2
            by_cases hz : vs.length = 0
            · have HR2 := Lib.hid (show chkA l = 6 by
                have e : errA l j = 6 := by rw [HE2.out, HNB.out, HM.out, if_neg (by decide), if_neg (by decide), if_pos hz]
                rw [HR.out, firstE_hit HA.out (by rw [e]; decide) hlt, e])
              have d2 : ((vn : Int) == 0) = true := beq_iff_eq.2 (by omega)
              go_wp2_with (go_at_call 138; refine (name_s nm _ (by omega)).mono ?_; rintro e w' ⟨rfl, rfl⟩; rw [HNB.out])
              go_ret
              exact ⟨by rw [HR2.out]; rfl, HB2.out⟩
            · have d2 : ((vn : Int) == 0) = false := beq_eq_false_iff_ne.2 (by omega)
              by_cases h16 : 16 < vs.length
              · have HR2 := Lib.hid (show chkA l = 3 by
                  have e : errA l j = 3 := by rw [HE2.out, HNB.out, HM.out, if_neg (by decide), if_neg (by decide), if_neg hz, if_pos h16]
                  rw [HR.out, firstE_hit HA.out (by rw [e]; decide) hlt, e])
                have d3 : decide ((16 : Int) < (vn : Int)) = true := decide_eq_true (by omega)
                go_wp2_with (go_at_call 138; refine (name_s nm _ (by omega)).mono ?_; rintro e w' ⟨rfl, rfl⟩; rw [HNB.out])
                go_ret
                exact ⟨by rw [HR2.out]; rfl, HB2.out⟩
              · have d3 : decide ((16 : Int) < (vn : Int)) = false := decide_eq_false (by omega)
                have HC := Lib.hid (show errA l j = chkV vs [] by rw [HE2.out, HNB.out, HM.out, if_neg (by decide), if_neg (by decide), if_neg hz, if_neg h16])
                obtain ⟨W3, hrun, HG', hgr⟩ := HG2.out.store lw (by unfold maxLen; omega) (by unfold maxLen; omega)
                have HG3 := Lib.hid HG'
                have HB3 := Lib.hid (HB2.out.grown hgr (HB2.out.size) (fun j hj => by cases hj; exact Nat.le_refl _))
                have HX3 := Lib.hid (HX2.out.grown hgr (by intro e; have := Option.some.inj e; omega))
                obtain ⟨b2, b3⟩ := HX3.out.cells
                have HV3 := Lib.hid (HV.out.below HB3.out)
                have HN3 := Lib.hid (show StrsAt W3 none 0 0 [] from ⟨rfl, Nat.le_refl _, by unfold maxLen; omega, fun h => absurd h (Nat.lt_irrefl _)⟩)
                clear HG' hgr
                obtain ⟨r, hr⟩ : ∃ r, chkV vs [] = r := ⟨_, rfl⟩
                have HRR := Lib.hid hr
                clear hr
                by_cases hr0 : r = 0
                · subst hr0
                  go_wp2_with (first
                    | (go_at_call 138; refine (name_s nm _ (by omega)).mono ?_; rintro e w' ⟨rfl, rfl⟩; rw [HNB.out])
                    | (go_at_call 139; refine (checkNew_s none vo 0 vn 0 vc [] vs W3 HN3.out HV3.out (by omega) (by omega) (by intro v hv; cases hv) HVS.out).mono ?_; rintro e W4 ⟨rfl, hb⟩; rw [HRR.out]; have HB4 := Lib.hid (HB3.out.trans (hb.mono HB3.out.size)); have HG4 := Lib.hid (HG3.out.below hb)))
                  go_roundw
                  case rel =>
                    refine ⟨j + 1, _, by omega, by go_num, Lib.hid fun q hq => ?_, by rw [HT2.out]; exact HG4, HB4⟩
                    by_cases e : q = j
                    · rw [e, HC.out, HRR.out]
                    · exact HA.out q (by omega)
                  case measure => simp [intOf]; omega
                · have HR2 := Lib.hid (show chkA l = r by
                    have e : errA l j = r := by rw [HC.out, HRR.out]
                    rw [HR.out, firstE_hit HA.out (by rw [e]; exact hr0) hlt, e])
                  have d4 : (r == 0) = false := beq_eq_false_iff_ne.2 hr0
                  have d5 : (r != 0) = true := by unfold bne; rw [d4]; rfl
                  clear hr0
                  go_wp2_with (first
                    | (go_at_call 138; refine (name_s nm _ (by omega)).mono ?_; rintro e w' ⟨rfl, rfl⟩; rw [HNB.out])
                    | (go_at_call 139; refine (checkNew_s none vo 0 vn 0 vc [] vs W3 HN3.out HV3.out (by omega) (by omega) (by intro v hv; cases hv) HVS.out).mono ?_; rintro e W4 ⟨rfl, hb⟩; rw [HRR.out]; have HB4 := Lib.hid (HB3.out.trans (hb.mono HB3.out.size))))
                  go_ret
                  exact ⟨by rw [HR2.out]; rfl, HB4.out⟩
          · have HR2 := Lib.hid (show chkA l = 7 by
              have e : errA l j = 7 := by rw [HE2.out, HNB.out, hm2, if_neg (by decide), if_pos rfl]
              rw [HR.out, firstE_hit HA.out (by rw [e]; decide) hlt, e])
            rw [hm2] at hlook
            clear hm2
            go_wp2_with (go_at_call 138; refine (name_s nm _ (by omega)).mono ?_; rintro e w' ⟨rfl, rfl⟩; rw [HNB.out])
            go_ret
            exact ⟨by rw [HR2.out]; rfl, HB2.out⟩
      · have hke : j = l.length := by omega
        subst hke
        have HR2 := Lib.hid (show chkA l = 0 by rw [HR.out]; exact firstE_zero HA.out)
        go_wp2_with fail
        go_ret
        exact ⟨by rw [HR2.out]; rfl, HB.out⟩
end Go.Proofs.YtbkignlbcneddaaGreatDoor
end

section
/-
  The map that attrs.Sorted builds: what it holds behind k attributes.
-/
set_option maxRecDepth 100000
namespace Go.Proofs.YtbkignlbcneddaaGreatDoor
open Go.RowKit Go.PlainAid Go.Maps Go.ChangeMaps
theorem allV_snoc (l : List At) (a : At) (n : ByteArray) : allV (l ++ [a]) n = allV l n ++ (if lowS a.1 = n then a.2 else []) := by
  unfold allV
  rw [List.filter_append, List.flatMap_append]
  congr 1
  by_cases h : lowS a.1 = n <;> simp [h]
/-- the united values behind k attributes -/
structure United (w : World) (b k : Nat) (D : DataW Unit) (l : List At) (hv : ByteArray → Value) : Prop where
  grp : Groups w (b + 1) b k D (allV l) hv
  keys : ∀ x : ByteArray, Maps.has D (klit x) = true ↔ x ∈ lowN l
theorem united_made (w : World) : United (w.alloc (.map #[] 0)) w.heap.size 0 (.map []) [] (fun _ => .slice none 0 0) where
  grp := groups_made w
  keys x := by simp [lowN, Maps.has]
theorem Groups.below {H : Type} {w w' : World} {base b n : Nat} {D : DataW H} {gv : ByteArray → List ByteArray} {hv : ByteArray → Value} (G : Groups w base b n D gv hv) (hb : Below w.heap.size w w') : Groups w' base b n D gv hv where
  map := G.map.kept (row := none) ⟨hb.os, hb.tape, hb.output, hb.size, fun k hk _ => hb.block k hk⟩ (by simp)
  low := G.low
  reads := G.reads
  own k := own_below (G.own k) hb
  apart := G.apart
theorem United.below {w w' : World} {b k : Nat} {D : DataW Unit} {l : List At} {hv : ByteArray → Value} (U : United w b k D l hv) (hb : Below w.heap.size w w') : United w' b k D l hv := ⟨U.grp.below hb, U.keys⟩
theorem United.store {w w1 : World} {b k : Nat} {D : DataW Unit} {l : List At} {hv : ByteArray → Value} (U : United w b k D l hv) (a : At) {lw : ByteArray} (hlw : lowS a.1 = lw) (hk : lw.size ≤ maxLen) (hn : k < maxLen) {v' : Value}
    (hg : w.grownBy w1 (hv lw).ownBlock) (hown : w1.ownsRow (b + 1) 9 1 v' ((allV l lw).length + a.2.length) (scells (allV l lw) ++ scells a.2)) (hl : v'.ownBlock = (hv lw).ownBlock ∨ v'.ownBlock = some w.heap.size) :
    ∃ w2 D2 hv2, (Instr.mapUpdate 106 (.map (some b)) (.string lw) v').run Tryz.prog w1 = .ok () w2 ∧ United w2 b (k + 1) D2 (l ++ [a]) hv2 ∧ w1.grownBy w2 (some b) := by
  have hown' : w1.ownsRow (b + 1) 9 1 v' (allV l lw ++ a.2).length (scells (allV l lw ++ a.2)) := by
    rw [List.length_append]
    have : scells (allV l lw ++ a.2) = scells (allV l lw) ++ scells a.2 := by unfold scells; rw [List.map_append]
    rw [this]; exact hown
  obtain ⟨w2, d, hrun, G, hg2⟩ := U.grp.store lw hk hn hg hown' (hl.imp id fun e => ⟨_, e, Nat.le_refl _⟩)
  have e : setK (allV l) lw (allV l lw ++ a.2) = allV (l ++ [a]) := by
    funext n
    rw [allV_snoc, hlw]
    by_cases h : lw = n
    · subst h; rw [setK_same, if_pos rfl]
    · rw [setK_other _ _ (fun e => h e.symm), if_neg h, List.append_nil]
  rw [e] at G
  refine ⟨w2, _, _, hrun, ⟨G, fun x => ?_⟩, hg2⟩
  have hm : lowN (l ++ [a]) = lowN l ++ [lw] := by unfold lowN; rw [List.map_append, ← hlw]; rfl
  rw [hm, List.mem_append, List.mem_singleton]
  by_cases h : x = lw
  · subst h
    rw [has_put_same U.grp.map.isMap (by unfold klit; trivial)]
    simp
  · rw [has_put_other (fun e => h (klit_one e)), U.keys x]
    simp [h]
/-- how many values there are in all -/
def sumV (l : List At) : Nat := (l.map fun a => a.2.length).sum
theorem sumV_cons (a : At) (l : List At) : sumV (a :: l) = a.2.length + sumV l := by unfold sumV; rw [List.map_cons, List.sum_cons]
theorem allV_cons (a : At) (l : List At) (n : ByteArray) : allV (a :: l) n = (if lowS a.1 = n then a.2 else []) ++ allV l n := by
  unfold allV
  by_cases h : lowS a.1 = n
  · rw [List.filter_cons_of_pos (by simpa using h), List.flatMap_cons, if_pos h]
  · rw [List.filter_cons_of_neg (by simpa using h), if_neg h]; rfl
theorem allV_len (n : ByteArray) : ∀ l : List At, (allV l n).length ≤ sumV l
  | [] => Nat.le_refl _
  | a :: l => by
    rw [allV_cons, sumV_cons, List.length_append]
    have := allV_len n l
    split
    · omega
    · simp; omega
theorem sumV_take : ∀ (l : List At) (j : Nat), sumV (l.take j) ≤ sumV l
  | [], j => by simp
  | a :: l, 0 => by simp [sumV]
  | a :: l, j + 1 => by
    rw [List.take_succ_cons, sumV_cons, sumV_cons]
    have := sumV_take l j
    omega
end Go.Proofs.YtbkignlbcneddaaGreatDoor
end
