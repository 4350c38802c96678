/-
  Texts of the schema layer and of those beneath it, joined: SchFit, SchVld, SchLgt, SchOrd, SchNmR, SchChR, SchTyR, SchNvR, SchLnR, SchLow, SchLkR, SchSml, SchAlv, SchLaw, SchMuR, SchMaR, SchLkL, SchSub, SchRsd, EntL, EntMod. Conditions stand at each contract.
-/
import Derived.Deep.Onto
import Derived.Deep.DeepHandedRow
import Derived.Lay
import Derived.Shelf.Vars
import Derived.Stop.LaidErr
import Derived.Test.YtonfkhkalodldabGreatDoorCards
import Derived.Test.YtonfkhkalodldabGreatDoorTie
import Derived.Test.YtonfkhkalodldabGreatDoorT13
set_option linter.unusedVariables false
set_option linter.unusedSimpArgs false
set_option linter.unnecessarySimpa false

section
set_option maxRecDepth 100000
namespace Go.Proofs.YtonfkhkalodldabGreatDoor
open Go.RowKit Go.PlainAid Go.Maps
theorem strs_turned {w w' : World} {b m : Nat} {D : DataW Unit} {ks : List ByteArray} {ao : Option Addr} {n cap : Nat} {l : List ByteArray} (h : StrsAt w ao n cap l) (G : SetM w b m D ks) (hg : w.grownBy w' (some b)) : StrsAt w' ao n cap l := by
 refine ⟨h.1, h.2.1, h.2.2.1, fun hn => ?_⟩
 obtain ⟨g, off, e, hl, hc⟩ := h.2.2.2 hn
 have hne : g ≠ b := by
  rintro rfl
  obtain ⟨es, clock, hb, _⟩ := G.map
  have := hc 0 (by rw [h.1]; exact hn)
  simp [World.cell?, hb] at this
 exact ⟨g, off, e, Nat.lt_of_lt_of_le hl hg.size, fun j hj => (hg.cell (hc j hj) (fun e => hne (Option.some.inj e)))⟩
def askB (cs : List Cl) (P : List ByteArray) (v : ByteArray) : Bool := (clOf cs (foldS v)).isSome && (mustS cs (foldS v)).all (memB P)
def allowL (cs : List Cl) (C : List ByteArray) : List ByteArray := [classN] ++ C.flatMap fun v => mayS cs (foldS v)
def fitsB (cs : List Cl) (l : List At) : Bool :=
 (vals l (lowS classN)).all (askB cs (names l)) && (memB (names l) classN && (names l).all (memB (allowL cs (vals l (lowS classN)))))
theorem allowL_take (cs : List Cl) (C : List ByteArray) (k : Nat) (h : k < C.length) : allowL cs (C.take (k + 1)) = allowL cs (C.take k) ++ mayS cs (foldS (partAt C k)) := by
 unfold allowL
 rw [take_snoc C k h, List.flatMap_append, List.append_assoc]
 simp
theorem mayS_few {cs : List Cl} (hS : SoundC cs) (hL : cs.length ≤ 1000) (hF : FewC cs) (n : ByteArray) : (mayS cs n).length ≤ 128000 := by
 rw [mayS_eq]
 refine Nat.le_trans (sortU_len _) ?_
 rw [List.length_map, List.length_append]
 have h1 := mustS_few hS hL hF n
 have h2 : (mayL (lineS cs n)).length ≤ 64000 := mayL_few hF (fun c hc => lineS_mem hc) (Nat.le_trans (lineS_small hS n) hL)
 show (mustS cs n).length + (mayL (lineS cs n)).length ≤ 128000
 omega
theorem mayS_small {cs : List Cl} (hZ : SmC cs) {n s : ByteArray} (h : s ∈ mayS cs n) : s.size ≤ 1000000000 := by
 rw [mayS_eq, sortU_mem] at h
 obtain ⟨t, ht, rfl⟩ := List.mem_map.1 h
 rw [lowS_size]
 rcases List.mem_append.1 ht with h | h
 ·exact mustS_small hZ h
 ·obtain ⟨c, hc, hs⟩ := List.mem_flatMap.1 h
  exact (hZ c (lineS_mem hc)).2.2.2 t hs
theorem namesF_small {l : List At} (h : SmallA l) {s : ByteArray} (hs : s ∈ names l) : s.size ≤ 1100000 := by
 unfold names at hs
 rw [sortU_mem] at hs
 obtain ⟨a, ha, rfl⟩ := List.mem_map.1 hs
 rw [lowS_size]
 exact (h a (List.mem_filter.1 ha).1).1
set_option maxHeartbeats 16000000 in
theorem fits_s (mt mc : Option Nat) (w0 : World) (cs : List Cl) (ao : Option Addr) (n cap : Nat) (l : List At) (w : World) (h0 : Below w0.heap.size w0 w) (h : CMap w0 w mc cs) (hS : SoundC cs) (hL : cs.length ≤ 1000) (hZ : SmC cs) (hF : FewC cs) (hl : AttrsAt w ao n cap l) (hFw : Few l)
  (hC : (vals l (lowS classN)).length ≤ 100000 ∧ ∀ v ∈ vals l (lowS classN), v.size ≤ 1100000) (hP : (names l).length ≤ 3000) :
  Calls Tryz.prog 47 #[.agg #[.map mt, .map mc], .slice ao n cap] w fun e w' => e = .returned (.bool (fitsB cs l)) ∧ Below w.heap.size w w' := by
 have HN := Lib.hid (fun (W : World) (hW : Below w.heap.size w W) => names_s ao n cap l W (hl.below hW) hFw)
 have HG := Lib.hid (fun (W : World) (hW : Below w.heap.size w W) => get_s ao n cap l classN W (hl.below hW) hFw (by decide))
 have HCl := Lib.hid (fun (n : ByteArray) (W : World) (hn : n.size ≤ 1000000000) (hW : Below w.heap.size w W) => class_s mt mc w0 cs n W (h.below hW) hn)
 have HMu := Lib.hid (fun (n : ByteArray) (W : World) (hn : n.size ≤ 1000000000) (hW : Below w.heap.size w W) => must_s mt mc w0 cs n W (h0.trans (hW.mono h0.size)) (h.below hW) hS hL hZ hF hn)
 have HMa := Lib.hid (fun (n : ByteArray) (W : World) (hn : n.size ≤ 1000000000) (hW : Below w.heap.size w W) => may_s mt mc w0 cs n W (h0.trans (hW.mono h0.size)) (h.below hW) hS hL hZ hF hn)
 have HQ := Lib.hid (And.intro (fun n => mustS_few hS hL hF n) (And.intro (fun n => mayS_few hS hL hF n) (And.intro (fun n s (hs : s ∈ mustS cs n) => mustS_small hZ hs) (fun n s (hs : s ∈ mayS cs n) => mayS_small hZ hs))))
 have HPS := Lib.hid (fun s (hs : s ∈ names l) => namesF_small hFw.small hs)
 have HE := Lib.hid (show fitsB cs l = ((vals l (lowS classN)).all (askB cs (names l)) && (memB (names l) classN && (names l).all (memB (allowL cs (vals l (lowS classN)))))) from rfl)
 obtain ⟨P, hPe⟩ : ∃ P, names l = P := ⟨_, rfl⟩
 obtain ⟨C, hCe⟩ : ∃ C, vals l (lowS classN) = C := ⟨_, rfl⟩
 obtain ⟨R, hRe⟩ : ∃ R, fitsB cs l = R := ⟨_, rfl⟩
 rw [hPe, hCe, hRe] at HE
 rw [hPe] at HN HPS hP
 rw [hCe] at HG hC
 rw [hRe]
 clear hPe hCe hRe h0 h hS hZ hF hl hFw
 have HCS := Lib.hid hC.2
 replace hC := hC.1
 have B1 := (Below.refl w.heap.size w).alloc (Nat.le_refl _) (.cells #[.map mt, .map mc] 88)
 have B2 := B1.alloc (by simp) (.map #[] 0)
 have G0 := setM_made (H := Unit) (w.alloc (.cells #[.map mt, .map mc] 88))
 have HB0 := Lib.hid B2
 have HM0 := Lib.hid (show ((w.alloc (.cells #[.map mt, .map mc] 88)).alloc (.map #[] 0)).cell? ⟨w.heap.size, 0, none⟩ = some (.map mt) ∧ ((w.alloc (.cells #[.map mt, .map mc] 88)).alloc (.map #[] 0)).cell? ⟨w.heap.size, 1, none⟩ = some (.map mc) from ⟨by go_simp, by go_simp⟩)
 have HG0 := Lib.hid G0
 have hmm := @run_makeMap Tryz.prog
 clear B1 B2 G0
 go_enter Tryz.func47, Tryz.ntmps47
 go_wp2_with fail
 refine (HN.out _ HB0.out).mono ?_
 rintro e w1 ⟨v, rfl, ⟨no, nn, nc, rfl, hP1⟩, hb⟩
 have hnn := hP1.1
 have hg1 := SetM.below HG0.out hb
 rw [World.size_alloc] at hg1
 have HG1 := Lib.hid hg1
 clear hg1
 have HM1 := Lib.hid (And.intro (cell_later hb HM0.out.1) (cell_later hb HM0.out.2))
 have hsz1 : w.heap.size + 1 < w1.heap.size := by have := hb.size; simp at this; omega
 have HB1 := Lib.hid (HB0.out.trans (hb.mono (by simp; omega)))
 have HP1 := Lib.hid hP1
 clear hb HG0 HM0 HB0 hP1
 go_wp2_with fail
 go_loopw [7, 20] (fun s7 i wr => ∃ (k : Nat) (D : DataW Unit), k ≤ nn ∧ i = .int .i64 k ∧ Hid (SetM wr (w.heap.size + 1) k D (P.take k)) ∧ Hid (StrsAt wr no nn nc P) ∧ Hid (wr.cell? ⟨w.heap.size, 0, none⟩ = some (.map mt) ∧ wr.cell? ⟨w.heap.size, 1, none⟩ = some (.map mc)) ∧ Hid (Below w.heap.size w wr ∧ w.heap.size + 1 < wr.heap.size)) (fun _ i _ => nn - (intOf i).toNat)
 case atStart => exact ⟨0, _, Nat.zero_le _, rfl, HG1, HP1, HM1, Lib.hid ⟨HB1.out, hsz1⟩⟩
 case round =>
  clear HG1 HP1 HM1 HB1 hsz1
  obtain ⟨k, D, hk, rfl, HGk, HPk, HMk, HBk⟩ := hrel
  by_cases hlt : k < nn
  ·obtain ⟨g, off, e, hg, hc⟩ := HPk.out.2.2.2 (by omega)
   subst e
   have hcell := hc k (by omega)
   clear hc
   obtain ⟨p, hp⟩ : ∃ x, partAt P k = x := ⟨_, rfl⟩
   have hps : p.size ≤ 1100000 := by rw [← hp]; exact HPS.out _ (part_mem P k (by omega))
   rw [hp] at hcell
   have HT := Lib.hid (show P.take (k + 1) = P.take k ++ [p] by rw [← hp]; exact take_snoc P k (by omega))
   clear hp
   obtain ⟨w', hrun, HG', hgr⟩ := HGk.out.store p (by unfold maxLen; omega) (by unfold maxLen; omega)
   have HG2 := Lib.hid HG'
   have HP2 := Lib.hid (strs_turned HPk.out HGk.out hgr)
   have HM2 := Lib.hid (And.intro (cell_turned HMk.out.1 hgr (by show w.heap.size ≠ w.heap.size + 1; omega)) (cell_turned HMk.out.2 hgr (by show w.heap.size ≠ w.heap.size + 1; omega)))
   have HB2 := Lib.hid (And.intro (HBk.out.1.grown hgr (by have := HBk.out.2; omega) (fun j hj => by have := Option.some.inj hj; omega)) (Nat.lt_of_lt_of_le HBk.out.2 hgr.size))
   clear HG' hgr
   have d1 : (k : Int) < (nn : Int) := by omega
   go_wp2_with fail
   go_roundw
   case rel => exact ⟨k + 1, _, by omega, by go_num, by rw [HT.out]; exact HG2, HP2, HM2, HB2⟩
   case measure => simp [intOf]; omega
  ·obtain rfl : k = nn := by omega
   rw [List.take_of_length_le (by omega)] at HGk
   have d1 : ¬ (k : Int) < (k : Int) := by omega
   have hsz := HBk.out.2
   have G2 := setM_made (H := Unit) wr
   obtain ⟨w5, hrun5, hG5, hg5⟩ := G2.store classN (by decide) (by unfold maxLen; omega)
   have hal := (Below.refl wr.heap.size wr).alloc (Nat.le_refl _) (.map #[] 0)
   have HG5 := Lib.hid hG5
   have HP5 := Lib.hid ((SetM.below HGk.out hal).kept hg5 (by intro e; have := Option.some.inj e; omega))
   have HM5 := Lib.hid (And.intro (cell_turned (cell_later hal HMk.out.1) hg5 (by show w.heap.size ≠ wr.heap.size; omega)) (cell_turned (cell_later hal HMk.out.2) hg5 (by show w.heap.size ≠ wr.heap.size; omega)))
   have HB5 := Lib.hid (show Below w.heap.size w w5 ∧ wr.heap.size < w5.heap.size from ⟨(HBk.out.1.trans (hal.mono (by omega))).grown hg5 (by simp; omega) (fun j hj => by have := Option.some.inj hj; omega), by have := hg5.size; simp at this; omega⟩)
   clear G2 hG5 hg5 hal
   unfold classN at hrun5
   go_wp2_with fail
   clear hrun5 hmm
   refine (HG.out w5 HB5.out.1).mono ?_
   rintro e w6 ⟨v, rfl, ⟨co, cn, cc, rfl, hC6⟩, hb⟩
   have hcn := hC6.1
   have HC6 := Lib.hid hC6
   have HG6 := Lib.hid (SetM.below HG5.out hb)
   have HP6 := Lib.hid (SetM.below HP5.out hb)
   have HM6 := Lib.hid (And.intro (cell_later hb HM5.out.1) (cell_later hb HM5.out.2))
   have HB6 := Lib.hid (show Below w.heap.size w w6 ∧ wr.heap.size < w6.heap.size from ⟨HB5.out.1.trans (hb.mono HB5.out.1.size), Nat.lt_of_lt_of_le HB5.out.2 hb.size⟩)
   clear hb hC6 HG5 HP5 HM5 HB5 HGk HPk HMk HBk
   obtain ⟨ma, hma⟩ : ∃ x, wr.heap.size = x := ⟨_, rfl⟩
   rw [hma] at HG6 HB6 hsz ⊢
   clear hma
   go_wp2_with fail
   go_loopw [10, 11, 12, 13, 15, 32] (fun s10 s11 s12 s13 s15 i wq => ∃ (j N : Nat) (D' : DataW Unit), j ≤ cn ∧ i = .int .i64 j ∧ N ≤ 1 + j * 128000 ∧ Hid ((C.take j).all (askB cs P) = true) ∧ Hid (SetM wq ma N D' (allowL cs (C.take j))) ∧ Hid (SetM wq (w.heap.size + 1) k D P) ∧ Hid (StrsAt wq co cn cc C) ∧ Hid (wq.cell? ⟨w.heap.size, 0, none⟩ = some (.map mt) ∧ wq.cell? ⟨w.heap.size, 1, none⟩ = some (.map mc)) ∧ Hid (Below w.heap.size w wq ∧ ma < wq.heap.size)) (fun _ _ _ _ _ i _ => cn - (intOf i).toNat)
   case atStart => exact ⟨0, 1, _, Nat.zero_le _, rfl, by omega, Lib.hid rfl, HG6, HP6, HC6, HM6, HB6⟩
   case round =>
    clear HG6 HP6 HC6 HM6 HB6
    obtain ⟨j, N, D', hj, rfl, hN, HA, HGj, HPj, HCj, HMj, HBj⟩ := hrel
    obtain ⟨m0, m1⟩ := HMj.out
    by_cases hlt2 : j < cn
    ·obtain ⟨g, off, e, hg, hc⟩ := HCj.out.2.2.2 (by omega)
     subst e
     have hcell := hc j (by omega)
     clear hc
     have hps := HCS.out _ (part_mem C j (by omega))
     have HTa := Lib.hid (allowL_take cs C j (by omega))
     have HTt := Lib.hid (show askB cs P (partAt C j) = true → (C.take (j + 1)).all (askB cs P) = true from fun h => all_take HA.out (by omega) h)
     have HTf := Lib.hid (show askB cs P (partAt C j) = false → R = false from fun h => by rw [HE.out, all_false (by omega) h]; rfl)
     obtain ⟨p, hp⟩ : ∃ x, partAt C j = x := ⟨_, rfl⟩
     rw [hp] at hcell hps HTa HTt HTf
     clear hp
     have hfs : (foldS p).size ≤ 1100000 := Nat.le_trans (foldS_size p) hps
     have HASK := Lib.hid (show askB cs P p = ((clOf cs (foldS p)).isSome && (mustS cs (foldS p)).all (memB P)) from rfl)
     have d2 : (j : Int) < (cn : Int) := by omega
     go_wp2_with fail
     refine (fold_s p _ (by omega)).mono ?_
     rintro e w7 ⟨rfl, hb⟩
     obtain ⟨f, hf⟩ : ∃ f, foldS p = f := ⟨_, rfl⟩
     rw [hf] at HTa hfs HASK ⊢
     clear hf
     have HB7 := Lib.hid (show Below w.heap.size w w7 ∧ w.heap.size + 1 < w7.heap.size from ⟨HBj.out.1.trans (hb.mono HBj.out.1.size), by have := HBj.out.2; have := hb.size; omega⟩)
     have HK7 := Lib.hid hb
     have m0 := cell_later hb m0
     have m1 := cell_later hb m1
     have hsz7 : w.heap.size < w7.heap.size := by have := HB7.out.2; omega
     clear hb
     go_wp2_with fail
     refine (HCl.out f _ (by omega) HB7.out.1).mono ?_
     rintro e w8 ⟨⟨cl, _, _⟩, a1, p1, q1, a2, p2, q2, rfl, rfl, _, rfl, hb⟩
     dsimp only
     obtain ⟨ok, hok⟩ : ∃ b, (clOf cs f).isSome = b := ⟨_, rfl⟩
     rw [hok] at HASK ⊢
     clear hok
     generalize cl.name = xn
     generalize cl.super = xs
     have hal := (Below.refl w8.heap.size w8).alloc (Nat.le_refl _) (.cells #[.string xn, .string xs, .slice a1 p1 q1, .slice a2 p2 q2] 106)
     have HK8 := Lib.hid (HK7.out.trans (hb.mono HK7.out.size))
     have HB8 := Lib.hid (show Below w.heap.size w w8 ∧ w.heap.size + 1 < w8.heap.size from ⟨HB7.out.1.trans (hb.mono HB7.out.1.size), by have := HB7.out.2; have := hb.size; omega⟩)
     have HK9 := Lib.hid (HK8.out.trans (hal.mono HK8.out.size))
     have HB9 := Lib.hid (HB8.out.1.trans (hal.mono HB8.out.1.size))
     have m0 := cell_later hb m0
     have m1 := cell_later hb m1
     have hsz8 : w.heap.size < w8.heap.size := by have := HB8.out.2; omega
     clear hal hb hsz7 HB7 HK7
     cases ok
     ·have HR := Lib.hid (HTf.out (HASK.out.trans rfl))
      go_wp2_with fail
      go_ret
      exact ⟨by rw [HR.out]; rfl, HB9.out⟩
     ·have hask : askB cs P p = (mustS cs f).all (memB P) := HASK.out.trans rfl
      go_wp2_with fail
      refine (HMu.out f _ (by omega) HB9.out).mono ?_
      rintro e w10 ⟨u, rfl, hou, hb⟩
      obtain ⟨uo, uc, rfl, hus⟩ := strs_own hou rfl
      have HK10 := Lib.hid (HK9.out.trans (hb.mono HK9.out.size))
      have HB10 := Lib.hid (HB9.out.trans (hb.mono HB9.out.size))
      have hal2 := (Below.refl w8.heap.size w8).alloc (Nat.le_refl _) (.cells #[.string xn, .string xs, .slice a1 p1 q1, .slice a2 p2 q2] 106)
      have m0 := cell_later hb (cell_later hal2 m0)
      have m1 := cell_later hb (cell_later hal2 m1)
      have HCo := Lib.hid (contains_s (w.heap.size + 1) k D P uo _ uc (mustS cs f) w10 (SetM.below HPj.out HK10.out) hus (fun s hs => HQ.out.2.2.1 f s hs))
      obtain ⟨cb, hcb⟩ : ∃ b, (mustS cs f).all (memB P) = b := ⟨_, rfl⟩
      rw [hcb] at hask HCo
      clear hb hou hus hal2 hcb HK9 HK8
      go_wp2_with fail
      refine HCo.out.mono ?_
      rintro e w11 ⟨rfl, rfl⟩
      cases cb
      ·have HR := Lib.hid (HTf.out hask)
       go_wp2_with fail
       go_ret
       exact ⟨by rw [HR.out]; rfl, HB10.out⟩
      ·have HAk := Lib.hid (HTt.out hask)
       clear hask
       go_wp2_with fail
       refine (HMa.out f _ (by omega) HB10.out).mono ?_
       rintro e w12 ⟨u, rfl, hou, hb⟩
       obtain ⟨mo, mcap, rfl, hms⟩ := strs_own hou rfl
       have hml := HQ.out.2.1 f
       have hmz := Lib.hid (HQ.out.2.2.2 f)
       obtain ⟨M, hM⟩ : ∃ M, mayS cs f = M := ⟨_, rfl⟩
       rw [hM] at hms hml hmz HTa ⊢
       have HK12 := Lib.hid (HK10.out.trans (hb.mono HK10.out.size))
       have HS12 := Lib.hid hms
       have HG12 := Lib.hid (SetM.below HGj.out HK12.out)
       have HP12 := Lib.hid (SetM.below HPj.out HK12.out)
       have HC12 := Lib.hid (HCj.out.below HK12.out)
       have HM12 := Lib.hid (And.intro (cell_later hb m0) (cell_later hb m1))
       have HB12 := Lib.hid (show Below w.heap.size w w12 ∧ ma < w12.heap.size from ⟨HB10.out.trans (hb.mono HB10.out.size), Nat.lt_of_lt_of_le HBj.out.2 HK12.out.size⟩)
       clear hb hou hms hM m0 m1 HK10 HB10 HGj HPj HCj HMj HBj HB9 HB8 HCo hsz8
       have hNb : N ≤ 12800000001 := by omega
       go_wp2_with fail
       go_loopw [15, 58] (fun s15 i wz => ∃ (q : Nat) (D2 : DataW Unit), q ≤ M.length ∧ i = .int .i64 q ∧ Hid (SetM wz ma (N + q) D2 (allowL cs (C.take j) ++ M.take q)) ∧ Hid (SetM wz (w.heap.size + 1) k D P) ∧ Hid (StrsAt wz mo M.length mcap M) ∧ Hid (StrsAt wz (some ⟨g, off, none⟩) cn cc C) ∧ Hid (wz.cell? ⟨w.heap.size, 0, none⟩ = some (.map mt) ∧ wz.cell? ⟨w.heap.size, 1, none⟩ = some (.map mc)) ∧ Hid (Below w.heap.size w wz ∧ ma < wz.heap.size)) (fun _ i _ => M.length - (intOf i).toNat)
       case atStart => exact ⟨0, D', Nat.zero_le _, rfl, Lib.hid (by rw [List.take_zero, List.append_nil]; exact HG12.out), HP12, HS12, HC12, HM12, HB12⟩
       case round =>
        clear HG12 HP12 HS12 HC12 HM12 HB12
        obtain ⟨q, D2, hq, rfl, HGz, HPz, HSz, HCz, HMz, HBz⟩ := hrel
        by_cases hlt3 : q < M.length
        ·obtain ⟨g2, off2, e, hg2, hc2⟩ := HSz.out.2.2.2 (by omega)
         subst e
         have hcell2 := hc2 q hlt3
         clear hc2
         have hys := hmz.out _ (part_mem M q hlt3)
         have HTq := Lib.hid (show M.take (q + 1) = M.take q ++ [partAt M q] from take_snoc M q hlt3)
         obtain ⟨y, hy⟩ : ∃ x, partAt M q = x := ⟨_, rfl⟩
         rw [hy] at hcell2 hys HTq
         clear hy
         obtain ⟨w', hrun, HG', hgr⟩ := HGz.out.store y (by unfold maxLen; omega) (by unfold maxLen; omega)
         have HG2 := Lib.hid HG'
         have HS2 := Lib.hid (strs_turned HSz.out HGz.out hgr)
         have HC2 := Lib.hid (strs_turned HCz.out HGz.out hgr)
         have HP2 := Lib.hid (HPz.out.kept hgr (by intro e; have := Option.some.inj e; omega))
         have HM2 := Lib.hid (And.intro (cell_turned HMz.out.1 hgr (by show w.heap.size ≠ ma; omega)) (cell_turned HMz.out.2 hgr (by show w.heap.size ≠ ma; omega)))
         have HB2 := Lib.hid (And.intro (HBz.out.1.grown hgr (by have := HBz.out.2; omega) (fun j hj => by have := Option.some.inj hj; omega)) (Nat.lt_of_lt_of_le HBz.out.2 hgr.size))
         clear HG' hgr
         have d3 : (q : Int) < (M.length : Int) := by omega
         go_wp2_with fail
         go_roundw
         case rel => exact ⟨q + 1, _, by omega, by go_num, Lib.hid (by rw [HTq.out, ← List.append_assoc, ← Nat.add_assoc]; exact HG2.out), HP2, HS2, HC2, HM2, HB2⟩
         case measure => simp [intOf]; omega
        ·obtain rfl : q = M.length := by omega
         rw [List.take_length] at HGz
         have d3 : ¬ (M.length : Int) < (M.length : Int) := by omega
         go_wp2_with fail
         go_roundw
         case rel => exact ⟨j + 1, N + M.length, D2, by omega, by go_num, by omega, HAk, Lib.hid (by rw [HTa.out]; exact HGz.out), HPz, HCz, HMz, HBz⟩
         case measure => simp [intOf]; omega
    ·obtain rfl : j = cn := by omega
     rw [List.take_of_length_le (by omega)] at HGj HA
     have d2 : ¬ (j : Int) < (j : Int) := by omega
     have hlook := HPj.out.look classN (by decide)
     have HE2 := Lib.hid (show R = (memB P classN && P.all (memB (allowL cs C))) from HE.out.trans (by rw [HA.out]; rfl))
     obtain ⟨pc, hpc⟩ : ∃ b, memB P classN = b := ⟨_, rfl⟩
     rw [hpc] at hlook HE2
     unfold classN at hlook
     clear hpc
     cases pc
     ·have HE3 := Lib.hid (show R = false from HE2.out.trans rfl)
      go_wp2_with fail
      go_ret
      exact ⟨by rw [HE3.out]; rfl, HBj.out.1⟩
     ·have HE3 := Lib.hid (show R = P.all (memB (allowL cs C)) from HE2.out.trans rfl)
      go_wp2_with fail
      refine (HN.out _ HBj.out.1).mono ?_
      rintro e w7 ⟨v, rfl, ⟨o7, n7, c7, rfl, hP7⟩, hb⟩
      have HC7 := Lib.hid (contains_s _ N D' (allowL cs C) o7 n7 c7 P w7 (SetM.below HGj.out hb) hP7 (fun s hs => Nat.le_trans (HPS.out s hs) (by decide)))
      have HB7 := Lib.hid (HBj.out.1.trans (hb.mono HBj.out.1.size))
      clear hb hP7 m0 m1
      go_wp2_with fail
      refine HC7.out.mono ?_
      rintro e w8 ⟨rfl, rfl⟩
      go_wp2_with fail
      go_ret
      exact ⟨by rw [HE3.out]; rfl, HB7.out⟩
def vldE (T : List Ty) (cs : List Cl) (l : List At) : Int :=
 if chkA l ≠ 0 then chkA l else if firstE (fun j => chkAt T (atD l j)) l.length ≠ 0 then firstE (fun j => chkAt T (atD l j)) l.length else if fitsB cs l = true then 0 else 9
structure FewE (l : List At) : Prop where
 few : Few l
 fewV : FewV l
 vals : (vals l (lowS classN)).length ≤ 100000 ∧ ∀ v ∈ vals l (lowS classN), v.size ≤ 1100000
 names : (names l).length ≤ 3000
set_option maxHeartbeats 16000000 in
theorem validF_s (v : Value) (ts : List Ty) (cs : List Cl) (en : ByteArray) (ao : Option Addr) (n cap : Nat) (l : List At) (w : World) (h : SchV w v ts cs) (hl : AttrsAt w ao n cap l) (hF : FewE l) (ho : IntOk w) :
  Calls Tryz.prog 17 #[v, .agg #[.string en, .slice ao n cap]] w fun e w' => e = .returned (.int .i64 (vldE (soundT ts cs) (soundC ts cs) l)) ∧ Below w.heap.size w w' := by
 have h' := h
 obtain ⟨so, k0, scap, bo, m0, dap, rfl, _, _, _, hz⟩ := h'
 have HZ := Lib.hid (smC_sound (ts := ts) hz)
 have hb0 : Below w.heap.size w ((w.alloc (.cells #[.slice so k0 scap, .slice bo m0 dap] 25)).alloc (.cells #[.string en, .slice ao n cap] 28)) := ((Below.refl _ _).alloc (Nat.le_refl _) _).alloc (by simp) _
 have hbw : Below w.heap.size w ((w.alloc (.cells #[.slice so k0 scap, .slice bo m0 dap] 25)).alloc (.cells #[.string en, .slice ao n cap] 28)) := hb0
 have HB0 := Lib.hid hb0
 have HCk := Lib.hid (check_s ao n cap l _ (hl.below hb0) hF.few.small hF.fewV)
 have HAcc := Lib.hid (fun (W : World) (hW : Below w.heap.size w W) => accepted_s _ ts cs W (h.below hW))
 have HL := Lib.hid hl
 have HO := Lib.hid ho
 have HF := Lib.hid hF
 have hln := hl.1
 have hcap := hl.2.1
 have hmx := hl.2.2.1
 unfold maxLen at hmx
 have hE : vldE (soundT ts cs) (soundC ts cs) l = if chkA l ≠ 0 then chkA l else if firstE (fun j => chkAt (soundT ts cs) (atD l j)) l.length ≠ 0 then firstE (fun j => chkAt (soundT ts cs) (atD l j)) l.length else if fitsB (soundC ts cs) l = true then 0 else 9 := rfl
 obtain ⟨R, hR⟩ : ∃ R, vldE (soundT ts cs) (soundC ts cs) l = R := ⟨_, rfl⟩
 obtain ⟨ce, hce⟩ : ∃ c, chkA l = c := ⟨_, rfl⟩
 rw [hR, hce] at hE
 rw [hR]
 rw [hce] at HCk
 have HE := Lib.hid hE
 clear h hb0 hbw hl hF hz hR hce hE ho
 go_enter Tryz.func17, Tryz.ntmps17
 go_wp2_with fail
 refine HCk.out.mono ?_
 rintro e w1 ⟨rfl, hb⟩
 have q0 : w1.cell? ⟨w.heap.size, 0, none⟩ = some (.slice so k0 scap) := cell_later hb (by go_simp)
 have q1 : w1.cell? ⟨w.heap.size, 1, none⟩ = some (.slice bo m0 dap) := cell_later hb (by go_simp)
 have q2 : w1.cell? ⟨w.heap.size + 1, 1, none⟩ = some (.slice ao n cap) := cell_later hb (by go_simp)
 have HB1 := Lib.hid (show Below w.heap.size w w1 ∧ w.heap.size + 1 < w1.heap.size from ⟨HB0.out.trans (hb.mono (by simp; omega)), by have := hb.size; simp at this; omega⟩)
 clear hb HB0 HCk
 by_cases hc : ce = 0
 ·subst hc
  have HE1 := Lib.hid (show R = if firstE (fun j => chkAt (soundT ts cs) (atD l j)) l.length ≠ 0 then firstE (fun j => chkAt (soundT ts cs) (atD l j)) l.length else if fitsB (soundC ts cs) l = true then 0 else 9 from HE.out.trans (if_neg (by simp)))
  go_wp2_with fail
  refine (HAcc.out w1 HB1.out.1).mono ?_
  rintro e w2 ⟨tv, rfl, ⟨m1, m2, rfl, hT, hC⟩, hb⟩
  have q2 := cell_later hb q2
  have HB2 := Lib.hid (show Below w.heap.size w w2 ∧ w.heap.size + 1 < w2.heap.size from ⟨HB1.out.1.trans (hb.mono HB1.out.1.size), Nat.lt_of_lt_of_le HB1.out.2 hb.size⟩)
  have hsz2 := HB2.out.2
  have hal := (Below.refl w2.heap.size w2).alloc (Nat.le_refl _) (.cells #[.map m1, .map m2] 88)
  have HI := Lib.hid (show (w2.alloc (.cells #[.map m1, .map m2] 88)).cell? ⟨w2.heap.size, 0, none⟩ = some (.map m1) ∧ (w2.alloc (.cells #[.map m1, .map m2] 88)).cell? ⟨w2.heap.size, 1, none⟩ = some (.map m2) ∧ (w2.alloc (.cells #[.map m1, .map m2] 88)).cell? ⟨w.heap.size + 1, 1, none⟩ = some (.slice ao n cap) from ⟨by go_simp, by go_simp, cell_later hal q2⟩)
  have HT := Lib.hid (And.intro hT hC)
  have HB3 := Lib.hid (show Below w.heap.size w (w2.alloc (.cells #[.map m1, .map m2] 88)) ∧ Below w2.heap.size w2 (w2.alloc (.cells #[.map m1, .map m2] 88)) from ⟨HB2.out.1.trans (hal.mono HB2.out.1.size), hal⟩)
  clear hb hT hC HAcc hal q0 q1 HB1
  go_wp2_with fail
  go_loopw [8, 9, 21] (fun s8 s9 i wr => ∃ (j : Nat), j ≤ n ∧ i = .int .i64 j ∧ Hid (∀ q, q < j → chkAt (soundT ts cs) (atD l q) = 0) ∧ Hid (wr.cell? ⟨w2.heap.size, 0, none⟩ = some (.map m1) ∧ wr.cell? ⟨w2.heap.size, 1, none⟩ = some (.map m2) ∧ wr.cell? ⟨w.heap.size + 1, 1, none⟩ = some (.slice ao n cap)) ∧ Hid (Below w.heap.size w wr ∧ Below w2.heap.size w2 wr ∧ w2.heap.size < wr.heap.size)) (fun _ _ i _ => n - (intOf i).toNat)
  case atStart => exact ⟨0, Nat.zero_le _, rfl, Lib.hid (fun q hq => absurd hq (Nat.not_lt_zero _)), HI, Lib.hid ⟨HB3.out.1, HB3.out.2, by simp⟩⟩
  case round =>
   clear HI HB3 q2
   obtain ⟨j, hj, rfl, HA, HI, HB⟩ := hrel
   obtain ⟨i0, i1, i2⟩ := HI.out
   by_cases hlt : j < n
   ·have hj1 : j + 1 ≤ n := hlt
    have HJ := Lib.hid hlt
    obtain ⟨b, off, e, hbl, hat⟩ := HL.out.2.2.2 (by omega)
    subst e
    obtain ⟨c0, vo, vn, vc, c1, hv⟩ := (hat j hlt)
    have hsm := HF.out.few.small _ (at_mem l j (by omega))
    obtain ⟨a, ha⟩ : ∃ a, atD l j = a := ⟨_, rfl⟩
    rw [ha] at c0 hv hsm
    have c0 := cell_later HB.out.1 c0
    have c1 := cell_later HB.out.1 c1
    have hsz := HB.out.2.2
    have hsz3 : w.heap.size + 1 < wr.heap.size := by omega
    have hal := (Below.refl wr.heap.size wr).alloc (Nat.le_refl _) (.cells #[.string a.1, .slice vo vn vc] 41)
    have hBa := HB.out.1.trans (hal.mono HB.out.1.size)
    have HC := Lib.hid (checkAttr_s m1 m2 (soundT ts cs) a vo vn vc _ (HT.out.1.below (HB.out.2.1.trans (hal.mono HB.out.2.1.size))) (hv.below hBa) hsm.1 hsm.2 (HO.out.below hBa))
    have HBA := Lib.hid hBa
    have HI1 := Lib.hid (And.intro (cell_later hal i0) (And.intro (cell_later hal i1) (cell_later hal i2)))
    have HW1 := Lib.hid (show Below w2.heap.size w2 (wr.alloc (.cells #[.string a.1, .slice vo vn vc] 41)) from HB.out.2.1.trans (hal.mono HB.out.2.1.size))
    have HAa := Lib.hid ha
    obtain ⟨ev, hev⟩ : ∃ e, chkAt (soundT ts cs) a = e := ⟨_, rfl⟩
    rw [hev] at HC
    have HEV := Lib.hid hev
    have d1 : (j : Int) < (n : Int) := by omega
    clear hal hBa hv ha hev
    go_wp2_with fail
    refine HC.out.mono ?_
    rintro e w3 ⟨rfl, hb⟩
    have HI3 := Lib.hid (And.intro (cell_later hb HI1.out.1) (And.intro (cell_later hb HI1.out.2.1) (cell_later hb HI1.out.2.2)))
    have HB3 := Lib.hid (show Below w.heap.size w w3 ∧ Below w2.heap.size w2 w3 ∧ w2.heap.size < w3.heap.size from ⟨HBA.out.trans (hb.mono HBA.out.size), HW1.out.trans (hb.mono HW1.out.size), by have := hb.size; simp at this; omega⟩)
    clear hb HC i0 i1 i2 c0 c1 HI1 HBA HW1
    by_cases he : ev = 0
    ·subst he
     go_wp2_with fail
     go_roundw
     case rel =>
      refine ⟨j + 1, HJ.out, by go_num, Lib.hid fun q hq => ?_, HI3, HB3⟩
      rcases Nat.lt_or_ge q j with h | h
      ·exact HA.out q h
      ·obtain rfl : q = j := by omega
       rw [HAa.out]; exact HEV.out
     case measure => have hJ := HJ.out; simp [intOf]; omega
    ·have hfe : firstE (fun j => chkAt (soundT ts cs) (atD l j)) l.length = ev := by
      rw [firstE_hit (k := j) HA.out (by show chkAt (soundT ts cs) (atD l j) ≠ 0; rw [HAa.out, HEV.out]; exact he) (by omega)]
      show chkAt (soundT ts cs) (atD l j) = ev
      rw [HAa.out]; exact HEV.out
     have HE2 := Lib.hid (show R = ev from HE1.out.trans (by rw [hfe, if_pos he]))
     clear hfe
     go_wp2_with fail
     go_ret
     exact ⟨by rw [HE2.out]; rfl, HB3.out.1⟩
   ·obtain rfl : j = n := by omega
    have d1 : ¬ (j : Int) < (j : Int) := by omega
    have hfe : firstE (fun j => chkAt (soundT ts cs) (atD l j)) l.length = 0 := firstE_zero (fun q hq => HA.out q (by omega))
    have HE2 := Lib.hid (show R = if fitsB (soundC ts cs) l = true then 0 else 9 from HE1.out.trans (by rw [hfe, if_neg (by simp)]))
    obtain ⟨fb, hfb⟩ : ∃ b, fitsB (soundC ts cs) l = b := ⟨_, rfl⟩
    have HC := Lib.hid (fits_s m1 m2 w2 (soundC ts cs) ao j cap l _ HB.out.2.1 (HT.out.2.below HB.out.2.1) (sound_soundC ts cs) (Nat.le_trans (soundC_len ts cs) (by decide)) HZ.out (fewC_sound ts cs) (HL.out.below HB.out.1) HF.out.few HF.out.vals HF.out.names)
    rw [hfb] at HE2 HC
    clear hfe hfb
    go_wp2_with fail
    refine HC.out.mono ?_
    rintro e w3 ⟨rfl, hb⟩
    have HB3 := Lib.hid (HB.out.1.trans (hb.mono HB.out.1.size))
    clear hb HC i0 i1 i2
    cases fb
    ·have HE3 := Lib.hid (show R = 9 from HE2.out.trans (by simp))
     go_wp2_with fail
     go_ret
     exact ⟨by rw [HE3.out]; rfl, HB3.out⟩
    ·have HE3 := Lib.hid (show R = 0 from HE2.out.trans (by simp))
     go_wp2_with fail
     go_ret
     exact ⟨by rw [HE3.out]; rfl, HB3.out⟩
 ·have HE1 := Lib.hid (show R = ce from HE.out.trans (if_pos hc))
  go_wp2_with fail
  go_ret
  exact ⟨by rw [HE1.out]; rfl, HB1.out.1⟩
end Go.Proofs.YtonfkhkalodldabGreatDoor
end

section
set_option maxRecDepth 100000
namespace Go.Proofs.YtonfkhkalodldabGreatDoor
open Go.RowKit Go.PlainAid
structure AtS (a : At) : Prop where
 nm : a.1.size ≤ 300
 len : a.2.length ≤ 20
 each : ∀ v ∈ a.2, v.size ≤ 300
structure LightE (l : List At) : Prop where
 len : l.length ≤ 40
 each : ∀ a ∈ l, AtS a
theorem LightE.small {l : List At} (h : LightE l) : SmallA l := fun a ha => by
 have k := h.each a ha
 have k1 := k.nm
 exact ⟨by omega, fun v hv => by have := k.each v hv; omega⟩
theorem sumV_le : ∀ {l : List At}, (∀ a ∈ l, a.2.length ≤ 20) → sumV l ≤ l.length * 20
 | [], _ => by simp [sumV]
 | a :: l, h => by
  have h1 := h a (by simp)
  have h2 := sumV_le (l := l) (fun x hx => h x (by simp [hx]))
  rw [sumV_cons, List.length_cons]; omega
theorem LightE.few {l : List At} (h : LightE l) : Few l :=
 ⟨h.small, by have h1 := sumV_le (fun a ha => (h.each a ha).len); have h2 := h.len; omega, by have := h.len; omega⟩
theorem digs_S {l : List UInt8} (h : digsB l = true) : digS l = true := by
 obtain ⟨h1, h2⟩ := digs_parts h
 cases l with
 | nil => exact absurd rfl h1
 | cons c r => unfold digS; rw [h2]; rfl
theorem dec_S {l : List UInt8} (h : decB l = true) : digS (stripL l) = true := by
 unfold decB at h
 rw [Bool.or_eq_true] at h
 rcases h with h | h
 ·obtain rfl := of_decide_eq_true h; decide +kernel
 ·exact digs_S h
theorem itoa_parts (n : Int) (h0 : -9223372036854775808 ≤ n) (h1 : n ≤ 9223372036854775807) : decB (Lib.itoa n) = true ∧ Lib.atoiAll (Lib.itoa n) = .ok n := by
 have h := readI_itoa n h0 h1
 unfold readI at h
 cases hd : decB (Lib.itoa n) with
 | false => rw [hd] at h; simp at h
 | true =>
  rw [hd] at h
  refine ⟨rfl, ?_⟩
  cases ha : Lib.atoiAll (Lib.itoa n) with
  | ok v => rw [ha] at h; simp at h; rw [h]
  | range => rw [ha] at h; simp at h
  | _ => rw [ha] at h; simp at h
theorem numS_itoa (n : Int) (h0 : -9223372036854775808 ≤ n) (h1 : n ≤ 9223372036854775807) : numS (ofL (Lib.itoa n)) = some n := by
 obtain ⟨hd, ha⟩ := itoa_parts n h0 h1
 have e : (ofL (Lib.itoa n)).data.toList = Lib.itoa n := rfl
 unfold numS
 rw [e, if_pos (dec_S hd), ha]
theorem atoi_range64 {l : List UInt8} {v : Int} (h : Lib.atoiAll l = .ok v) : -9223372036854775808 ≤ v ∧ v ≤ 9223372036854775807 := Lib.atoiAll_bounds h
theorem numS_range {s : ByteArray} {n : Int} (h : numS s = some n) : -9223372036854775808 ≤ n ∧ n ≤ 9223372036854775807 := by
 unfold numS at h
 split at h
 ·cases ha : Lib.atoiAll s.data.toList with
  | ok v => rw [ha] at h; obtain rfl := Option.some.inj h; exact atoi_range64 ha
  | _ => rw [ha] at h; simp at h
 ·cases h
theorem form_again {x : Int} {v f : ByteArray} (h : formS x v = some f) : formS x f = some f := by
 unfold formS at h ⊢
 by_cases h1 : x = 1
 ·rw [if_pos h1] at h ⊢
  obtain rfl := Option.some.inj h
  rw [foldS_fold]
 rw [if_neg h1] at h ⊢
 by_cases h2 : x = 2
 ·rw [if_pos h2]
 rw [if_neg h2] at h ⊢
 by_cases h3 : x = 3
 ·rw [if_pos h3] at h ⊢
  cases hn : numS v with
  | none => rw [hn] at h; cases h
  | some n =>
   rw [hn] at h
   obtain rfl := Option.some.inj h
   have hr := numS_range hn
   rw [numS_itoa n hr.1 hr.2]; rfl
 rw [if_neg h3] at h ⊢
 by_cases h4 : x = 4
 ·rw [if_pos h4] at h ⊢
  by_cases hc : Nam.cleanE v = 0
  ·rw [if_pos hc] at h
   obtain rfl := Option.some.inj h
   obtain ⟨_, e1, e2⟩ := Nam.clean_again hc
   rw [if_pos e2, e1]
  ·rw [if_neg hc] at h; cases h
 rw [if_neg h4] at h ⊢
 unfold truthS at h
 by_cases ht : lowS v = trueS
 ·rw [if_pos ht] at h
  obtain rfl := Option.some.inj h
  decide +kernel
 ·rw [if_neg ht] at h
  by_cases hf : lowS v = falseS
  ·rw [if_pos hf] at h
   obtain rfl := Option.some.inj h
   decide +kernel
  ·rw [if_neg hf] at h; cases h
theorem norm_parts {x : Int} {v f : ByteArray} (h : normS x v = some f) : formS x v = some f ∧ cleanB v = true ∧ cleanB f = true := by
 unfold normS at h
 cases e : formS x v with
 | none => rw [e] at h; cases h
 | some g =>
  rw [e] at h
  simp only [Option.bind_some] at h
  split at h
  ·rename_i hc
   obtain rfl := Option.some.inj h
   exact ⟨rfl, hc⟩
  ·cases h
theorem norm_again {x : Int} {v f : ByteArray} (h : normS x v = some f) : normS x f = some f := by
 obtain ⟨h1, h2, h3⟩ := norm_parts h
 unfold normS
 rw [form_again h1]
 simp only [Option.bind_some]
 rw [if_pos ⟨h3, h3⟩]
def Kb (W : World) (b : Nat) (o : Obj) : Prop := W.heap[b]? = some o
theorem Kb.big {W : World} {b : Nat} {o : Obj} (h : Kb W b o) : b < W.heap.size := by
 rcases Nat.lt_or_ge b W.heap.size with k | k
 ·exact k
 ·unfold Kb at h; rw [Array.getElem?_eq_none k] at h; cases h
theorem Kb.step {W V : World} {b : Nat} {o : Obj} (h : Kb W b o) (hb : Below W.heap.size W V) : Kb V b o := (hb.block b h.big).trans h
theorem kbl_new (W : World) (o : Obj) : Kb (W.alloc o) W.heap.size o := heap_alloc_new W o
theorem Kb.cell {W : World} {b i : Nat} {c : Array Value} {t : TypeId} {v : Value} (h : Kb W b (.cells c t)) (hv : c[i]? = some v) : W.cell? ⟨b, i, none⟩ = some v := heap_cell h hv
theorem Kb.set {W : World} {b : Nat} {o : Obj} (h : Kb W b o) (a : Addr) (u : Value) (hn : b ≠ a.block) : Kb (W.setCell a u) b o := (heap_setCell_other W a b u hn).trans h
theorem strs_kb {W : World} {b n : Nat} {l : List ByteArray} (h : Kb W b (.cells (scells l).toArray 9)) (hn : l.length = n) (hl : n ≤ maxLen) : StrsAt W (some ⟨b, 0, none⟩) n n l :=
 ⟨hn, Nat.le_refl _, hl, fun _ => ⟨b, 0, rfl, h.big, fun j hj => by
  rw [Nat.zero_add]
  refine h.cell ?_
  unfold scells partAt
  rw [List.getElem?_toArray, List.getElem?_map, List.getD_eq_getElem?_getD, List.getElem?_eq_getElem (by omega)]; rfl⟩⟩
theorem smT_dec {ts : List Ty} (h : ts.all (fun t => decide (t.name.size ≤ 1000)) = true) : SmT ts := fun t ht => by
 have := of_decide_eq_true (List.all_eq_true.1 h t ht); omega
theorem smC_dec {cs : List Cl} (h : cs.all (fun c => decide (c.name.size ≤ 1000) && decide (c.super.size ≤ 1000) && c.must.all (fun s => decide (s.size ≤ 1000)) && c.may.all (fun s => decide (s.size ≤ 1000))) = true) : SmC cs := fun c hc => by
 have h := List.all_eq_true.1 h c hc
 simp only [Bool.and_eq_true, List.all_eq_true, decide_eq_true_eq] at h
 obtain ⟨⟨⟨h1, h2⟩, h3⟩, h4⟩ := h
 exact ⟨by omega, by omega, fun s hs => by have := h3 s hs; omega, fun s hs => by have := h4 s hs; omega⟩
theorem below_al (W : World) (o : Obj) : Below W.heap.size W (W.alloc o) := (Below.refl _ _).alloc (Nat.le_refl _) o
theorem kb_at {W : World} {b : Nat} (o : Obj) (h : W.heap.size = b) : Kb (W.alloc o) b o := by subst h; exact kbl_new W o
theorem ts_kb {W : World} {b : Nat} {T : List Tr} (h : Kb W b (.cells (tcells T).toArray 41)) (hl : T.length ≤ maxLen) : TsAt W (some ⟨b, 0, none⟩) T.length T.length T :=
 ⟨rfl, Nat.le_refl _, hl, fun _ => ⟨b, 0, rfl, h.big, fun j u hj => by
  rw [Nat.zero_add]
  refine h.cell ?_
  rw [List.getElem?_toArray]; exact hj⟩⟩
end Go.Proofs.YtonfkhkalodldabGreatDoor
end

section
set_option maxRecDepth 100000
namespace Go.Proofs.YtonfkhkalodldabGreatDoor
open Go.ChangeShapes Go.WideShapes Go.ChangeAt Go.RowKit
theorem max_ok {W : World} (h : W.ShapedOpen Tryz.prog) : MaxOk W :=
 cell_of_shapedOpen_int (zero := #[.int .i64 0]) (t := 3) h (of_decide_eq_true (by kernel_rfl)) (by kernel_rfl) rfl (by kernel_rfl) (by kernel_rfl) Tryz.underlying3
theorem witness_row {H : Type} {enc : TypeId × Value → H} {C : Checked} {os : Os} {f : FuncId} {fn : Func} {s : OpenSpec} {conds : List PathCond} {apart : Bool} {laid : List (String × DataW Unit)} (modest : Bool) (w0 : World) (args : Array Value) (hos : w0.os = os)
  (hsh : (w0.forCall (fun _ _ => 0) ⟨#[], args, []⟩).Shaped C.prog)
  (hok : Input.okWideB C.prog (w0.forCall (fun _ _ => 0) ⟨#[], args, []⟩) f ⟨#[], args, []⟩ = true)
  (hrow : s.preRow enc C.prog fn conds apart laid (w0.forCall (fun _ _ => 0) ⟨#[], args, []⟩).memory args) :
  ∃ (w : World) (tape : Tape) (i : Input), w.os = os ∧ (w.forCall tape i).Shaped C.prog ∧ i.vars = [] ∧ Input.okWide C.prog (w.forCall tape i) .any w.heap.size f i ∧
   s.preRow enc C.prog fn conds apart laid (w.forCall tape i).memory i.args ∧ ({ modest := modest } : Assume).holds C.prog (lone (Frame.enter C.prog f i.args .normal) [] (w.forCall tape i)) :=
 ⟨w0, fun _ _ => 0, ⟨#[], args, []⟩, hos, hsh, (Input.okWide_of_okWideB (base := 0) hok).1, (Input.okWide_of_okWideB hok).2, hrow, by
  simp only [Assume.holds]
  exact ⟨by simp, by simp, fun _ => Modest.zero, by simp, by simp⟩⟩
theorem star : "*" ++ "errors.errorString" = "*errors.errorString" := by decide
theorem tp_row (u : TypeId) (h : Tryz.prog.typeName? 3 u = some "*errors.errorString") : u = 218 :=
 typeName_ptr_named (nm := "errors.errorString") (by rw [star]; kernel_rfl) (by kernel_rfl) (by decide) u (by rw [star]; exact h)
end Go.Proofs.YtonfkhkalodldabGreatDoor
end

section
set_option maxRecDepth 100000
namespace Go.Proofs.YtonfkhkalodldabGreatDoor
open Go.RowKit Go.PlainAid
theorem clean_sz {v : ByteArray} (h : cleanB v = true) : v.size ≤ 256 := by
 unfold cleanB at h
 simp only [Bool.and_eq_true, decide_eq_true_eq] at h
 exact h.1.1.1.2
theorem name_sz {v : ByteArray} (h : nameB v = true) : v.size ≤ 64 := by
 unfold nameB at h
 simp only [Bool.and_eq_true, decide_eq_true_eq] at h
 exact h.1.1.2
def fmsL (T : List Ty) (n : ByteArray) (vs : List ByteArray) : List ByteArray := vs.map (nrmV T n)
def fmsE (T : List Ty) (n : ByteArray) (vs : List ByteArray) : Int := firstE (fun j => nrmE T n (partAt vs j)) vs.length
def nvE (T : List Ty) (n : ByteArray) (vs : List ByteArray) : Int := if fmsE T n vs ≠ 0 then fmsE T n vs else if (fmsL T n vs).Nodup then 0 else 7
def nvL (T : List Ty) (n : ByteArray) (vs : List ByteArray) : List ByteArray := if nvE T n vs = 0 then fmsL T n vs else []
theorem fms_len (T : List Ty) (n : ByteArray) (vs : List ByteArray) : (fmsL T n vs).length = vs.length := by unfold fmsL; exact List.length_map _
theorem fms_take (T : List Ty) (n : ByteArray) (vs : List ByteArray) (k : Nat) (h : k < vs.length) : fmsL T n (vs.take (k + 1)) = fmsL T n (vs.take k) ++ [nrmV T n (partAt vs k)] := by
 unfold fmsL
 rw [take_snoc vs k h, List.map_append]; rfl
theorem part_get (l : List ByteArray) (j : Nat) (h : j < l.length) : partAt l j = l[j] := by
 unfold partAt
 rw [List.getD_eq_getElem?_getD, List.getElem?_eq_getElem h]; rfl
theorem nrm_clean {T : List Ty} {n v : ByteArray} (h : nrmE T n v = 0) : cleanB (nrmV T n v) = true := by
 unfold nrmE at h
 unfold nrmV
 cases e : tyOf T n with
 | none => rw [e] at h; cases h
 | some t =>
  rw [e] at h
  simp only at h ⊢
  unfold normE at h
  cases f : normS t.syn v with
  | none => rw [f] at h; cases h
  | some g =>
   rw [Option.getD_some]
   unfold normS at f
   cases k : formS t.syn v with
   | none => rw [k] at f; cases f
   | some y =>
    rw [k] at f
    simp only [Option.bind_some] at f
    split at f
    ·rename_i c
     rw [← Option.some.inj f]; exact c.2
    ·cases f
theorem nrm_sz {T : List Ty} {n v : ByteArray} (h : nrmE T n v = 0) : (nrmV T n v).size ≤ 256 := clean_sz (nrm_clean h)
theorem fms_all {T : List Ty} {n : ByteArray} {vs : List ByteArray} (h : fmsE T n vs = 0) : ∀ v ∈ vs, nrmE T n v = 0 := fun v hv => by
 obtain ⟨j, hj, rfl⟩ := List.getElem_of_mem hv
 have h1 := firstE_all h j hj
 rwa [part_get vs j hj] at h1
/-! ### an entry's attributes -/
def nmE (T : List Ty) (L : List At) : Int := firstE (fun j => nvE T (atD L j).1 (atD L j).2) L.length
def nmL (T : List Ty) (L : List At) : List At := L.map fun a => (a.1, sortU (fmsL T a.1 a.2))
theorem nm_len (T : List Ty) (L : List At) : (nmL T L).length = L.length := by unfold nmL; exact List.length_map _
theorem nm_NF {T : List Ty} {L : List At} (h : NF L) : NF (nmL T L) where
 asc := by
  unfold nmL
  rw [List.map_map]
  exact h.asc
 low a ha := by
  obtain ⟨b, hb, rfl⟩ := List.mem_map.1 ha
  exact h.low b hb
 vasc a ha := by
  obtain ⟨b, hb, rfl⟩ := List.mem_map.1 ha
  exact sortU_asc _
 ne a ha := by
  obtain ⟨b, hb, rfl⟩ := List.mem_map.1 ha
  intro e
  have := sortU_nil.1 e
  exact h.ne b hb (List.map_eq_nil_iff.1 this)
theorem hs_nm {T : List Ty} {L : List At} {n v : ByteArray} : Hs (nmL T L) n v ↔ ∃ a ∈ L, a.1 = n ∧ v ∈ fmsL T n a.2 := by
 unfold Hs nmL
 constructor
 ·rintro ⟨b, hb, rfl, hv⟩
  obtain ⟨a, ha, rfl⟩ := List.mem_map.1 hb
  exact ⟨a, ha, rfl, sortU_mem.1 hv⟩
 ·rintro ⟨a, ha, rfl, hv⟩
  exact ⟨_, List.mem_map.2 ⟨a, ha, rfl⟩, rfl, sortU_mem.2 hv⟩
theorem nf_atD (l : List At) (j : Nat) (h : j < (nf l).length) : atD (nf l) j = (partAt (names l) j, vals l (partAt (names l) j)) := by
 have hj : j < (names l).length := by rw [← nf_names, List.length_map]; exact h
 unfold atD nf
 rw [List.getD_eq_getElem?_getD, List.getElem?_map, List.getElem?_eq_getElem hj, part_get _ _ hj]; rfl
theorem nf_lenN (l : List At) : (nf l).length = (names l).length := by rw [← nf_names, List.length_map]
theorem nm_all {T : List Ty} {L : List At} (h : nmE T L = 0) : ∀ a ∈ L, nvE T a.1 a.2 = 0 := fun a ha => by
 obtain ⟨j, hj, rfl⟩ := mem_at ha
 exact firstE_all h j hj
theorem nv_fms {T : List Ty} {n : ByteArray} {vs : List ByteArray} (h : nvE T n vs = 0) : fmsE T n vs = 0 ∧ (fmsL T n vs).Nodup := by
 unfold nvE at h
 by_cases c : fmsE T n vs = 0
 ·rw [if_neg (by simp [c])] at h
  by_cases d : (fmsL T n vs).Nodup
  ·exact ⟨c, d⟩
  ·rw [if_neg d] at h; cases h
 ·rw [if_pos c] at h; exact absurd h c
theorem fms_clean {T : List Ty} {n : ByteArray} {vs : List ByteArray} (h : fmsE T n vs = 0) : ∀ v ∈ fmsL T n vs, cleanB v = true := fun v hv => by
 obtain ⟨x, hx, rfl⟩ := List.mem_map.1 hv
 exact nrm_clean (fms_all h x hx)
theorem nm_chk {T : List Ty} {l : List At} (h : chkA l = 0) (hE : nmE T (nf l) = 0) : chkA (nmL T (nf l)) = 0 := by
 have h1 := chk_ok (nf_chk h)
 refine ok_chk (nm_NF (nf_NF l)) (by rw [nm_len]; exact h1.len) fun a ha => ?_
 obtain ⟨b, hb, rfl⟩ := List.mem_map.1 ha
 have k := nv_fms (nm_all hE b hb)
 refine ⟨(h1.each b hb).1, ?_, fun v hv => fms_clean k.1 v (sortU_mem.1 hv)⟩
 have := sortU_len (fmsL T b.1 b.2)
 rw [fms_len] at this
 have := (h1.each b hb).2.1
 simp only
 omega
structure Md where
 op : Int
 name : ByteArray
 vs : List ByteArray
instance : Inhabited Md := ⟨⟨0, ⟨#[]⟩, []⟩⟩
def modR (T : List Ty) (l : List At) (m : Md) : List At × Int :=
 if ¬ (m.op = 1 ∨ m.op = 2 ∨ m.op = 3) then ([], 2) else if (tyOf T m.name).isSome = false then ([], 6) else if nvE T m.name m.vs ≠ 0 then ([], nvE T m.name m.vs)
 else if m.op = 1 then addR l m.name (fmsL T m.name m.vs) else if m.op = 2 then remR l m.name (fmsL T m.name m.vs) else repR l m.name (fmsL T m.name m.vs)
theorem mod_op {T : List Ty} {l : List At} {m : Md} (h : ¬ (m.op = 1 ∨ m.op = 2 ∨ m.op = 3)) : modR T l m = ([], 2) := if_pos h
theorem mod_type {T : List Ty} {l : List At} {m : Md} (h : m.op = 1 ∨ m.op = 2 ∨ m.op = 3) (ht : (tyOf T m.name).isSome = false) : modR T l m = ([], 6) := by
 unfold modR; rw [if_neg (fun k => k h), if_pos ht]
theorem mod_val {T : List Ty} {l : List At} {m : Md} (h : m.op = 1 ∨ m.op = 2 ∨ m.op = 3) (ht : (tyOf T m.name).isSome = true) {c : Int} (hc : nvE T m.name m.vs = c) (h0 : c ≠ 0) : modR T l m = ([], c) := by
 subst hc
 unfold modR; rw [if_neg (fun k => k h), if_neg (by rw [ht]; decide), if_pos h0]
theorem mod_add {T : List Ty} {l : List At} {m : Md} (h : m.op = 1) (ht : (tyOf T m.name).isSome = true) (hc : nvE T m.name m.vs = 0) : modR T l m = addR l m.name (fmsL T m.name m.vs) := by
 unfold modR; rw [if_neg (by simp [h]), if_neg (by rw [ht]; decide), if_neg (by simp [hc]), if_pos h]
theorem mod_rem {T : List Ty} {l : List At} {m : Md} (h : m.op = 2) (ht : (tyOf T m.name).isSome = true) (hc : nvE T m.name m.vs = 0) : modR T l m = remR l m.name (fmsL T m.name m.vs) := by
 unfold modR; rw [if_neg (by simp [h]), if_neg (by rw [ht]; decide), if_neg (by simp [hc]), if_neg (by rw [h]; decide), if_pos h]
theorem mod_rep {T : List Ty} {l : List At} {m : Md} (h : m.op = 3) (ht : (tyOf T m.name).isSome = true) (hc : nvE T m.name m.vs = 0) : modR T l m = repR l m.name (fmsL T m.name m.vs) := by
 unfold modR; rw [if_neg (by simp [h]), if_neg (by rw [ht]; decide), if_neg (by simp [hc]), if_neg (by rw [h]; decide), if_neg (by rw [h]; decide)]
theorem mod_chk {T : List Ty} {l : List At} {m : Md} (h : chkA l = 0) (he : (modR T l m).2 = 0) : chkA (modR T l m).1 = 0 := by
 by_cases h1 : m.op = 1 ∨ m.op = 2 ∨ m.op = 3
 ·cases ht : (tyOf T m.name).isSome
  ·rw [mod_type h1 ht] at he; cases he
  ·by_cases hc : nvE T m.name m.vs = 0
   ·rcases h1 with h1 | h1 | h1
    ·rw [mod_add h1 ht hc] at he ⊢; exact add_chk h he
    ·rw [mod_rem h1 ht hc] at he ⊢; exact rem_chk h he
    ·rw [mod_rep h1 ht hc] at he ⊢; exact rep_chk h he
   ·rw [mod_val h1 ht rfl hc] at he; exact absurd he hc
 ·rw [mod_op h1] at he; cases he
def modsR (T : List Ty) : List At → List Md → List At × Int
 | l, [] => (l, 0)
 | l, m :: ms => if (modR T l m).2 = 0 then modsR T (modR T l m).1 ms else ([], (modR T l m).2)
theorem mods_ok {T : List Ty} {l : List At} {m : Md} {ms : List Md} {k : List At} (h : modR T l m = (k, 0)) : modsR T l (m :: ms) = modsR T k ms := by
 show (if (modR T l m).2 = 0 then modsR T (modR T l m).1 ms else ([], (modR T l m).2)) = _
 rw [h]; rfl
theorem mods_no {T : List Ty} {l : List At} {m : Md} {ms : List Md} {c : Int} (h : (modR T l m).2 = c) (h0 : c ≠ 0) : modsR T l (m :: ms) = ([], c) := by
 show (if (modR T l m).2 = 0 then modsR T (modR T l m).1 ms else ([], (modR T l m).2)) = _
 rw [h, if_neg h0]
end Go.Proofs.YtonfkhkalodldabGreatDoor
end
