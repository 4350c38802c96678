/-
  Texts of the schema layer and of those beneath it, joined: SchAdc, SchNew, SchAcc, SchLin. Conditions stand at each contract.
-/
import Derived.Test.YtonfkhkalodldabGreatDoorT11
set_option linter.unusedVariables false
set_option linter.unusedSimpArgs false
set_option linter.unnecessarySimpa false

section
set_option maxRecDepth 100000
namespace Go.Proofs.YtonfkhkalodldabGreatDoor
open Go.RowKit Go.PlainAid
def errCl (ts : List Ty) (cs : List Cl) (c : Cl) : Int :=
 if nameB c.name = false then 5
 else if (clOf cs c.name).isSome = true then 7
 else if c.super.size ≠ 0 ∧ (clOf cs c.super).isSome = false then 6
 else if 64 < c.must.length ∨ 64 < c.may.length then 3
 else if typedB ts c.must = false ∨ typedB ts c.may = false then 6 else 0
theorem errC_take (ts : List Ty) (cs : List Cl) (j : Nat) : errC ts cs j = errCl ts (cs.take j) (clAt cs j) := rfl
theorem str_none (s : ByteArray) : s.toList.isEmpty = decide (s.size = 0) := by
 rw [Lib.toList_data]
 have : s.data.toList.length = s.size := by rw [Array.length_toList]; rfl
 cases e : s.data.toList with
 | nil => rw [e] at this; simp at this; simp [← this]
 | cons a l => rw [e] at this; simp at this; simp [← this]
structure AB (w W : World) (mt mc : Option Nat) (nm su : ByteArray) (a1 : Option Addr) (p1 q1 : Nat) (a2 : Option Addr) (p2 q2 : Nat) : Prop where
 m0 : W.cell? ⟨w.heap.size, 0, none⟩ = some (.map mt)
 m1 : W.cell? ⟨w.heap.size, 1, none⟩ = some (.map mc)
 n0 : W.cell? ⟨w.heap.size + 1, 0, none⟩ = some (.string nm)
 n1 : W.cell? ⟨w.heap.size + 1, 1, none⟩ = some (.string su)
 n2 : W.cell? ⟨w.heap.size + 1, 2, none⟩ = some (.slice a1 p1 q1)
 n3 : W.cell? ⟨w.heap.size + 1, 3, none⟩ = some (.slice a2 p2 q2)
 low : Below w.heap.size w W
 big : w.heap.size + 2 ≤ W.heap.size
theorem AB.step {w W V : World} {mt mc : Option Nat} {nm su : ByteArray} {a1 a2 : Option Addr} {p1 q1 p2 q2 : Nat} (h : AB w W mt mc nm su a1 p1 q1 a2 p2 q2) (hb : Below W.heap.size W V) : AB w V mt mc nm su a1 p1 q1 a2 p2 q2 :=
 ⟨cell_later hb h.m0, cell_later hb h.m1, cell_later hb h.n0, cell_later hb h.n1, cell_later hb h.n2, cell_later hb h.n3, h.low.trans (hb.mono (by have := h.big; omega)), Nat.le_trans h.big hb.size⟩
theorem AB.alloc {w W : World} {mt mc : Option Nat} {nm su : ByteArray} {a1 a2 : Option Addr} {p1 q1 p2 q2 : Nat} (h : AB w W mt mc nm su a1 p1 q1 a2 p2 q2) (o : Obj) : AB w (W.alloc o) mt mc nm su a1 p1 q1 a2 p2 q2 := h.step ((Below.refl _ _).alloc (Nat.le_refl _) o)
theorem AB.drew {w W : World} {mt mc : Option Nat} {nm su : ByteArray} {a1 a2 : Option Addr} {p1 q1 p2 q2 : Nat} (h : AB w W mt mc nm su a1 p1 q1 a2 p2 q2) : AB w W.drew mt mc nm su a1 p1 q1 a2 p2 q2 := h.step (Below.refl _ _).drew
theorem keepG7 {w w1 w2 : World} {row : Option Nat} {f : Nat} {A B C D E F : Addr} {x y z u v t : Value} (h : w1.cell? A = some x ∧ w1.cell? B = some y ∧ w1.cell? C = some z ∧ w1.cell? D = some u ∧ w1.cell? E = some v ∧ w1.cell? F = some t ∧ Hid (w.grownBy w1 row ∧ f ≤ w1.heap.size)) (hb : Below w1.heap.size w1 w2) :
  w2.cell? A = some x ∧ w2.cell? B = some y ∧ w2.cell? C = some z ∧ w2.cell? D = some u ∧ w2.cell? E = some v ∧ w2.cell? F = some t ∧ Hid (w.grownBy w2 row ∧ f ≤ w2.heap.size) :=
 ⟨cell_later hb h.1, cell_later hb h.2.1, cell_later hb h.2.2.1, cell_later hb h.2.2.2.1, cell_later hb h.2.2.2.2.1, cell_later hb h.2.2.2.2.2.1, keepG h.2.2.2.2.2.2 hb⟩
theorem keepGG7 {w w1 w2 : World} {g : Nat} {f : Nat} {A B C D E F : Addr} {x y z u v t : Value} (h : w1.cell? A = some x ∧ w1.cell? B = some y ∧ w1.cell? C = some z ∧ w1.cell? D = some u ∧ w1.cell? E = some v ∧ w1.cell? F = some t ∧ Hid (w.grownBy w1 (some g) ∧ f ≤ w1.heap.size)) (hb : w1.grownBy w2 (some g))
  (hA : A.block ≠ g) (hB : B.block ≠ g) (hC : C.block ≠ g) (hD : D.block ≠ g) (hE : E.block ≠ g) (hF : F.block ≠ g) :
  w2.cell? A = some x ∧ w2.cell? B = some y ∧ w2.cell? C = some z ∧ w2.cell? D = some u ∧ w2.cell? E = some v ∧ w2.cell? F = some t ∧ Hid (w.grownBy w2 (some g) ∧ f ≤ w2.heap.size) :=
 ⟨cell_turned h.1 hb hA, cell_turned h.2.1 hb hB, cell_turned h.2.2.1 hb hC, cell_turned h.2.2.2.1 hb hD, cell_turned h.2.2.2.2.1 hb hE, cell_turned h.2.2.2.2.2.1 hb hF, keepGG h.2.2.2.2.2.2 hb⟩
set_option maxHeartbeats 16000000 in
theorem addClass_s (mt : Option Nat) (bc : Nat) (k : Nat) (w0 : World) (ts : List Ty) (cs : List Cl) (c : Cl) (a1 a2 : Option Addr) (p1 q1 p2 q2 : Nat) (w : World) (hT : TMap w mt ts) (h : COpen w0 w bc k cs) (hk : k < 1100000)
  (hm : StrsAt w a1 p1 q1 c.must) (hy : StrsAt w a2 p2 q2 c.may) (h0 : CvOk w0 ⟨c, .slice a1 p1 q1, .slice a2 p2 q2⟩) (hz : c.name.size ≤ 1000000000) (hz2 : c.super.size ≤ 1000000000) (hz3 : ∀ s ∈ c.must, s.size ≤ 1000000000) (hz4 : ∀ s ∈ c.may, s.size ≤ 1000000000) :
  Calls Tryz.prog 119 #[.agg #[.map mt, .map (some bc)], .agg #[.string c.name, .string c.super, .slice a1 p1 q1, .slice a2 p2 q2]] w fun e w' =>
   e = .returned (.int .i64 (errCl ts cs c)) ∧ w.grownBy w' (some bc) ∧ (errCl ts cs c = 0 → COpen w0 w' bc (k + 1) (cs ++ [c])) := by
 obtain ⟨nm, su, ms, ys⟩ := c
 simp only at hm hy hz hz2 hz3 hz4 ⊢
 have hl1 := hm.1
 have hl2 := hy.1
 have hbl : bc < w.heap.size := h.lt
 have HO := Lib.hid h
 have HI := Lib.hid h0
 have HC := Lib.hid (fun (n : ByteArray) (W : World) (hn : n.size ≤ 1000000000) (hW : Below w.heap.size w W) => class_s mt (some bc) w0 cs n W (h.map.below hW) hn)
 have HTy1 := Lib.hid (fun (W : World) (hW : Below w.heap.size w W) => typed_s mt (some bc) ts a1 p1 q1 ms W (hT.below hW) (hm.below hW) hz3)
 have HTy2 := Lib.hid (fun (W : World) (hW : Below w.heap.size w W) => typed_s mt (some bc) ts a2 p2 q2 ys W (hT.below hW) (hy.below hW) hz4)
 obtain ⟨tw, htw⟩ : ∃ b, (clOf cs nm).isSome = b := ⟨_, rfl⟩
 obtain ⟨tk, htk⟩ : ∃ b, (clOf cs su).isSome = b := ⟨_, rfl⟩
 obtain ⟨nb, hnb⟩ : ∃ b, nameB nm = b := ⟨_, rfl⟩
 obtain ⟨y1, hy1⟩ : ∃ b, typedB ts ms = b := ⟨_, rfl⟩
 obtain ⟨y2, hy2⟩ : ∃ b, typedB ts ys = b := ⟨_, rfl⟩
 rw [hy1] at HTy1
 rw [hy2] at HTy2
 obtain ⟨d1, hd1⟩ : ∃ b, decide ((64 : Int) < (p1 : Int)) = b := ⟨_, rfl⟩
 obtain ⟨d2, hd2⟩ : ∃ b, decide ((64 : Int) < (p2 : Int)) = b := ⟨_, rfl⟩
 obtain ⟨sb, hsb⟩ : ∃ b, su.toList.isEmpty = b := ⟨_, rfl⟩
 have HNB := Lib.hid hnb
 have HW := Lib.hid htw
 have HK := Lib.hid htk
 have HE := Lib.hid (show errCl ts cs ⟨nm, su, ms, ys⟩ = if nb = false then 5 else if tw = true then 7 else if sb = false ∧ tk = false then 6 else if d1 = true ∨ d2 = true then 3 else if y1 = false ∨ y2 = false then 6 else 0 by
  have e1 : (64 < ms.length) ↔ d1 = true := by rw [← hd1, hl1, decide_eq_true_iff]; omega
  have e2 : (64 < ys.length) ↔ d2 = true := by rw [← hd2, hl2, decide_eq_true_iff]; omega
  have e3 : (su.size ≠ 0) ↔ sb = false := by rw [← hsb, str_none]; simp
  unfold errCl; simp only; rw [hnb, htw, htk, hy1, hy2]
  simp only [e1, e2, e3])
 have fin : ∀ c, errCl ts cs ⟨nm, su, ms, ys⟩ = c → c ≠ 0 → ∀ W, Below w.heap.size w W → (Ending.returned (.int .i64 c) = .returned (.int .i64 (errCl ts cs ⟨nm, su, ms, ys⟩)) ∧ w.grownBy W (some bc) ∧ (errCl ts cs ⟨nm, su, ms, ys⟩ = 0 → COpen w0 W bc (k + 1) (cs ++ [⟨nm, su, ms, ys⟩]))) :=
  fun c h1 h2 W h3 => ⟨by rw [h1], grown_of_below h3, fun h => absurd (h1.symm.trans h) h2⟩
 have FIN := Lib.hid fin
 clear fin htw htk hnb hy1 hy2 hT h h0 hm hy hz3 hz4 hl1 hl2
 have A0 : Hid (AB w ((w.alloc (.cells #[.map mt, .map (some bc)] 88)).alloc (.cells #[.string nm, .string su, .slice a1 p1 q1, .slice a2 p2 q2] 106)) mt (some bc) nm su a1 p1 q1 a2 p2 q2) :=
  Lib.hid ⟨by go_simp, by go_simp, by go_simp, by go_simp, by go_simp, by go_simp, ((Below.refl _ _).alloc (Nat.le_refl _) _).alloc (by simp) _, by simp⟩
 go_enter Tryz.func119, Tryz.ntmps119
 go_wp2_with fail
 refine (HC.out nm _ hz A0.out.low).mono ?_
 rintro e w1 ⟨x, b1, i1, j1, b2, i2, j2, _, _, _, rfl, hb⟩
 rw [HW.out]
 have A1 := Lib.hid (A0.out.step hb)
 clear hb A0
 generalize x.cl.name = xn
 generalize x.cl.super = xs
 obtain ⟨m0, m1, n0, n1, n2, n3, _, hs1⟩ := A1.out
 have hs1b : w.heap.size + 1 < w1.heap.size := hs1
 have hs1c : w.heap.size < w1.heap.size := by omega
 go_wp2_with fail
 have A2 := Lib.hid (A1.out.alloc (.cells #[.string xn, .string xs, .slice b1 i1 j1, .slice b2 i2 j2] 106))
 clear m0 m1 n0 n1 n2 n3
 refine (HC.out su _ hz2 A2.out.low).mono ?_
 rintro e w2 ⟨y, c1, i3, j3, c2, i4, j4, _, _, _, rfl, hb⟩
 rw [HK.out]
 have A3 := Lib.hid (A2.out.step hb)
 have hs2 : w1.heap.size < w2.heap.size := by have := hb.size; simp at this; omega
 clear hb A2 A1
 generalize y.cl.name = yn
 generalize y.cl.super = ys'
 obtain ⟨m0, m1, n0, n1, n2, n3, _, hs3⟩ := A3.out
 have hs3b : w.heap.size + 1 < w2.heap.size := hs3
 have hs3c : w.heap.size < w2.heap.size := by omega
 go_wp2_with fail
 have A4 := Lib.hid (A3.out.alloc (.cells #[.string yn, .string ys', .slice c1 i3 j3, .slice c2 i4 j4] 106))
 refine (name_s nm _ hz).mono ?_
 rintro e w3 ⟨rfl, rfl⟩
 rw [HNB.out]
 cases nb
 ·have HE5 := Lib.hid (show errCl ts cs ⟨nm, su, ms, ys⟩ = 5 from HE.out.trans (rfl))
  go_wp2_with fail
  go_ret
  exact FIN.out 5 HE5.out (by decide) _ A4.out.low
 ·cases htw0 : tw
  ·by_cases hsk : sb = false ∧ tk = false
   ·obtain ⟨rfl, rfl⟩ := hsk
    have HE5 := Lib.hid (show errCl ts cs ⟨nm, su, ms, ys⟩ = 6 from HE.out.trans (by rw [htw0]; simp))
    go_wp2_with fail
    go_ret
    exact FIN.out 6 HE5.out (by decide) _ A4.out.low
   ·have hq : sb = true ∨ (sb = false ∧ tk = true) := by
     cases sb
     ·cases tk
      ·exact absurd ⟨rfl, rfl⟩ hsk
      ·exact .inr ⟨rfl, rfl⟩
     ·exact .inl rfl
    have HE2 := Lib.hid (show errCl ts cs ⟨nm, su, ms, ys⟩ = (if d1 = true ∨ d2 = true then 3 else if y1 = false ∨ y2 = false then 6 else 0) from HE.out.trans (by rw [htw0]; simp only [hsk, if_false]; rfl))
    clear hsk
    rcases hq with rfl | ⟨rfl, rfl⟩
    all_goals
     cases d1
     ·cases d2
      ·go_wp2_with fail
       refine (HTy1.out _ A4.out.low).mono ?_
       rintro e w3 ⟨rfl, hb⟩
       have A5 := Lib.hid (A4.out.step hb)
       clear hb m0 m1 n0 n1 n2 n3
       obtain ⟨m0, m1, n0, n1, n2, n3, _, hs5⟩ := A5.out
       cases y1
       ·have HE5 := Lib.hid (show errCl ts cs ⟨nm, su, ms, ys⟩ = 6 from HE2.out.trans (by simp))
        go_wp2_with fail
        go_ret
        exact FIN.out 6 HE5.out (by decide) _ A5.out.low
       ·go_wp2_with fail
        refine (HTy2.out _ A5.out.low).mono ?_
        rintro e w4 ⟨rfl, hb⟩
        have A6 := Lib.hid (A5.out.step hb)
        clear hb m0 m1 n0 n1 n2 n3
        obtain ⟨m0, m1, n0, n1, n2, n3, _, hs6⟩ := A6.out
        cases y2
        ·have HE5 := Lib.hid (show errCl ts cs ⟨nm, su, ms, ys⟩ = 6 from HE2.out.trans (by simp))
         go_wp2_with fail
         go_ret
         exact FIN.out 6 HE5.out (by decide) _ A6.out.low
        ·have HE5 := Lib.hid (show errCl ts cs ⟨nm, su, ms, ys⟩ = 0 from HE2.out.trans (by simp))
         have hnone : clOf cs nm = none := by
          have := HW.out
          rw [htw0] at this
          cases e : clOf cs nm with
          | none => rfl
          | some x => rw [e] at this; cases this
         have HN := Lib.hid hnone; clear hnone
         have S0 := keepG7 (f := w.heap.size + 2) ⟨m1, n0, n1, n2, n3, m0, Lib.hid ⟨grown_of_below (row := some bc) A6.out.low, hs6⟩⟩ (Below.refl _ w4).drew
         go_wp2_with fail
         refine wp_region_held_drew (S := fun W => W.cell? ⟨w.heap.size, 1, none⟩ = some (.map (some bc)) ∧ W.cell? ⟨w.heap.size + 1, 0, none⟩ = some (.string nm) ∧ W.cell? ⟨w.heap.size + 1, 1, none⟩ = some (.string su) ∧ W.cell? ⟨w.heap.size + 1, 2, none⟩ = some (.slice a1 p1 q1) ∧ W.cell? ⟨w.heap.size + 1, 3, none⟩ = some (.slice a2 p2 q2) ∧ W.cell? ⟨w.heap.size, 0, none⟩ = some (.map mt) ∧ Hid (w.grownBy W (some bc) ∧ w.heap.size + 2 ≤ W.heap.size)) (by kernel_rfl) (S0) (fun hS => ?_)
         refine rgT 0 (some 62) ?_
         refine rgT 1 (some 63) ?_
         refine rgT 2 (some 64) ?_
         refine rgT 3 (some 65) ?_
         refine rgT 5 (some 67) ?_
         refine rgC 4 (fun K hK => ?_)
         go_simp
         refine (lower_s nm _ hz).mono ?_
         rintro e w5 ⟨rfl, hb⟩
         have hT5 := (HO.out.below A6.out.low hbl).below ((Below.refl _ w4).drew.trans hb) (Nat.lt_of_lt_of_le hbl A6.out.low.size)
         obtain ⟨w6, hrun6, hT6, hg6⟩ := hT5.store ⟨⟨nm, su, ms, ys⟩, .slice a1 p1 q1, .slice a2 p2 q2⟩ HI.out hk hz HN.out
         clear hT5
         unfold cvV at hrun6
         dsimp only at hrun6
         go_wp2_with fail
         refine hK.out _ _ ?_ (fun hHeld => ?_)
         ·exact keepG7 (by assumption) hb
         clear hK K
         try simp only [Act.put, lsA, lsZ, lsS]
         refine rgC 6 (fun K hK => ?_)
         go_simp
         refine hK.out _ _ ?_ (fun hHeld => ?_)
         ·exact keepGG7 (by assumption) hg6 (by show w.heap.size ≠ bc; omega) (by show w.heap.size + 1 ≠ bc; omega) (by show w.heap.size + 1 ≠ bc; omega) (by show w.heap.size + 1 ≠ bc; omega) (by show w.heap.size + 1 ≠ bc; omega) (by show w.heap.size ≠ bc; omega)
         clear hK K
         try simp only [Act.put, lsA, lsZ, lsS]
         refine wpAnyH_done (by kernel_rfl) ?_ _
         have hS6 : w6.cell? ⟨w.heap.size, 1, none⟩ = some (.map (some bc)) ∧ w6.cell? ⟨w.heap.size + 1, 0, none⟩ = some (.string nm) ∧ w6.cell? ⟨w.heap.size + 1, 1, none⟩ = some (.string su) ∧ w6.cell? ⟨w.heap.size + 1, 2, none⟩ = some (.slice a1 p1 q1) ∧ w6.cell? ⟨w.heap.size + 1, 3, none⟩ = some (.slice a2 p2 q2) ∧ w6.cell? ⟨w.heap.size, 0, none⟩ = some (.map mt) ∧ Hid (w.grownBy w6 (some bc) ∧ w.heap.size + 2 ≤ w6.heap.size) := by assumption
         have HG6 := hS6.2.2.2.2.2.2
         have HT6 := Lib.hid hT6
         clear hS6 hT6 hg6 hrun6 hb
         go_wp2_with fail
         go_ret
         exact ⟨by rw [HE5.out]; rfl, HG6.out.1, fun _ => HT6.out⟩
      ·have HE5 := Lib.hid (show errCl ts cs ⟨nm, su, ms, ys⟩ = 3 from HE2.out.trans (by simp))
       go_wp2_with fail
       go_ret
       exact FIN.out 3 HE5.out (by decide) _ A4.out.low
     ·have HE5 := Lib.hid (show errCl ts cs ⟨nm, su, ms, ys⟩ = 3 from HE2.out.trans (by simp))
      go_wp2_with fail
      go_ret
      exact FIN.out 3 HE5.out (by decide) _ A4.out.low
  ·have HE5 := Lib.hid (show errCl ts cs ⟨nm, su, ms, ys⟩ = 7 from HE.out.trans (by rw [htw0]; rfl))
   go_wp2_with fail
   go_ret
   exact FIN.out 7 HE5.out (by decide) _ A4.out.low
def SmT (ts : List Ty) : Prop := ∀ t ∈ ts, t.name.size ≤ 1000000000
def SmC (cs : List Cl) : Prop := ∀ c ∈ cs, c.name.size ≤ 1000000000 ∧ c.super.size ≤ 1000000000 ∧ (∀ s ∈ c.must, s.size ≤ 1000000000) ∧ ∀ s ∈ c.may, s.size ≤ 1000000000
structure NT (w W : World) (ao : Option Addr) (n cap : Nat) (bo : Option Addr) (m dap : Nat) : Prop where
 box : W.heap[w.heap.size]? = some (.cells #[.slice ao n cap, .slice bo m dap] 25)
 res : W.heap[w.heap.size + 1]? = some (.cells #[.map none, .map none] 88)
 tab : W.heap[w.heap.size + 1 + 1 + 1 + 1]? = some (.cells #[.map (some (w.heap.size + 1 + 1)), .map (some (w.heap.size + 1 + 1 + 1))] 88)
 low : Below w.heap.size w W
 big : w.heap.size + 5 ≤ W.heap.size
theorem NT.below {w W V : World} {ao bo : Option Addr} {n cap m dap : Nat} (h : NT w W ao n cap bo m dap) (hb : Below W.heap.size W V) : NT w V ao n cap bo m dap := by
 have hs := h.big
 exact ⟨(hb.block _ (by omega)).trans h.box, (hb.block _ (by omega)).trans h.res, (hb.block _ (by omega)).trans h.tab, h.low.trans (hb.mono (by omega)), Nat.le_trans hs hb.size⟩
theorem NT.grown {w W V : World} {ao bo : Option Addr} {n cap m dap g : Nat} (h : NT w W ao n cap bo m dap) (hb : W.grownBy V (some g)) (hg : g = w.heap.size + 2 ∨ g = w.heap.size + 3) : NT w V ao n cap bo m dap := by
 have hs := h.big
 have hk : ∀ k, k < W.heap.size → k ≠ g → V.heap[k]? = W.heap[k]? := fun k h1 h2 => hb.block k h1 (fun e => h2 (Option.some.inj e))
 exact ⟨(hk _ (by omega) (by omega)).trans h.box, (hk _ (by omega) (by omega)).trans h.res, (hk _ (by omega) (by omega)).trans h.tab, h.low.grown hb (by omega) (fun k e => by have := Option.some.inj e; omega), Nat.le_trans hs hb.size⟩
theorem NT.alloc {w W : World} {ao bo : Option Addr} {n cap m dap : Nat} (h : NT w W ao n cap bo m dap) (o : Obj) : NT w (W.alloc o) ao n cap bo m dap := h.below ((Below.refl _ _).alloc (Nat.le_refl _) o)
theorem heap_cell {W : World} {b i : Nat} {c : Array Value} {t : TypeId} {v : Value} (h : W.heap[b]? = some (.cells c t)) (hv : c[i]? = some v) : W.cell? ⟨b, i, none⟩ = some v := by
 simp [World.cell?, h, hv]
theorem heap_frozen {W : World} {b i : Nat} {c : Array Value} {t : TypeId} (h : W.heap[b]? = some (.cells c t)) : W.frozen? ⟨b, i, none⟩ = false := by
 simp [World.frozen?, h]
theorem heap_old {w : World} {o : Obj} {k : Nat} (h : k < w.heap.size) : (w.alloc o).heap[k]? = w.heap[k]? := Below.heap_alloc w o k h
theorem chkS_limit {ts : List Ty} {cs : List Cl} (h : 64 < ts.length ∨ 32 < cs.length) : chkS ts cs = 3 := if_pos h
theorem sound_bad {ts : List Ty} {cs : List Cl} (h : chkS ts cs ≠ 0) : soundT ts cs = [] ∧ soundC ts cs = [] := ⟨if_neg h, if_neg h⟩
theorem chkS_type {ts : List Ty} {cs : List Cl} {j : Nat} (h : ¬ (64 < ts.length ∨ 32 < cs.length)) (hj : j < ts.length) (h0 : ∀ q, q < j → errT ts q = 0) (h1 : errT ts j ≠ 0) : chkS ts cs = errT ts j := by
 unfold chkS
 rw [if_neg h, firstE_hit h0 h1 hj, if_pos h1]
theorem chkS_class {ts : List Ty} {cs : List Cl} {j : Nat} (h : ¬ (64 < ts.length ∨ 32 < cs.length)) (ht : ∀ q, q < ts.length → errT ts q = 0) (hj : j < cs.length) (h0 : ∀ q, q < j → errC ts cs q = 0) (h1 : errC ts cs j ≠ 0) : chkS ts cs = errC ts cs j := by
 unfold chkS
 rw [if_neg h, firstE_zero ht, if_neg (by simp), firstE_hit h0 h1 hj, if_pos h1]
theorem chkS_last {ts : List Ty} {cs : List Cl} (h : ¬ (64 < ts.length ∨ 32 < cs.length)) (ht : ∀ q, q < ts.length → errT ts q = 0) (hc : ∀ q, q < cs.length → errC ts cs q = 0) : chkS ts cs = if (tyOf ts classN).isSome = false then 6 else if ((tyOf ts classN).getD zeroTy).syn = 1 then 0 else 8 := by
 unfold chkS
 rw [if_neg h, firstE_zero ht, if_neg (by simp), firstE_zero hc, if_neg (by simp)]
 cases tyOf ts classN <;> rfl
def MFresh (B : Nat) (m : Option Nat) : Prop := ∀ b, m = some b → B ≤ b
set_option maxHeartbeats 16000000 in
theorem newTable_s (ao bo : Option Addr) (n cap m dap : Nat) (ts : List Ty) (cs : List Cl) (w0 w : World) (h0 : Below w0.heap.size w0 w) (hT : TysAt w ao n cap ts) (hC : ClsAt w0 bo m dap cs) (hzT : SmT ts) (hzC : SmC cs) :
  Calls Tryz.prog 88 #[.agg #[.slice ao n cap, .slice bo m dap]] w fun e w' =>
   ∃ m1 m2, e = .returned (.tuple #[.agg #[.map m1, .map m2], .int .i64 (chkS ts cs)]) ∧ TMap w' m1 (soundT ts cs) ∧ CMap w0 w' m2 (soundC ts cs) ∧ MFresh w.heap.size m1 ∧ MFresh w.heap.size m2 ∧ Below w.heap.size w w' := by
 obtain ⟨t1, t2, t3, t4⟩ := hT
 obtain ⟨k1, k2, k3, k4⟩ := hC
 subst t1
 subst k1
 unfold maxLen at t3 k3
 have T4 := Lib.hid t4; have K4 := Lib.hid k4
 have H0 := Lib.hid h0; clear h0
 have ZT := Lib.hid hzT; have ZC := Lib.hid hzC
 clear t4 k4 hzT hzC
 have fin : ∀ c, chkS ts cs = c → c ≠ 0 → ∀ W, Below w.heap.size w W → ∃ m1 m2, Ending.returned (.tuple #[.agg #[.map none, .map none], .int .i64 c]) = .returned (.tuple #[.agg #[.map m1, .map m2], .int .i64 (chkS ts cs)]) ∧ TMap W m1 (soundT ts cs) ∧ CMap w0 W m2 (soundC ts cs) ∧ MFresh w.heap.size m1 ∧ MFresh w.heap.size m2 ∧ Below w.heap.size w W :=
  fun c h1 h2 W h3 => ⟨none, none, by rw [h1], by rw [(sound_bad (by rw [h1]; exact h2)).1]; exact tmap_nil _, by rw [(sound_bad (by rw [h1]; exact h2)).2]; exact cmap_nil _ _, (fun b e => by cases e), (fun b e => by cases e), h3⟩
 have FIN := Lib.hid fin
 clear fin
 by_cases hlim : 64 < ts.length ∨ 32 < cs.length
 ·have HL := Lib.hid (chkS_limit hlim)
  have HB := Lib.hid (show Below w.heap.size w ((w.alloc (.cells #[.slice ao ts.length cap, .slice bo cs.length dap] 25)).alloc (.cells #[.map none, .map none] 88)) from ((Below.refl _ _).alloc (Nat.le_refl _) _).alloc (by simp) _)
  by_cases h1 : 64 < ts.length
  ·have d1 : decide ((64 : Int) < (ts.length : Int)) = true := decide_eq_true (by omega)
   go_enter Tryz.func88, Tryz.ntmps88
   go_wp2_with fail
   refine bodyPost_ret (v := .tuple #[.agg #[.map none, .map none], .int .i64 3]) (by simp only [results, Tryz.results88]; go_simp) rfl ?_
   exact FIN.out 3 HL.out (by decide) _ HB.out
  ·have d1 : decide ((64 : Int) < (ts.length : Int)) = false := decide_eq_false (by omega)
   have d2 : decide ((32 : Int) < (cs.length : Int)) = true := decide_eq_true (by omega)
   go_enter Tryz.func88, Tryz.ntmps88
   go_wp2_with fail
   refine bodyPost_ret (v := .tuple #[.agg #[.map none, .map none], .int .i64 3]) (by simp only [results, Tryz.results88]; go_simp) rfl ?_
   exact FIN.out 3 HL.out (by decide) _ HB.out
 ·have d1 : decide ((64 : Int) < (ts.length : Int)) = false := decide_eq_false (by omega)
  have d2 : decide ((32 : Int) < (cs.length : Int)) = false := decide_eq_false (by omega)
  have hmm := @run_makeMap Tryz.prog
  go_enter Tryz.func88, Tryz.ntmps88
  go_wp2
  clear hmm d1 d2
  have hf : w.heap.size ≤ w.heap.size + 1 := Nat.le_succ _
  have WS : ∃ W0 : World, W0 = (((w.alloc (.cells #[.slice ao ts.length cap, .slice bo cs.length dap] 25)).alloc (.cells #[.map none, .map none] 88)).alloc (.map #[] 0)).alloc (.map #[] 0) := ⟨_, rfl⟩
  have O1 := topen_made ((w.alloc (.cells #[.slice ao ts.length cap, .slice bo cs.length dap] 25)).alloc (.cells #[.map none, .map none] 88))
  have O2 := copen_made w0 (((w.alloc (.cells #[.slice ao ts.length cap, .slice bo cs.length dap] 25)).alloc (.cells #[.map none, .map none] 88)).alloc (.map #[] 0))
  clear WS
  have O1b := (O1.kept (World.grownBy_alloc _ (.map #[] 0) none) (by simp)).kept (World.grownBy_alloc _ (.cells #[.map (some (w.heap.size + 1 + 1)), .map (some (w.heap.size + 1 + 1 + 1))] 88) none) (by simp)
  have O2b := O2.kept (World.grownBy_alloc _ (.cells #[.map (some (w.heap.size + 1 + 1)), .map (some (w.heap.size + 1 + 1 + 1))] 88) none) (by simp)
  have N0 : NT w ((((((w.alloc (.cells #[.slice ao ts.length cap, .slice bo cs.length dap] 25)).alloc (.cells #[.map none, .map none] 88)).alloc (.map #[] 0)).alloc (.map #[] 0))).alloc (.cells #[.map (some (w.heap.size + 1 + 1)), .map (some (w.heap.size + 1 + 1 + 1))] 88)) ao ts.length cap bo cs.length dap := by
   refine ⟨?_, ?_, ?_, ?_, by simp⟩
   ·exact (heap_old (by simp; omega)).trans ((heap_old (by simp; omega)).trans ((heap_old (by simp; omega)).trans ((heap_old (by simp)).trans (heap_alloc_new w _))))
   ·exact (heap_old (by simp)).trans ((heap_old (by simp)).trans ((heap_old (by simp)).trans (by have := heap_alloc_new (w.alloc (.cells #[.slice ao ts.length cap, .slice bo cs.length dap] 25)) (.cells #[.map none, .map none] 88); simpa using this)))
   ·have := heap_alloc_new ((((w.alloc (.cells #[.slice ao ts.length cap, .slice bo cs.length dap] 25)).alloc (.cells #[.map none, .map none] 88)).alloc (.map #[] 0)).alloc (.map #[] 0)) (.cells #[.map (some (w.heap.size + 1 + 1)), .map (some (w.heap.size + 1 + 1 + 1))] 88)
    simpa using this
   ·exact (((((Below.refl _ _).alloc (Nat.le_refl _) _).alloc (by simp) _).alloc (by simp; omega) _).alloc (by simp; omega) _).alloc (by simp; omega) _
  go_loopw [6, 7, 30] (fun s6 s7 i wr => ∃ k : Nat, k ≤ ts.length ∧ i = .int .i64 k ∧ Hid (∀ q, q < k → errT ts q = 0) ∧ Hid (TOpen wr (w.heap.size + 1 + 1) k (ts.take k)) ∧ Hid (COpen w0 wr (w.heap.size + 1 + 1 + 1) 0 []) ∧ Hid (NT w wr ao ts.length cap bo cs.length dap)) (fun _ _ i _ => ts.length - (intOf i).toNat)
  case atStart => exact ⟨0, Nat.zero_le _, rfl, Lib.hid (fun q hq => absurd hq (Nat.not_lt_zero _)), Lib.hid (by simpa using O1b), Lib.hid (by simpa using O2b), Lib.hid N0⟩
  case round =>
   obtain ⟨k, hk, rfl, HA, HO1, HO2, HN⟩ := hrel
   have r0 : wr.cell? ⟨w.heap.size + 1, 0, none⟩ = some (.map none) := heap_cell HN.out.res rfl
   have r1 : wr.cell? ⟨w.heap.size + 1, 1, none⟩ = some (.map none) := heap_cell HN.out.res rfl
   have f0 : wr.frozen? ⟨w.heap.size + 1, 0, none⟩ = false := heap_frozen HN.out.res
   have f1 : wr.frozen? ⟨w.heap.size + 1, 1, none⟩ = false := heap_frozen HN.out.res
   have b0 : wr.cell? ⟨w.heap.size + 1 + 1 + 1 + 1, 0, none⟩ = some (.map (some (w.heap.size + 1 + 1))) := heap_cell HN.out.tab rfl
   have b1 : wr.cell? ⟨w.heap.size + 1 + 1 + 1 + 1, 1, none⟩ = some (.map (some (w.heap.size + 1 + 1 + 1))) := heap_cell HN.out.tab rfl
   have q0 : wr.cell? ⟨w.heap.size, 0, none⟩ = some (.slice ao ts.length cap) := heap_cell HN.out.box rfl
   have q1 : wr.cell? ⟨w.heap.size, 1, none⟩ = some (.slice bo cs.length dap) := heap_cell HN.out.box rfl
   have hs : w.heap.size + 1 + 1 + 1 + 1 < wr.heap.size := HN.out.big
   have hs1 : w.heap.size + 1 < wr.heap.size := by omega
   have hs0 : w.heap.size < wr.heap.size := by omega
   by_cases hlt : k < ts.length
   ·obtain ⟨b, off, rfl, hb, hat⟩ := T4.out (by omega)
    obtain ⟨x0, x1, x2⟩ := (hat k hlt)
    replace x0 := cell_later HN.out.low x0
    replace x1 := cell_later HN.out.low x1
    replace x2 := cell_later HN.out.low x2
    clear hat
    have hz := ZT.out _ (ty_mem ts k hlt)
    have HE0 := Lib.hid (errT_take ts k)
    have HTK := Lib.hid (ty_take ts k hlt)
    obtain ⟨p, hp⟩ : ∃ p, tyAt ts k = p := ⟨_, rfl⟩
    rw [hp] at x0 x1 x2 hz HE0 HTK
    clear hp
    have HC := Lib.hid (addType_s (w.heap.size + 1 + 1) (some (w.heap.size + 1 + 1 + 1)) k (ts.take k) p _ (HO1.out.kept (World.grownBy_alloc wr (.cells #[.string p.name, .int .i64 p.syn, .bool p.single] 104) none) (by simp)) (by omega) hz)
    have d1 : (k : Int) < (ts.length : Int) := by omega
    go_wp2_with fail
    refine HC.out.mono ?_
    rintro e w1 ⟨rfl, hg, hok⟩
    have HN1 := Lib.hid ((HN.out.alloc _).grown hg (.inl rfl))
    have HO3 := Lib.hid ((HO2.out.kept (World.grownBy_alloc wr _ none) (by simp)).kept hg (by simp))
    clear hg r0 r1 f0 f1 b0 b1 q0 q1 hs hs1 hs0 x0 x1 x2 HC
    by_cases he : errTy (ts.take k) p = 0
    ·have HO4 := Lib.hid (hok he)
     rw [he]
     clear hok
     go_wp2_with fail
     go_roundw
     case rel =>
      refine ⟨k + 1, by omega, by go_num, Lib.hid fun q hq => ?_, Lib.hid (by rw [HTK.out]; exact HO4.out), HO3, HN1⟩
      rcases Nat.lt_or_ge q k with h | h
      ·exact HA.out q h
      ·obtain rfl : q = k := by omega
       rw [HE0.out]; exact he
     case measure => simp [intOf]; omega
    ·have HE5 := Lib.hid (show chkS ts cs = errTy (ts.take k) p from (chkS_type hlim hlt HA.out (by rw [HE0.out]; exact he)).trans HE0.out)
     clear hok
     obtain ⟨c, hc⟩ : ∃ c, errTy (ts.take k) p = c := ⟨_, rfl⟩
     rw [hc] at he HE5 ⊢
     clear hc
     have r0 : w1.cell? ⟨w.heap.size + 1, 0, none⟩ = some (.map none) := heap_cell HN1.out.res rfl
     have r1 : w1.cell? ⟨w.heap.size + 1, 1, none⟩ = some (.map none) := heap_cell HN1.out.res rfl
     have f0 : w1.frozen? ⟨w.heap.size + 1, 0, none⟩ = false := heap_frozen HN1.out.res
     have f1 : w1.frozen? ⟨w.heap.size + 1, 1, none⟩ = false := heap_frozen HN1.out.res
     have b0 : w1.cell? ⟨w.heap.size + 1 + 1 + 1 + 1, 0, none⟩ = some (.map (some (w.heap.size + 1 + 1))) := heap_cell HN1.out.tab rfl
     have b1 : w1.cell? ⟨w.heap.size + 1 + 1 + 1 + 1, 1, none⟩ = some (.map (some (w.heap.size + 1 + 1 + 1))) := heap_cell HN1.out.tab rfl
     have hs : w.heap.size + 1 + 1 + 1 + 1 < w1.heap.size := HN1.out.big
     have hs1 : w.heap.size + 1 < w1.heap.size := by omega
     have hs0 : w.heap.size < w1.heap.size := by omega
     go_wp2_with fail
     refine bodyPost_ret (v := .tuple #[.agg #[.map none, .map none], .int .i64 c]) (by simp only [results, Tryz.results88]; go_simp) rfl ?_
     exact FIN.out c HE5.out he _ (below_set1 (below_set1 HN1.out.low (w.heap.size + 1) 0 hf _) (w.heap.size + 1) 1 hf _)
   ·obtain rfl : k = ts.length := by omega
    have d1 : ¬ (ts.length : Int) < (ts.length : Int) := by omega
    rw [List.take_length] at HO1
    go_wp2_with fail
    clear r0 r1 f0 f1 b0 b1 q0 q1 hs hs1 hs0 d1 hk hlt
    have HAT := HA
    clear HA
    go_loopw [9, 10, 45] (fun s9 s10 i wr => ∃ k : Nat, k ≤ cs.length ∧ i = .int .i64 k ∧ Hid (∀ q, q < k → errC ts cs q = 0) ∧ Hid (TOpen wr (w.heap.size + 1 + 1) ts.length ts) ∧ Hid (COpen w0 wr (w.heap.size + 1 + 1 + 1) k (cs.take k)) ∧ Hid (NT w wr ao ts.length cap bo cs.length dap)) (fun _ _ i _ => cs.length - (intOf i).toNat)
    case atStart => exact ⟨0, Nat.zero_le _, rfl, Lib.hid (fun q hq => absurd hq (Nat.not_lt_zero _)), HO1, HO2, HN⟩
    case round =>
     clear HO1 HO2 HN
     obtain ⟨k, hk, rfl, HA, HO1, HO2, HN⟩ := hrel
     have r0 : wr.cell? ⟨w.heap.size + 1, 0, none⟩ = some (.map none) := heap_cell HN.out.res rfl
     have r1 : wr.cell? ⟨w.heap.size + 1, 1, none⟩ = some (.map none) := heap_cell HN.out.res rfl
     have f0 : wr.frozen? ⟨w.heap.size + 1, 0, none⟩ = false := heap_frozen HN.out.res
     have f1 : wr.frozen? ⟨w.heap.size + 1, 1, none⟩ = false := heap_frozen HN.out.res
     have b0 : wr.cell? ⟨w.heap.size + 1 + 1 + 1 + 1, 0, none⟩ = some (.map (some (w.heap.size + 1 + 1))) := heap_cell HN.out.tab rfl
     have b1 : wr.cell? ⟨w.heap.size + 1 + 1 + 1 + 1, 1, none⟩ = some (.map (some (w.heap.size + 1 + 1 + 1))) := heap_cell HN.out.tab rfl
     have q0 : wr.cell? ⟨w.heap.size, 0, none⟩ = some (.slice ao ts.length cap) := heap_cell HN.out.box rfl
     have q1 : wr.cell? ⟨w.heap.size, 1, none⟩ = some (.slice bo cs.length dap) := heap_cell HN.out.box rfl
     have hs : w.heap.size + 1 + 1 + 1 + 1 < wr.heap.size := HN.out.big
     have hs1 : w.heap.size + 1 < wr.heap.size := by omega
     have hs0 : w.heap.size < wr.heap.size := by omega
     by_cases hlt : k < cs.length
     ·obtain ⟨b, off, rfl, hb, hat⟩ := K4.out (by omega)
      obtain ⟨x0, x1, ⟨a1, p1, q1', x2, s1⟩, a2, p2, q2', x3, s2⟩ := (hat k hlt)
      replace x0 := cell_later HN.out.low (cell_later H0.out x0)
      replace x1 := cell_later HN.out.low (cell_later H0.out x1)
      replace x2 := cell_later HN.out.low (cell_later H0.out x2)
      replace x3 := cell_later HN.out.low (cell_later H0.out x3)
      clear hat
      have hz := ZC.out _ (cl_mem cs k hlt)
      have HE0 := Lib.hid (errC_take ts cs k)
      have HTK := Lib.hid (cl_take cs k hlt)
      obtain ⟨p, hp⟩ : ∃ p, clAt cs k = p := ⟨_, rfl⟩
      rw [hp] at x0 x1 hz HE0 HTK s1 s2
      clear hp
      have HB2 := H0.out.trans ((HN.out.low.alloc (Nat.le_of_lt hs0) (.cells #[.string p.name, .string p.super, .slice a1 p1 q1', .slice a2 p2 q2'] 106)).mono H0.out.size)
      have HC := Lib.hid (addClass_s (some (w.heap.size + 1 + 1)) (w.heap.size + 1 + 1 + 1) k w0 ts (cs.take k) p a1 a2 p1 q1' p2 q2' _ (HO1.out.kept (World.grownBy_alloc wr (.cells #[.string p.name, .string p.super, .slice a1 p1 q1', .slice a2 p2 q2'] 106) none) (by simp)).map (HO2.out.kept (World.grownBy_alloc wr _ none) (by simp)) (by omega) (s1.below HB2) (s2.below HB2) ⟨⟨a1, p1, q1', rfl, s1⟩, a2, p2, q2', rfl, s2⟩ hz.1 hz.2.1 hz.2.2.1 hz.2.2.2)
      clear hz s1 s2 HB2
      have d1 : (k : Int) < (cs.length : Int) := by omega
      go_wp2_with fail
      refine HC.out.mono ?_
      rintro e w1 ⟨rfl, hg, hok⟩
      have HN1 := Lib.hid ((HN.out.alloc _).grown hg (.inr rfl))
      have HO3 := Lib.hid ((HO1.out.kept (World.grownBy_alloc wr _ none) (by simp)).kept hg (by simp))
      clear hg r0 r1 f0 f1 b0 b1 q0 q1 hs hs1 hs0 x0 x1 x2 x3 HC
      by_cases he : errCl ts (cs.take k) p = 0
      ·have HO4 := Lib.hid (hok he)
       rw [he]
       clear hok
       go_wp2_with fail
       go_roundw
       case rel =>
        refine ⟨k + 1, by omega, by go_num, Lib.hid fun q hq => ?_, HO3, Lib.hid (by rw [HTK.out]; exact HO4.out), HN1⟩
        rcases Nat.lt_or_ge q k with h | h
        ·exact HA.out q h
        ·obtain rfl : q = k := by omega
         rw [HE0.out]; exact he
       case measure => simp [intOf]; omega
      ·have HE5 := Lib.hid (show chkS ts cs = errCl ts (cs.take k) p from (chkS_class hlim HAT.out hlt HA.out (by rw [HE0.out]; exact he)).trans HE0.out)
       clear hok
       obtain ⟨c, hc⟩ : ∃ c, errCl ts (cs.take k) p = c := ⟨_, rfl⟩
       rw [hc] at he HE5 ⊢
       clear hc
       have r0 : w1.cell? ⟨w.heap.size + 1, 0, none⟩ = some (.map none) := heap_cell HN1.out.res rfl
       have r1 : w1.cell? ⟨w.heap.size + 1, 1, none⟩ = some (.map none) := heap_cell HN1.out.res rfl
       have f0 : w1.frozen? ⟨w.heap.size + 1, 0, none⟩ = false := heap_frozen HN1.out.res
       have f1 : w1.frozen? ⟨w.heap.size + 1, 1, none⟩ = false := heap_frozen HN1.out.res
       have b0 : w1.cell? ⟨w.heap.size + 1 + 1 + 1 + 1, 0, none⟩ = some (.map (some (w.heap.size + 1 + 1))) := heap_cell HN1.out.tab rfl
       have b1 : w1.cell? ⟨w.heap.size + 1 + 1 + 1 + 1, 1, none⟩ = some (.map (some (w.heap.size + 1 + 1 + 1))) := heap_cell HN1.out.tab rfl
       have hs : w.heap.size + 1 + 1 + 1 + 1 < w1.heap.size := HN1.out.big
       have hs1 : w.heap.size + 1 < w1.heap.size := by omega
       have hs0 : w.heap.size < w1.heap.size := by omega
       go_wp2_with fail
       refine bodyPost_ret (v := .tuple #[.agg #[.map none, .map none], .int .i64 c]) (by simp only [results, Tryz.results88]; go_simp) rfl ?_
       exact FIN.out c HE5.out he _ (below_set1 (below_set1 HN1.out.low (w.heap.size + 1) 0 hf _) (w.heap.size + 1) 1 hf _)
     ·obtain rfl : k = cs.length := by omega
      have d1 : ¬ (cs.length : Int) < (cs.length : Int) := by omega
      rw [List.take_length] at HO2
      have HL := Lib.hid (chkS_last hlim HAT.out HA.out)
      have HC := Lib.hid (typeOf_s (some (w.heap.size + 1 + 1)) (some (w.heap.size + 1 + 1 + 1)) ts classN wr HO1.out.map (by decide))
      obtain ⟨u, hu⟩ : ∃ u, (tyOf ts classN).getD zeroTy = u := ⟨_, rfl⟩
      obtain ⟨ok, hok⟩ : ∃ b, (tyOf ts classN).isSome = b := ⟨_, rfl⟩
      unfold tyV at HC
      rw [hu, hok] at HC HL
      clear hu hok
      go_wp2_with fail
      refine HC.out.mono ?_
      rintro e w3 ⟨rfl, hb⟩
      have HN3 := Lib.hid (HN.out.below hb)
      have HO3 := Lib.hid (HO1.out.kept (grown_of_below hb (row := none)) (by simp))
      have HO4 := Lib.hid (HO2.out.kept (grown_of_below hb (row := none)) (by simp))
      clear hb r0 r1 f0 f1 b0 b1 q0 q1 hs hs1 hs0 HC HO1 HO2 HN
      have r0 : w3.cell? ⟨w.heap.size + 1, 0, none⟩ = some (.map none) := heap_cell HN3.out.res rfl
      have r1 : w3.cell? ⟨w.heap.size + 1, 1, none⟩ = some (.map none) := heap_cell HN3.out.res rfl
      have f0 : w3.frozen? ⟨w.heap.size + 1, 0, none⟩ = false := heap_frozen HN3.out.res
      have f1 : w3.frozen? ⟨w.heap.size + 1, 1, none⟩ = false := heap_frozen HN3.out.res
      have b0 : w3.cell? ⟨w.heap.size + 1 + 1 + 1 + 1, 0, none⟩ = some (.map (some (w.heap.size + 1 + 1))) := heap_cell HN3.out.tab rfl
      have b1 : w3.cell? ⟨w.heap.size + 1 + 1 + 1 + 1, 1, none⟩ = some (.map (some (w.heap.size + 1 + 1 + 1))) := heap_cell HN3.out.tab rfl
      have hs : w.heap.size + 1 + 1 + 1 + 1 < w3.heap.size := HN3.out.big
      have hs1 : w.heap.size + 1 < w3.heap.size := by omega
      have hs0 : w.heap.size < w3.heap.size := by omega
      cases ok
      ·have HE5 := Lib.hid (show chkS ts cs = 6 from HL.out.trans rfl)
       go_wp2_with fail
       refine bodyPost_ret (v := .tuple #[.agg #[.map none, .map none], .int .i64 6]) (by simp only [results, Tryz.results88]; go_simp) rfl ?_
       exact FIN.out 6 HE5.out (by decide) _ ((below_set1 (below_set1 HN3.out.low (w.heap.size + 1) 0 hf _) (w.heap.size + 1) 1 hf _).alloc (by simp only [set_size]; omega) _)
      ·by_cases h1 : u.syn = 1
       ·have HE5 := Lib.hid (show chkS ts cs = 0 from HL.out.trans (by rw [h1]; rfl))
        go_wp2_with fail
        refine bodyPost_ret (v := .tuple #[.agg #[.map (some (w.heap.size + 1 + 1)), .map (some (w.heap.size + 1 + 1 + 1))], .int .i64 0]) (by simp only [results, Tryz.results88]; go_simp) rfl ?_
        have hts : soundT ts cs = ts := if_pos HE5.out
        have hcs : soundC ts cs = cs := if_pos HE5.out
        have g1 := grown_set w3 (w.heap.size + 1) 0 (.map (some (w.heap.size + 1 + 1)))
        have g2 := grown_set (w3.setCell ⟨w.heap.size + 1, 0, none⟩ (.map (some (w.heap.size + 1 + 1)))) (w.heap.size + 1) 1 (.map (some (w.heap.size + 1 + 1 + 1)))
        refine ⟨some (w.heap.size + 1 + 1), some (w.heap.size + 1 + 1 + 1), by rw [HE5.out], ?_, ?_, (fun b e => by have := Option.some.inj e; omega), (fun b e => by have := Option.some.inj e; omega), (below_set1 (below_set1 HN3.out.low (w.heap.size + 1) 0 hf _) (w.heap.size + 1) 1 hf _).alloc (by simp only [set_size]; omega) _⟩
        ·rw [hts]
         exact (((HO3.out.kept g1 (by simp)).kept g2 (by simp)).kept (World.grownBy_alloc _ _ none) (by simp)).map
        ·rw [hcs]
         exact (((HO4.out.kept g1 (by simp; omega)).kept g2 (by simp; omega)).kept (World.grownBy_alloc _ _ none) (by simp)).map
       ·have HE5 := Lib.hid (show chkS ts cs = 8 from HL.out.trans (by rw [if_neg h1]; rfl))
        go_wp2_with fail
        refine bodyPost_ret (v := .tuple #[.agg #[.map none, .map none], .int .i64 8]) (by simp only [results, Tryz.results88]; go_simp) rfl ?_
        exact FIN.out 8 HE5.out (by decide) _ ((below_set1 (below_set1 HN3.out.low (w.heap.size + 1) 0 hf _) (w.heap.size + 1) 1 hf _).alloc (by simp only [set_size]; omega) _)
def SchV (w : World) (v : Value) (ts : List Ty) (cs : List Cl) : Prop :=
 ∃ ao n cap bo m dap, v = .agg #[.slice ao n cap, .slice bo m dap] ∧ TysAt w ao n cap ts ∧ ClsAt w bo m dap cs ∧ SmT ts ∧ SmC cs
theorem SchV.below {w w' : World} {v : Value} {ts : List Ty} {cs : List Cl} (h : SchV w v ts cs) (hb : Below w.heap.size w w') : SchV w' v ts cs := by
 obtain ⟨ao, n, cap, bo, m, dap, e, h1, h2, h3, h4⟩ := h
 exact ⟨ao, n, cap, bo, m, dap, e, h1.below hb, h2.below hb, h3, h4⟩
def TabV (w : World) (v : Value) (ts : List Ty) (cs : List Cl) : Prop := ∃ m1 m2, v = .agg #[.map m1, .map m2] ∧ TMap w m1 ts ∧ CMap w w m2 cs
theorem TabV.below {w w' : World} {v : Value} {ts : List Ty} {cs : List Cl} (h : TabV w v ts cs) (hb : Below w.heap.size w w') : TabV w' v ts cs := by
 obtain ⟨m1, m2, e, h1, h2⟩ := h
 exact ⟨m1, m2, e, h1.below hb, (h2.below hb).base hb⟩
set_option maxHeartbeats 4000000 in
theorem accepted_s (v : Value) (ts : List Ty) (cs : List Cl) (w : World) (h : SchV w v ts cs) :
  Calls Tryz.prog 45 #[v] w fun e w' => ∃ u, e = .returned u ∧ TabV w' u (soundT ts cs) (soundC ts cs) ∧ Below w.heap.size w w' := by
 obtain ⟨ao, n, cap, bo, m, dap, rfl, h1, h2, h3, h4⟩ := h
 have hb0 : Below w.heap.size w ((w.alloc (.cells #[.slice ao n cap, .slice bo m dap] 25)).alloc (.cells #[.map none, .map none] 88)) := ((Below.refl _ _).alloc (Nat.le_refl _) _).alloc (by simp) _
 have HB0 := Lib.hid hb0
 have HC := Lib.hid (newTable_s ao bo n cap m dap ts cs w _ hb0 (h1.below hb0) h2 h3 h4)
 clear h1 h2 h3 h4 hb0
 go_enter Tryz.func45, Tryz.ntmps45
 go_wp2_with fail
 refine HC.out.mono ?_
 rintro e w1 ⟨m1, m2, rfl, hT, hC, hf1, hf2, hb⟩
 have r0 : w1.cell? ⟨w.heap.size + 1, 0, none⟩ = some (.map none) := cell_later hb (by go_simp)
 have r1 : w1.cell? ⟨w.heap.size + 1, 1, none⟩ = some (.map none) := cell_later hb (by go_simp)
 have f0 := frozen_later (i := 0) hb (b := w.heap.size + 1) (by simp) (by go_simp)
 have f1 := frozen_later (i := 1) hb (b := w.heap.size + 1) (by simp) (by go_simp)
 have hs1 : w.heap.size + 1 < w1.heap.size := by have := hb.size; simp at this; omega
 have hs0 : w.heap.size ≤ w.heap.size + 1 := Nat.le_succ _
 have HB1 := Lib.hid (HB0.out.trans (hb.mono (by simp; omega)))
 have HT := Lib.hid hT
 have HC2 := Lib.hid hC
 have HF := Lib.hid (And.intro (show ∀ b, m1 = some b → some b ≠ some (w.heap.size + 1) from fun b e h => by have := hf1 b e; have := Option.some.inj h; simp at *; omega) (show ∀ b, m2 = some b → some b ≠ some (w.heap.size + 1) from fun b e h => by have := hf2 b e; have := Option.some.inj h; simp at *; omega))
 clear hb hT hC HC hf1 hf2
 go_wp2_with fail
 refine bodyPost_ret (v := .agg #[.map m1, .map m2]) (by simp only [results, Tryz.results45]; go_simp) rfl ?_
 have g1 := grown_set w1 (w.heap.size + 1) 0 (.map m1)
 have g2 := grown_set (w1.setCell ⟨w.heap.size + 1, 0, none⟩ (.map m1)) (w.heap.size + 1) 1 (.map m2)
 have HBe := (below_set1 (below_set1 HB1.out (w.heap.size + 1) 0 hs0 (.map m1)) (w.heap.size + 1) 1 hs0 (.map m2)).alloc (by simp only [set_size]; omega) (.cells #[.map m1, .map m2] 88)
 refine ⟨_, rfl, ⟨m1, m2, rfl, ?_, ?_⟩, HBe⟩
 ·exact ((HT.out.kept g1 HF.out.1).kept g2 HF.out.1).kept (World.grownBy_alloc _ _ none) (by simp)
 ·exact (((HC2.out.kept g1 HF.out.2).kept g2 HF.out.2).kept (World.grownBy_alloc _ _ none) (by simp)).base HBe
def CB (W : World) (g : Nat) (a b c d : Value) : Prop :=
 (W.cell? ⟨g, 0, none⟩ = some a ∧ W.cell? ⟨g, 1, none⟩ = some b ∧ W.cell? ⟨g, 2, none⟩ = some c ∧ W.cell? ⟨g, 3, none⟩ = some d) ∧ W.frozen? ⟨g, 0, none⟩ = false ∧ W.frozen? ⟨g, 1, none⟩ = false ∧ W.frozen? ⟨g, 2, none⟩ = false ∧ W.frozen? ⟨g, 3, none⟩ = false
theorem cb_new (W : World) (a b c d : Value) (t : TypeId) : CB (W.alloc (.cells #[a, b, c, d] t)) W.heap.size a b c d := by
 have h : (W.alloc (.cells #[a, b, c, d] t)).heap[W.heap.size]? = some (.cells #[a, b, c, d] t (0, 0)) := heap_alloc_new W _
 exact ⟨⟨heap_cell h rfl, heap_cell h rfl, heap_cell h rfl, heap_cell h rfl⟩, heap_frozen h, heap_frozen h, heap_frozen h, heap_frozen h⟩
theorem CB.keep {W V : World} {g : Nat} {a b c d : Value} (h : CB W g a b c d) (e : V.heap[g]? = W.heap[g]?) : CB V g a b c d := by
 have k1 : ∀ i, V.cell? ⟨g, i, none⟩ = W.cell? ⟨g, i, none⟩ := fun i => World.cell?_of_block (a := ⟨g, i, none⟩) e
 have k2 : ∀ i, V.frozen? ⟨g, i, none⟩ = W.frozen? ⟨g, i, none⟩ := fun i => by unfold World.frozen?; rw [show V.heap[(⟨g, i, none⟩ : Addr).block]? = W.heap[(⟨g, i, none⟩ : Addr).block]? from e]
 unfold CB
 rw [k1, k1, k1, k1, k2, k2, k2, k2]; exact h
theorem CB.set {W : World} {g : Nat} {a b c d : Value} (h : CB W g a b c d) (x y z u : Value) : CB ((((W.setCell ⟨g, 0, none⟩ x).setCell ⟨g, 1, none⟩ y).setCell ⟨g, 2, none⟩ z).setCell ⟨g, 3, none⟩ u) g x y z u := by
 obtain ⟨⟨h0, h1, h2, h3⟩, f0, f1, f2, f3⟩ := h
 have ne : ∀ i j : Nat, i ≠ j → (⟨g, i, none⟩ : Addr) ≠ ⟨g, j, none⟩ := fun i j hij e => hij (by injection e)
 refine ⟨⟨?_, ?_, ?_, ?_⟩, ?_, ?_, ?_, ?_⟩
 ·rw [World.cell?_setCell_other _ _ _ _ (ne 3 0 (by decide)), World.cell?_setCell_other _ _ _ _ (ne 2 0 (by decide)), World.cell?_setCell_other _ _ _ _ (ne 1 0 (by decide))]
  exact World.cell?_setCell_same _ _ _ h0
 ·rw [World.cell?_setCell_other _ _ _ _ (ne 3 1 (by decide)), World.cell?_setCell_other _ _ _ _ (ne 2 1 (by decide))]
  exact World.cell?_setCell_same _ _ _ ((World.cell?_setCell_other _ _ _ _ (ne 0 1 (by decide))).trans h1)
 ·rw [World.cell?_setCell_other _ _ _ _ (ne 3 2 (by decide))]
  exact World.cell?_setCell_same _ _ _ (((World.cell?_setCell_other _ _ _ _ (ne 1 2 (by decide))).trans (World.cell?_setCell_other _ _ _ _ (ne 0 2 (by decide)))).trans h2)
 ·exact World.cell?_setCell_same _ _ _ ((((World.cell?_setCell_other _ _ _ _ (ne 2 3 (by decide))).trans (World.cell?_setCell_other _ _ _ _ (ne 1 3 (by decide)))).trans (World.cell?_setCell_other _ _ _ _ (ne 0 3 (by decide)))).trans h3)
 all_goals simp only [World.frozen?_setCell]; assumption
theorem grown_set4 (W : World) (g : Nat) (x y z u : Value) : W.grownBy ((((W.setCell ⟨g, 0, none⟩ x).setCell ⟨g, 1, none⟩ y).setCell ⟨g, 2, none⟩ z).setCell ⟨g, 3, none⟩ u) (some g) :=
 grown_two (grown_set W g 0 x) (grown_two (grown_set _ g 1 y) (grown_two (grown_set _ g 2 z) (grown_set _ g 3 u)))
def lenOf : Value → Nat | .slice _ n _ => n | _ => 0
structure LAt (w0 w W : World) (mt mc : Option Nat) (cs : List Cl) (n : ByteArray) (l : List Cv) (u : Value) (cur : ByteArray) (g : Nat) (c : Cl) (a1 : Option Addr) (p1 q1 : Nat) (a2 : Option Addr) (p2 q2 : Nat) (b : Bool) : Prop where
 own : W.ownsRow (w.heap.size + 1) 106 4 u l.length (ccells l)
 ok : ∀ d ∈ l, CvOk w0 d
 all : ccls l ++ lineS cs cur = lineS cs n
 got : ClGot w0 cs cur ⟨c, .slice a1 p1 q1, .slice a2 p2 q2⟩
 is : (clOf cs cur).isSome = b
 box : CB W g (.string c.name) (.string c.super) (.slice a1 p1 q1) (.slice a2 p2 q2)
 far : u.ownBlock ≠ some g
 high : w.heap.size + 1 ≤ g
 lt : g < W.heap.size
 m0 : W.cell? ⟨w.heap.size, 0, none⟩ = some (.map mt)
 m1 : W.cell? ⟨w.heap.size, 1, none⟩ = some (.map mc)
 low : Below w.heap.size w W
 big : w.heap.size < W.heap.size
theorem own_slc {w : World} {base n size : Nat} {e : TypeId} {v : Value} {xs : List Value} (h : w.ownsRow base e size v n xs) : ∃ ao cap, v = .slice ao n cap := by
 rcases h.2 with ⟨rfl, h0⟩ | ⟨g, cap, cur, rfl, _⟩
 ·exact ⟨none, 0, by rw [h0]⟩
 ·exact ⟨_, cap, rfl⟩
theorem ClGot.small {w0 : World} {cs : List Cl} {n : ByteArray} {d : Cv} (h : ClGot w0 cs n d) (hz : SmC cs) : d.cl.super.size ≤ 1000000000 := by
 cases e : clOf cs n with
 | none => rw [h.1 e]; exact Nat.zero_le _
 | some c => rw [(h.2 c e).1]; exact (hz c (clOf_mem e)).2.1
theorem lat_box {w0 w W V : World} {mt mc : Option Nat} {cs : List Cl} {n cur : ByteArray} {l : List Cv} {u : Value} {g : Nat} {c : Cl} {a1 a2 : Option Addr} {p1 q1 p2 q2 : Nat} {b : Bool} {o : Obj} (h : LAt w0 w W mt mc cs n l u cur g c a1 p1 q1 a2 p2 q2 b) (hg : (W.alloc o).grownBy V u.ownBlock) :
  CB V g (.string c.name) (.string c.super) (.slice a1 p1 q1) (.slice a2 p2 q2) ∧ V.cell? ⟨w.heap.size, 0, none⟩ = some (.map mt) ∧ V.cell? ⟨w.heap.size, 1, none⟩ = some (.map mc) ∧ Below w.heap.size w V ∧ W.heap.size < V.heap.size := by
 have hal := (Below.refl W.heap.size W).alloc (Nat.le_refl _) o
 have hne : ∀ k, k ≤ w.heap.size → some k ≠ u.ownBlock := fun k hk e => by have := (h.own.lt k e.symm).1; omega
 refine ⟨h.box.keep ((hg.block g (by have := h.lt; simp; omega) (fun e => h.far e.symm)).trans (heap_old h.lt)), ?_, ?_, (h.low.trans (hal.mono (Nat.le_of_lt h.big))).grown hg (by have := h.big; simp; omega) (fun k e => by have := (h.own.lt k e).1; omega), by have := hg.size; simp at this; omega⟩
 ·exact (hg.cell (cell_later hal h.m0) (fun e => hne _ (Nat.le_refl _) e))
 ·exact (hg.cell (cell_later hal h.m1) (fun e => hne _ (Nat.le_refl _) e))
set_option maxHeartbeats 8000000 in
theorem lineage_s (mt mc : Option Nat) (w0 : World) (cs : List Cl) (n : ByteArray) (w : World) (h : CMap w0 w mc cs) (hS : SoundC cs) (hL : cs.length ≤ 1000) (hZ : SmC cs) (hn : n.size ≤ 1000000000) :
  Calls Tryz.prog 120 #[.agg #[.map mt, .map mc], .string n] w fun e w' => ∃ (u : Value) (l : List Cv), e = .returned u ∧ ccls l = lineS cs n ∧ (∀ d ∈ l, CvOk w0 d) ∧ w'.ownsRow (w.heap.size + 1) 106 4 u l.length (ccells l) ∧ Below w.heap.size w w' := by
 have HS := Lib.hid hS; have HZ := Lib.hid hZ
 have HC := Lib.hid (fun (n : ByteArray) (W : World) (hn : n.size ≤ 1000000000) (hW : Below w.heap.size w W) => class_s mt mc w0 cs n W (h.below hW) hn)
 clear h hS hZ
 have HB0 : Hid (Below w.heap.size w (w.alloc (.cells #[.map mt, .map mc] 88))) := Lib.hid ((Below.refl _ _).alloc (Nat.le_refl _) _)
 go_enter Tryz.func120, Tryz.ntmps120
 go_wp2_with fail
 refine (HC.out n _ hn HB0.out).mono ?_
 rintro e w1 ⟨⟨c, _, _⟩, a1, p1, q1, a2, p2, q2, rfl, rfl, hg, rfl, hb⟩
 dsimp only
 obtain ⟨ok, hok⟩ : ∃ b, (clOf cs n).isSome = b := ⟨_, rfl⟩
 rw [hok]
 have hs : w.heap.size < w1.heap.size := by have := hb.size; simp at this; omega
 have hal := (Below.refl w1.heap.size w1).alloc (Nat.le_refl _) (.cells #[.string c.name, .string c.super, .slice a1 p1 q1, .slice a2 p2 q2] 106)
 have L0 : Hid (LAt w0 w (w1.alloc (.cells #[.string c.name, .string c.super, .slice a1 p1 q1, .slice a2 p2 q2] 106)) mt mc cs n [] (.slice none 0 0) n w1.heap.size c a1 p1 q1 a2 p2 q2 ok) :=
  Lib.hid ⟨World.ownsRow_nil _ _ _ _, (fun d hd => by cases hd), rfl, hg, hok, cb_new w1 _ _ _ _ _, (by simp [Value.ownBlock]), hs, by simp, cell_later hal (cell_later hb (by go_simp)), cell_later hal (cell_later hb (by go_simp)), HB0.out.trans ((hb.trans (hal.mono hb.size)).mono (by simp)), by simp; omega⟩
 clear hb hg hok HB0 hal
 go_wp2_with fail
 go_loopw [5, 6, 7] (fun s5 s6 s7 wr => ∃ (l : List Cv) (ao : Option Addr) (cap : Nat) (cur : ByteArray) (g : Nat) (c : Cl) (a1 : Option Addr) (p1 q1 : Nat) (a2 : Option Addr) (p2 q2 : Nat) (b : Bool), s5 = .slice ao l.length cap ∧ s6 = .pointer (some ⟨g, 0, none⟩) ∧ s7 = .bool b ∧ Hid (LAt w0 w wr mt mc cs n l (.slice ao l.length cap) cur g c a1 p1 q1 a2 p2 q2 b)) (fun s5 _ _ _ => cs.length + 1 - lenOf s5)
 case atStart => exact ⟨[], none, 0, n, w1.heap.size, c, a1, p1, q1, a2, p2, q2, ok, rfl, rfl, rfl, L0⟩
 case round =>
  clear L0 hs
  obtain ⟨l, ao, cap, cur, g, c, a1, p1, q1, a2, p2, q2, b, rfl, rfl, rfl, HL⟩ := hrel
  cases b
  ·go_wp2_with fail
   go_ret
   have hz : clOf cs cur = none := by
    have := HL.out.is
    cases e : clOf cs cur with
    | none => rfl
    | some x => rw [e] at this; cases this
   have hall := HL.out.all
   rw [lineS_none hz, List.append_nil] at hall
   exact ⟨_, l, rfl, hall, HL.out.ok, HL.out.own, HL.out.low⟩
  ·obtain ⟨cc, hcc⟩ : ∃ cc, clOf cs cur = some cc := by
    have := HL.out.is
    cases e : clOf cs cur with
    | none => rw [e] at this; cases this
    | some x => exact ⟨x, rfl⟩
   obtain ⟨hcl, hok⟩ := HL.out.got.2 cc hcc
   simp only at hcl
   subst hcl
   have hstep := lineS_step HS.out hcc
   have hlen : l.length + 1 ≤ cs.length := by
    have h1 := lineS_small HS.out n
    rw [← HL.out.all, List.length_append, ccls_len, hstep, List.length_cons] at h1
    omega
   have hall : ccls (l ++ [⟨c, .slice a1 p1 q1, .slice a2 p2 q2⟩]) ++ lineS cs c.super = lineS cs n := by
    rw [ccls_snoc, List.append_assoc, ← HL.out.all, hstep]; rfl
   have hsz := (HZ.out c (clOf_mem hcc)).2.1
   have HOK := Lib.hid hok
   have HA := Lib.hid hall
   obtain ⟨⟨c0, c1, c2, c3⟩, f0, f1, f2, f3⟩ := HL.out.box
   have hown := HL.out.own
   have hglt := HL.out.lt
   have hbig := HL.out.big
   have m0 := HL.out.m0
   have m1 := HL.out.m1
   clear hok hall hstep f0 f1 f2 f3
   have HM := Lib.hid (And.intro m0 m1)
   clear m0 m1
   go_wp2_with (at_builtin; go_must (refine push_class wr hown (.tmp 22) (.tmp 24) ⟨c, .slice a1 p1 q1, .slice a2 p2 q2⟩ HOK.out ?_ ?_ ?_ ?_ ?_ ?_ ?_; exact rfl; exact rfl; exact rfl; exact rfl; omega; exact hbig; intro v3 w3 hown3 hg3 hl3; obtain ⟨⟨⟨k0, k1, k2, k3⟩, _⟩, m0, m1, hb3, hs3⟩ := lat_box HL.out hg3; have hs3b : w.heap.size < w3.heap.size := (by omega); have hs3c : g < w3.heap.size := (by omega); have HB3 := Lib.hid hb3; have HX3 := Lib.hid (And.intro hown3 (And.intro hg3 hl3)); clear hb3 hown3 hg3 hl3 c0 c1 c2 c3))
   have hX := (Below.refl w3.heap.size w3).alloc (Nat.le_refl _) (.cells #[.string c.name, .string c.super, .slice a1 p1 q1, .slice a2 p2 q2] 106)
   have HX := Lib.hid hX; clear hX
   have HM3 := Lib.hid (And.intro m0 m1)
   obtain ⟨ao3, cap3, rfl⟩ := own_slc HX3.out.1
   refine (HC.out c.super _ hsz (HB3.out.trans (HX.out.mono (Nat.le_of_lt hs3b)))).mono ?_
   rintro e w4 ⟨⟨c', _, _⟩, a1', p1', q1', a2', p2', q2', rfl, rfl, hg', rfl, hb⟩
   dsimp only
   obtain ⟨ok', hok'⟩ : ∃ b, (clOf cs c.super).isSome = b := ⟨_, rfl⟩
   rw [hok']
   have HCB := Lib.hid (show CB w4 w3.heap.size (.string c.name) (.string c.super) (.slice a1 p1 q1) (.slice a2 p2 q2) from (cb_new w3 _ _ _ _ _).keep (hb.block _ (by simp)))
   have HG := Lib.hid (And.intro hg' hok')
   have HX4 := Lib.hid (And.intro (own_below (own_below HX3.out.1 HX.out) hb) (And.intro (cell_later hb (cell_later HX.out HM3.out.1)) (And.intro (cell_later hb (cell_later HX.out HM3.out.2)) (HB3.out.trans ((HX.out.trans (hb.mono (by simp))).mono (Nat.le_of_lt hs3b))))))
   have hs4 : w3.heap.size < w4.heap.size := by have := hb.size; simp at this; omega
   clear hb hg' hok' m0 m1 k0 k1 k2 k3
   obtain ⟨⟨e0, e1, e2, e3⟩, f0, f1, f2, f3⟩ := HCB.out
   go_wp2_with fail
   go_roundw
   case rel =>
    have hfar : ∀ q, (Value.slice ao3 (l.length + 1) cap3).ownBlock = some q → q < w3.heap.size := fun q e => (HX3.out.1.lt q e).2
    have hG4 := grown_set4 w4 w3.heap.size (.string c'.name) (.string c'.super) (.slice a1' p1' q1') (.slice a2' p2' q2')
    have hne : (Value.slice ao3 (l.length + 1) cap3).ownBlock ≠ some w3.heap.size := fun e => by have := hfar _ e; omega
    have hlen2 : (l ++ [(⟨c, .slice a1 p1 q1, .slice a2 p2 q2⟩ : Cv)]).length = l.length + 1 := by rw [List.length_append]; rfl
    refine ⟨l ++ [⟨c, .slice a1 p1 q1, .slice a2 p2 q2⟩], ao3, cap3, c.super, w3.heap.size, c', a1', p1', q1', a2', p2', q2', ok', by rw [hlen2], rfl, rfl, Lib.hid ?_⟩
    rw [hlen2]
    refine ⟨?_, ?_, HA.out, HG.out.1, HG.out.2, HCB.out.set _ _ _ _, hne, by omega, by simp only [set_size]; omega, ?_, ?_, ?_, by simp only [set_size]; omega⟩
    ·rw [hlen2, ccells_snoc]
     exact HX4.out.1.kept hG4 (by
      cases h : (Value.slice ao3 (l.length + 1) cap3).ownBlock with
      | none => exact .inl rfl
      | some q => exact .inr (fun e => by rw [h] at hne; exact hne e))
    ·intro d hd
     rcases List.mem_append.1 hd with h | h
     ·exact HL.out.ok d h
     ·rw [List.mem_singleton.1 h]; exact HOK.out
    ·exact cell_turned HX4.out.2.1 hG4 (by show w.heap.size ≠ w3.heap.size; omega)
    ·exact cell_turned HX4.out.2.2.1 hG4 (by show w.heap.size ≠ w3.heap.size; omega)
    ·exact HX4.out.2.2.2.grown hG4 (by omega) (fun k e => by have := Option.some.inj e; omega)
   case measure => simp [lenOf]; omega
end Go.Proofs.YtonfkhkalodldabGreatDoor
end
