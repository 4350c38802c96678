/-
  Texts of the schema layer and of those beneath it, joined: EntSmM, EntSm8, EntEx0. Conditions stand at each contract.
-/
import Derived.Test.YtonfkhkalodldabGreatDoorT18
set_option linter.unusedVariables false
set_option linter.unusedSimpArgs false
set_option linter.unnecessarySimpa false

section
set_option maxRecDepth 100000
namespace Go.Proofs.YtonfkhkalodldabGreatDoor
open Go.RowKit Go.PlainAid
theorem keep6b {w w1 w2 : World} {f : Nat} {A B C D E F : Addr} {x y z u s t : Value} (h : w1.cell? A = some x ∧ w1.cell? B = some y ∧ w1.cell? C = some z ∧ w1.cell? D = some u ∧ w1.cell? E = some s ∧ w1.cell? F = some t ∧ Hid (Below f w w1 ∧ f ≤ w1.heap.size)) (hb : Below w1.heap.size w1 w2) : w2.cell? A = some x ∧ w2.cell? B = some y ∧ w2.cell? C = some z ∧ w2.cell? D = some u ∧ w2.cell? E = some s ∧ w2.cell? F = some t ∧ Hid (Below f w w2 ∧ f ≤ w2.heap.size) :=
 ⟨cell_later hb h.1, cell_later hb h.2.1, cell_later hb h.2.2.1, cell_later hb h.2.2.2.1, cell_later hb h.2.2.2.2.1, cell_later hb h.2.2.2.2.2.1, Lib.hid ⟨h.2.2.2.2.2.2.out.1.trans (hb.mono h.2.2.2.2.2.2.out.2), Nat.le_trans h.2.2.2.2.2.2.out.2 hb.size⟩⟩
instance : DecidableEq Md := fun a b =>
 if h : a.op = b.op ∧ a.name = b.name ∧ a.vs = b.vs then isTrue (by
  obtain ⟨o, n, v⟩ := a
  obtain ⟨o', n', v'⟩ := b
  obtain ⟨h1, h2, h3⟩ := h
  simp only at h1 h2 h3
  rw [h1, h2, h3]) else isFalse fun e => h (by rw [e]; exact ⟨rfl, rfl, rfl⟩)
theorem md_get (l : List Md) (i : Nat) (h : i < l.length) : mdD l i = l[i] := by
 unfold mdD
 rw [List.getD_eq_getElem?_getD, List.getElem?_eq_getElem h]; rfl
theorem mds_ext {l k : List Md} (h : l.length = k.length) (hj : ∀ j, j < l.length → mdD l j = mdD k j) : l = k := by
 apply List.ext_getElem h
 intro i h1 h2
 have := hj i h1
 rwa [md_get l i h1, md_get k i h2] at this
set_option maxRecDepth 100000 in
set_option maxHeartbeats 8000000 in
theorem sameM8_s (ao bo : Option Addr) (n m cap dap : Nat) (l k : List Md) (w : World) (h : MdsAt w ao n cap l) (h' : MdsAt w bo m dap k) :
  Calls Tryz.prog 21 #[.slice ao n cap, .slice bo m dap] w fun e w' => e = .returned (.bool (decide (l = k))) ∧ Below w.heap.size w w' := by
 obtain ⟨h1, h2, h3, h4⟩ := h
 obtain ⟨k1, k2, k3, k4⟩ := h'
 subst h1
 subst k1
 unfold maxLen at h3 k3
 have H4 := Lib.hid h4; clear h4
 have K4 := Lib.hid k4; clear k4
 by_cases hne : l.length = k.length
 ·have hn1 : ((l.length : Int) != (k.length : Int)) = false := by simp; omega
  have HNE := Lib.hid hne
  clear hne
  go_enter Tryz.func21, Tryz.ntmps21
  go_wp2
  go_loopw [5] (fun i wr => ∃ q : Nat, q ≤ l.length ∧ i = .int .i64 q ∧ Hid (∀ j, j < q → mdD l j = mdD k j) ∧ Hid (Below w.heap.size w wr)) (fun i _ => l.length - (intOf i).toNat)
  case atStart => exact ⟨0, Nat.zero_le _, rfl, Lib.hid (fun j hj => absurd hj (Nat.not_lt_zero _)), Lib.hid (Below.refl _ _)⟩
  case round =>
   obtain ⟨q, hq, rfl, HA, HB⟩ := hrel
   by_cases hlt : q < l.length
   ·obtain ⟨b, off, rfl, hblt, hat⟩ := H4.out (by omega)
    obtain ⟨c, off2, rfl, hclt, hct⟩ := K4.out (by have := HNE.out; omega)
    obtain ⟨a0, a1, vo, vn, vc, a2, hv0⟩ := hat q hlt
    obtain ⟨b0, b1, uo, un, uc, b2, hu0⟩ := hct q (by have := HNE.out; omega)
    have a0 := cell_later HB.out a0
    have a1 := cell_later HB.out a1
    have a2 := cell_later HB.out a2
    have b0 := cell_later HB.out b0
    have b1 := cell_later HB.out b1
    have b2 := cell_later HB.out b2
    have HVd : Hid (StrsAt wr.drew vo vn vc (mdD l q).vs) := Lib.hid ((hv0.below HB.out).below (Below.refl _ wr).drew)
    have HUd : Hid (StrsAt wr.drew uo un uc (mdD k q).vs) := Lib.hid ((hu0.below HB.out).below (Below.refl _ wr).drew)
    clear hv0 hu0 hat hct
    obtain ⟨x, hx⟩ : ∃ x, mdD l q = x := ⟨_, rfl⟩
    obtain ⟨y, hy⟩ : ∃ x, mdD k q = x := ⟨_, rfl⟩
    rw [hx] at a0 a1 HVd
    rw [hy] at b0 b1 HUd
    have HX := Lib.hid hx
    have HY := Lib.hid hy
    clear hx hy
    obtain ⟨o, p, vs⟩ := x
    obtain ⟨o', r, us⟩ := y
    simp only [] at a0 b0 a1 b1 HVd HUd
    have d0 : (0 : Int) ≤ (q : Int) := by omega
    have d1 : (q : Int) < (l.length : Int) := by omega
    have d2 : (q : Int) < (k.length : Int) := by have := HNE.out; omega
    have HBd : Hid (Below w.heap.size w wr.drew ∧ w.heap.size ≤ wr.drew.heap.size) := Lib.hid ⟨HB.out.drew, HB.out.size⟩
    by_cases ho : o = o'
    ·have r2 : (o != o') = false := by rw [ho]; simp
     by_cases hpr : p = r
     ·have q1 : (p.toList == r.toList) = true := by rw [str_eq]; exact decide_eq_true hpr
      have q2 : (p.toList != r.toList) = false := by unfold bne; rw [q1]; rfl
      obtain ⟨z, hz⟩ : ∃ z, decide (vs = us) = z := ⟨_, rfl⟩
      have HZ := Lib.hid hz
      clear hz
      cases z with
      | true =>
       have HE := Lib.hid (show mdD l q = mdD k q by rw [HX.out, HY.out, hpr, ho, of_decide_eq_true HZ.out])
       clear hpr ho
       go_wp2_with fail
       refine wp_region_held_drew (S := fun W => W.cell? ⟨b, off + q * 3, none⟩ = some (.int .i64 o) ∧ W.cell? ⟨c, off2 + q * 3, none⟩ = some (.int .i64 o') ∧ W.cell? ⟨b, off + q * 3 + 1, none⟩ = some (.string p) ∧ W.cell? ⟨c, off2 + q * 3 + 1, none⟩ = some (.string r) ∧ W.cell? ⟨b, off + q * 3 + 2, none⟩ = some (.slice vo vn vc) ∧ W.cell? ⟨c, off2 + q * 3 + 2, none⟩ = some (.slice uo un uc) ∧ Hid (Below w.heap.size w W ∧ w.heap.size ≤ W.heap.size)) (by kernel_rfl) (⟨a0, b0, a1, b1, a2, b2, HBd⟩) (fun hS => ?_)
       refine rgT 0 (some 17) ?_
       refine rgT 1 (some 18) ?_
       refine rgT 2 (some 19) ?_
       refine rgT 3 (some 20) ?_
       refine rgT 4 (some 21) ?_
       refine rgT 5 (some 22) ?_
       refine rgT 6 (some 23) ?_
       refine rgT 7 (some 24) ?_
       refine rgT 8 (some 25) ?_
       refine rgT 9 (some 26) ?_
       refine rgT 10 (some 27) ?_
       refine rgT 11 (some 28) ?_
       refine rgT 12 (some 29) ?_
       refine rgT 13 (some 30) ?_
       refine rgT 14 (some 31) ?_
       refine rgT 15 (some 32) ?_
       refine rgT 16 (some 33) ?_
       refine rgT 17 (some 34) ?_
       refine rgT 18 (some 35) ?_
       refine rgT 19 (some 36) ?_
       refine rgT 20 (some 37) ?_
       refine rgT 21 (some 38) ?_
       refine rgT 22 (some 39) ?_
       refine rgT 23 (some 40) ?_
       refine rgT 24 (some 41) ?_
       refine rgT 25 (some 42) ?_
       refine rgT 26 (some 43) ?_
       refine rgT 27 (some 44) ?_
       refine rgT 28 (some 45) ?_
       refine rgT 29 (some 46) ?_
       refine rgT 30 (some 47) ?_
       refine rgT 31 (some 48) ?_
       refine rgT 32 (some 49) ?_
       refine rgT 33 (some 50) ?_
       refine rgT 34 (some 51) ?_
       refine rgC 35 (fun K hK => ?_)
       go_simp
       refine (sameS8_s vo uo vn un vc uc vs us _ HVd.out HUd.out).mono ?_
       rintro e w5 ⟨rfl, hb⟩
       rw [HZ.out]
       go_wp2_with fail
       refine hK.out _ _ ?_ (fun hHeld => ?_)
       ·exact keep6b (by assumption) hb
       clear hK K
       try simp only [Act.put, lsA, lsZ, lsS]
       refine rgT 36 (some 53) ?_
       refine rgT 37 (some 54) ?_
       refine wpAnyH_done (by kernel_rfl) ?_ _
       have HB6 := Lib.hid (HBd.out.1.trans (hb.mono HBd.out.2))
       go_wp2_with fail
       go_roundw
       case rel =>
        refine ⟨q + 1, by omega, by go_num, Lib.hid fun j hj => ?_, HB6⟩
        by_cases e : j = q
        ·rw [e]; exact HE.out
        ·exact HA.out j (by omega)
       case measure => simp [intOf]; omega
      | false =>
       have HE := Lib.hid (show decide (l = k) = false from decide_eq_false fun e => of_decide_eq_false HZ.out (by have h5 := HX.out; rw [e, HY.out] at h5; exact (congrArg Md.vs h5).symm))
       clear hpr ho
       go_wp2_with fail
       refine wp_region_held_drew (S := fun W => W.cell? ⟨b, off + q * 3, none⟩ = some (.int .i64 o) ∧ W.cell? ⟨c, off2 + q * 3, none⟩ = some (.int .i64 o') ∧ W.cell? ⟨b, off + q * 3 + 1, none⟩ = some (.string p) ∧ W.cell? ⟨c, off2 + q * 3 + 1, none⟩ = some (.string r) ∧ W.cell? ⟨b, off + q * 3 + 2, none⟩ = some (.slice vo vn vc) ∧ W.cell? ⟨c, off2 + q * 3 + 2, none⟩ = some (.slice uo un uc) ∧ Hid (Below w.heap.size w W ∧ w.heap.size ≤ W.heap.size)) (by kernel_rfl) (⟨a0, b0, a1, b1, a2, b2, HBd⟩) (fun hS => ?_)
       refine rgT 0 (some 17) ?_
       refine rgT 1 (some 18) ?_
       refine rgT 2 (some 19) ?_
       refine rgT 3 (some 20) ?_
       refine rgT 4 (some 21) ?_
       refine rgT 5 (some 22) ?_
       refine rgT 6 (some 23) ?_
       refine rgT 7 (some 24) ?_
       refine rgT 8 (some 25) ?_
       refine rgT 9 (some 26) ?_
       refine rgT 10 (some 27) ?_
       refine rgT 11 (some 28) ?_
       refine rgT 12 (some 29) ?_
       refine rgT 13 (some 30) ?_
       refine rgT 14 (some 31) ?_
       refine rgT 15 (some 32) ?_
       refine rgT 16 (some 33) ?_
       refine rgT 17 (some 34) ?_
       refine rgT 18 (some 35) ?_
       refine rgT 19 (some 36) ?_
       refine rgT 20 (some 37) ?_
       refine rgT 21 (some 38) ?_
       refine rgT 22 (some 39) ?_
       refine rgT 23 (some 40) ?_
       refine rgT 24 (some 41) ?_
       refine rgT 25 (some 42) ?_
       refine rgT 26 (some 43) ?_
       refine rgT 27 (some 44) ?_
       refine rgT 28 (some 45) ?_
       refine rgT 29 (some 46) ?_
       refine rgT 30 (some 47) ?_
       refine rgT 31 (some 48) ?_
       refine rgT 32 (some 49) ?_
       refine rgT 33 (some 50) ?_
       refine rgT 34 (some 51) ?_
       refine rgC 35 (fun K hK => ?_)
       go_simp
       refine (sameS8_s vo uo vn un vc uc vs us _ HVd.out HUd.out).mono ?_
       rintro e w5 ⟨rfl, hb⟩
       rw [HZ.out]
       go_wp2_with fail
       refine hK.out _ _ ?_ (fun hHeld => ?_)
       ·exact keep6b (by assumption) hb
       clear hK K
       try simp only [Act.put, lsA, lsZ, lsS]
       refine rgT 36 (some 53) ?_
       refine rgT 37 (some 54) ?_
       refine wpAnyH_done (by kernel_rfl) ?_ _
       have HB6 := Lib.hid (HBd.out.1.trans (hb.mono HBd.out.2))
       go_wp2_with fail
       go_ret
       exact ⟨by rw [HE.out]; rfl, HB6.out⟩
     ·have q1 : (p.toList == r.toList) = false := by rw [str_eq]; exact decide_eq_false hpr
      have q2 : (p.toList != r.toList) = true := by unfold bne; rw [q1]; rfl
      have HE := Lib.hid (show decide (l = k) = false from decide_eq_false fun e => hpr (by have h5 := HX.out; rw [e, HY.out] at h5; exact (congrArg Md.name h5).symm))
      clear hpr ho
      go_wp2_with fail
      refine wp_region_held_drew (S := fun W => W.cell? ⟨b, off + q * 3, none⟩ = some (.int .i64 o) ∧ W.cell? ⟨c, off2 + q * 3, none⟩ = some (.int .i64 o') ∧ W.cell? ⟨b, off + q * 3 + 1, none⟩ = some (.string p) ∧ W.cell? ⟨c, off2 + q * 3 + 1, none⟩ = some (.string r) ∧ Hid (Below w.heap.size w W ∧ w.heap.size ≤ W.heap.size)) (by kernel_rfl) (⟨a0, b0, a1, b1, HBd⟩) (fun hS => ?_)
      refine rgT 0 (some 17) ?_
      refine rgT 1 (some 18) ?_
      refine rgT 2 (some 19) ?_
      refine rgT 3 (some 20) ?_
      refine rgT 4 (some 21) ?_
      refine rgT 5 (some 22) ?_
      refine rgT 6 (some 23) ?_
      refine rgT 7 (some 24) ?_
      refine rgT 8 (some 25) ?_
      refine rgT 9 (some 26) ?_
      refine rgT 10 (some 27) ?_
      refine rgT 11 (some 28) ?_
      refine rgT 12 (some 29) ?_
      refine rgT 13 (some 30) ?_
      refine rgT 14 (some 31) ?_
      refine rgT 15 (some 32) ?_
      refine rgT 16 (some 33) ?_
      refine rgT 17 (some 34) ?_
      refine rgT 18 (some 35) ?_
      refine rgT 19 (some 36) ?_
      refine rgT 20 (some 37) ?_
      refine rgT 21 (some 38) ?_
      refine rgT 22 (some 39) ?_
      refine rgT 23 (some 40) ?_
      refine rgT 24 (some 41) ?_
      refine rgS 25 (some 42) ?_
      refine rgS 26 (some 43) ?_
      refine rgS 27 (some 44) ?_
      refine rgS 28 (some 45) ?_
      refine rgS 29 (some 46) ?_
      refine rgS 30 (some 47) ?_
      refine rgS 31 (some 48) ?_
      refine rgS 32 (some 49) ?_
      refine rgS 33 (some 50) ?_
      refine rgS 34 (some 51) ?_
      refine rgS 35 (some 52) ?_
      refine rgS 36 (some 53) ?_
      refine rgT 37 (some 54) ?_
      refine wpAnyH_done (by kernel_rfl) ?_ _
      go_wp2_with fail
      go_ret
      exact ⟨by rw [HE.out]; rfl, HBd.out.1⟩
    ·have r2 : (o != o') = true := by simpa using ho
     have HE := Lib.hid (show decide (l = k) = false from decide_eq_false fun e => ho (by have h5 := HX.out; rw [e, HY.out] at h5; exact (congrArg Md.op h5).symm))
     clear ho
     go_wp2_with fail
     refine wp_region_held_drew (S := fun W => W.cell? ⟨b, off + q * 3, none⟩ = some (.int .i64 o) ∧ W.cell? ⟨c, off2 + q * 3, none⟩ = some (.int .i64 o') ∧ Hid (Below w.heap.size w W ∧ w.heap.size ≤ W.heap.size)) (by kernel_rfl) (⟨a0, b0, HBd⟩) (fun hS => ?_)
     refine rgT 0 (some 17) ?_
     refine rgT 1 (some 18) ?_
     refine rgT 2 (some 19) ?_
     refine rgT 3 (some 20) ?_
     refine rgT 4 (some 21) ?_
     refine rgT 5 (some 22) ?_
     refine rgT 6 (some 23) ?_
     refine rgT 7 (some 24) ?_
     refine rgT 8 (some 25) ?_
     refine rgT 9 (some 26) ?_
     refine rgT 10 (some 27) ?_
     refine rgT 11 (some 28) ?_
     refine rgS 12 (some 29) ?_
     refine rgS 13 (some 30) ?_
     refine rgS 14 (some 31) ?_
     refine rgS 15 (some 32) ?_
     refine rgS 16 (some 33) ?_
     refine rgS 17 (some 34) ?_
     refine rgS 18 (some 35) ?_
     refine rgS 19 (some 36) ?_
     refine rgS 20 (some 37) ?_
     refine rgS 21 (some 38) ?_
     refine rgS 22 (some 39) ?_
     refine rgT 23 (some 40) ?_
     refine rgT 24 (some 41) ?_
     refine rgS 25 (some 42) ?_
     refine rgS 26 (some 43) ?_
     refine rgS 27 (some 44) ?_
     refine rgS 28 (some 45) ?_
     refine rgS 29 (some 46) ?_
     refine rgS 30 (some 47) ?_
     refine rgS 31 (some 48) ?_
     refine rgS 32 (some 49) ?_
     refine rgS 33 (some 50) ?_
     refine rgS 34 (some 51) ?_
     refine rgS 35 (some 52) ?_
     refine rgS 36 (some 53) ?_
     refine rgT 37 (some 54) ?_
     refine wpAnyH_done (by kernel_rfl) ?_ _
     go_wp2_with fail
     go_ret
     exact ⟨by rw [HE.out]; rfl, HBd.out.1⟩
   ·have HE := Lib.hid (show decide (l = k) = true from decide_eq_true (mds_ext HNE.out fun j hj => HA.out j (by omega)))
    go_wp2_with fail
    go_ret
    exact ⟨by rw [HE.out]; rfl, HB.out⟩
 ·have HE := Lib.hid (show decide (l = k) = false from decide_eq_false fun e => hne (by rw [e]))
  have hn1 : ((l.length : Int) != (k.length : Int)) = true := by simp; omega
  go_enter Tryz.func21, Tryz.ntmps21
  go_wp2
  go_ret
  exact ⟨by rw [HE.out]; rfl, Below.refl _ _⟩
def exT8 : List Ty := [⟨⟨#[99, 108, 97, 115, 115]⟩, 1, false⟩, ⟨⟨#[99, 110]⟩, 1, false⟩, ⟨⟨#[115, 110]⟩, 1, false⟩, ⟨⟨#[110, 117, 109]⟩, 3, false⟩]
def exC8 : List Cl := [⟨⟨#[112, 101, 114, 115, 111, 110]⟩, ⟨#[]⟩, [⟨#[99, 108, 97, 115, 115]⟩, ⟨#[99, 110]⟩], [⟨#[115, 110]⟩, ⟨#[110, 117, 109]⟩]⟩]
structure Sm4 (W : World) (b : Nat) : Prop where
 t : Kb W b (.cells #[.string ⟨#[99, 108, 97, 115, 115]⟩, .int .i64 1, .bool false, .string ⟨#[99, 110]⟩, .int .i64 1, .bool false, .string ⟨#[115, 110]⟩, .int .i64 1, .bool false, .string ⟨#[110, 117, 109]⟩, .int .i64 3, .bool false] 104)
 s1 : Kb W (b + 1) (.cells #[.string ⟨#[99, 108, 97, 115, 115]⟩, .string ⟨#[99, 110]⟩] 9)
 s2 : Kb W (b + 1 + 1) (.cells #[.string ⟨#[115, 110]⟩, .string ⟨#[110, 117, 109]⟩] 9)
 c : Kb W (b + 1 + 1 + 1) (.cells #[.string ⟨#[112, 101, 114, 115, 111, 110]⟩, .string ⟨#[]⟩, .slice (some ⟨b + 1, 0, none⟩) 2 2, .slice (some ⟨b + 1 + 1, 0, none⟩) 2 2] 106)
theorem sm4_types {W : World} {b : Nat} (h : Sm4 W b) : TysAt W (some ⟨b, 0, none⟩) 4 4 exT8 :=
 ⟨rfl, Nat.le_refl _, by unfold maxLen; omega, fun _ => ⟨b, 0, rfl, h.t.big, fun j hj => by
  match j, hj with
  | 0, _ => exact ⟨h.t.cell rfl, h.t.cell rfl, h.t.cell rfl⟩
  | 1, _ => exact ⟨h.t.cell rfl, h.t.cell rfl, h.t.cell rfl⟩
  | 2, _ => exact ⟨h.t.cell rfl, h.t.cell rfl, h.t.cell rfl⟩
  | 3, _ => exact ⟨h.t.cell rfl, h.t.cell rfl, h.t.cell rfl⟩⟩⟩
theorem sm4_classes {W : World} {b : Nat} (h : Sm4 W b) : ClsAt W (some ⟨b + 1 + 1 + 1, 0, none⟩) 1 1 exC8 :=
 ⟨rfl, Nat.le_refl _, by unfold maxLen; omega, fun _ => ⟨b + 1 + 1 + 1, 0, rfl, h.c.big, fun j hj => by
  match j, hj with
  | 0, _ => exact ⟨h.c.cell rfl, h.c.cell rfl, ⟨_, _, _, h.c.cell rfl, strs_kb (l := [⟨#[99, 108, 97, 115, 115]⟩, ⟨#[99, 110]⟩]) h.s1 rfl (by unfold maxLen; omega)⟩, _, _, _, h.c.cell rfl, strs_kb (l := [⟨#[115, 110]⟩, ⟨#[110, 117, 109]⟩]) h.s2 rfl (by unfold maxLen; omega)⟩⟩⟩
theorem sm4_sch {W : World} {b : Nat} (h : Sm4 W b) : SchV W (.agg #[.slice (some ⟨b, 0, none⟩) 4 4, .slice (some ⟨b + 1 + 1 + 1, 0, none⟩) 1 1]) exT8 exC8 :=
 ⟨_, _, _, _, _, _, rfl, sm4_types h, sm4_classes h, smT_dec (by decide +kernel), smC_dec (by decide +kernel)⟩
theorem tower4 (w : World) (o0 o1 o2 o3 o4 : Obj) : Kb (((((w.alloc o0).alloc o1).alloc o2).alloc o3).alloc o4) (w.heap.size + 1) o1 ∧ Kb (((((w.alloc o0).alloc o1).alloc o2).alloc o3).alloc o4) (w.heap.size + 1 + 1) o2 ∧
  Kb (((((w.alloc o0).alloc o1).alloc o2).alloc o3).alloc o4) (w.heap.size + 1 + 1 + 1) o3 ∧ Kb (((((w.alloc o0).alloc o1).alloc o2).alloc o3).alloc o4) (w.heap.size + 1 + 1 + 1 + 1) o4 ∧ Below w.heap.size w (((((w.alloc o0).alloc o1).alloc o2).alloc o3).alloc o4) := by
 have s : ∀ (W : World) (o : Obj), (W.alloc o).heap.size = W.heap.size + 1 := fun W o => by simp
 have k1 := kb_at (W := w.alloc o0) o1 (s _ _)
 have k2 := kb_at (W := (w.alloc o0).alloc o1) o2 (by rw [s, s])
 have k3 := kb_at (W := ((w.alloc o0).alloc o1).alloc o2) o3 (by rw [s, s, s])
 have k4 := kb_at (W := (((w.alloc o0).alloc o1).alloc o2).alloc o3) o4 (by rw [s, s, s, s])
 refine ⟨((k1.step (below_al _ _)).step (below_al _ _)).step (below_al _ _), (k2.step (below_al _ _)).step (below_al _ _), k3.step (below_al _ _), k4, ?_⟩
 exact (((((Below.refl w.heap.size w).alloc (Nat.le_refl _) o0).alloc (by simp only [s]; omega) o1).alloc (by simp only [s]; omega) o2).alloc (by simp only [s]; omega) o3).alloc (by simp only [s]; omega) o4
set_option maxHeartbeats 4000000 in
theorem small_e (w : World) : Calls Tryz.prog 22 #[] w fun e w' => ∃ to tn tc co cn cc, e = .returned (.agg #[.slice to tn tc, .slice co cn cc]) ∧ SchV w' (.agg #[.slice to tn tc, .slice co cn cc]) exT8 exC8 ∧ Below w.heap.size w w' := by
 go_enter Tryz.func22, Tryz.ntmps22
 go_wp2_with fail
 refine bodyPost_ret (v := .agg #[.slice (some ⟨w.heap.size + 1, 0, none⟩) 4 4, .slice (some ⟨w.heap.size + 1 + 1 + 1 + 1, 0, none⟩) 1 1]) (by simp only [results, Tryz.results22]; go_simp) rfl ?_
 have ht := tower4 w (.cells #[.slice (some ⟨w.heap.size + 1, 0, none⟩) 4 4, .slice (some ⟨w.heap.size + 1 + 1 + 1 + 1, 0, none⟩) 1 1] 25) (.cells #[.string ⟨#[99, 108, 97, 115, 115]⟩, .int .i64 1, .bool false, .string ⟨#[99, 110]⟩, .int .i64 1, .bool false, .string ⟨#[115, 110]⟩, .int .i64 1, .bool false, .string ⟨#[110, 117, 109]⟩, .int .i64 3, .bool false] 104) (.cells #[.string ⟨#[99, 108, 97, 115, 115]⟩, .string ⟨#[99, 110]⟩] 9) (.cells #[.string ⟨#[115, 110]⟩, .string ⟨#[110, 117, 109]⟩] 9) (.cells #[.string ⟨#[112, 101, 114, 115, 111, 110]⟩, .string ⟨#[]⟩, .slice (some ⟨w.heap.size + 1 + 1, 0, none⟩) 2 2, .slice (some ⟨w.heap.size + 1 + 1 + 1, 0, none⟩) 2 2] 106)
 exact ⟨_, _, _, _, _, _, rfl, sm4_sch (b := w.heap.size + 1) ⟨ht.1, ht.2.1, ht.2.2.1, ht.2.2.2.1⟩, ht.2.2.2.2⟩
theorem ann_e (ao : Option Addr) (n cap : Nat) (w : World) : Calls Tryz.prog 19 #[.slice ao n cap] w fun e w' => e = .returned (.agg #[.string ⟨#[99, 110, 61, 97, 110, 110]⟩, .slice ao n cap]) ∧ Below w.heap.size w w' := by
 have hb := below_al w (.cells #[.string ⟨#[99, 110, 61, 97, 110, 110]⟩, .slice ao n cap] 28)
 go_enter Tryz.func19, Tryz.ntmps19
 go_wp2_with fail
 refine bodyPost_ret (v := .agg #[.string ⟨#[99, 110, 61, 97, 110, 110]⟩, .slice ao n cap]) (by simp only [results, Tryz.results19]; go_simp) rfl ?_
 exact ⟨rfl, hb⟩
theorem e8_chk : chkS exT8 exC8 = 0 := by decide +kernel
theorem e8_st : soundT exT8 exC8 = exT8 := if_pos e8_chk
theorem e8_sc : soundC exT8 exC8 = exC8 := if_pos e8_chk
theorem e8_c1 : enC ⟨#[99, 110, 61, 97, 110, 110]⟩ [] = 0 := by decide +kernel
theorem e8_c2 : enC ⟨#[]⟩ [] = 5 := by decide +kernel
theorem e8_t : txV ⟨#[99, 110, 61, 97, 110, 110]⟩ [(⟨#[115, 110]⟩, [⟨#[97, 32, 98]⟩])] = ⟨#[101, 110, 116, 114, 121, 32, 99, 110, 37, 51, 68, 97, 110, 110, 10, 115, 110, 32, 97, 37, 50, 48, 98, 10]⟩ := by decide +kernel
theorem e8_te : enC ⟨#[99, 110, 61, 97, 110, 110]⟩ [(⟨#[115, 110]⟩, [⟨#[97, 32, 98]⟩])] = 0 := by decide +kernel
theorem e8_d : enD ⟨#[99, 110, 61, 97, 110, 110]⟩ [(⟨#[110, 117, 109]⟩, [⟨#[49]⟩, ⟨#[50]⟩])] ⟨#[99, 110, 61, 97, 110, 110]⟩ [(⟨#[110, 117, 109]⟩, [⟨#[50]⟩, ⟨#[51]⟩])] = [⟨2, ⟨#[110, 117, 109]⟩, [⟨#[49]⟩]⟩, ⟨1, ⟨#[110, 117, 109]⟩, [⟨#[51]⟩]⟩] := by decide +kernel
theorem e8_ne : enE exT8 exC8 ⟨#[67, 78, 61, 65, 110, 110]⟩ [(⟨#[67, 108, 97, 115, 115]⟩, [⟨#[112, 101, 114, 115, 111, 110]⟩]), (⟨#[99, 110]⟩, [⟨#[65, 110, 110]⟩]), (⟨#[110, 117, 109]⟩, [⟨#[55]⟩])] = 0 := by decide +kernel
theorem e8_nn : enN exT8 exC8 ⟨#[67, 78, 61, 65, 110, 110]⟩ [(⟨#[67, 108, 97, 115, 115]⟩, [⟨#[112, 101, 114, 115, 111, 110]⟩]), (⟨#[99, 110]⟩, [⟨#[65, 110, 110]⟩]), (⟨#[110, 117, 109]⟩, [⟨#[55]⟩])] = ⟨#[99, 110, 61, 97, 110, 110]⟩ := by decide +kernel
theorem e8_nl : enL exT8 exC8 ⟨#[67, 78, 61, 65, 110, 110]⟩ [(⟨#[67, 108, 97, 115, 115]⟩, [⟨#[112, 101, 114, 115, 111, 110]⟩]), (⟨#[99, 110]⟩, [⟨#[65, 110, 110]⟩]), (⟨#[110, 117, 109]⟩, [⟨#[55]⟩])] = [(⟨#[99, 108, 97, 115, 115]⟩, [⟨#[112, 101, 114, 115, 111, 110]⟩]), (⟨#[99, 110]⟩, [⟨#[97, 110, 110]⟩]), (⟨#[110, 117, 109]⟩, [⟨#[55]⟩])] := by decide +kernel
theorem e8_ae : apE exT8 exC8 ⟨#[99, 110, 61, 97, 110, 110]⟩ [(⟨#[99, 108, 97, 115, 115]⟩, [⟨#[112, 101, 114, 115, 111, 110]⟩]), (⟨#[99, 110]⟩, [⟨#[97, 110, 110]⟩]), (⟨#[110, 117, 109]⟩, [⟨#[55]⟩])] [⟨3, ⟨#[99, 110]⟩, [⟨#[66, 111, 98]⟩]⟩] = 0 := by decide +kernel
theorem e8_an : apN exT8 exC8 ⟨#[99, 110, 61, 97, 110, 110]⟩ [(⟨#[99, 108, 97, 115, 115]⟩, [⟨#[112, 101, 114, 115, 111, 110]⟩]), (⟨#[99, 110]⟩, [⟨#[97, 110, 110]⟩]), (⟨#[110, 117, 109]⟩, [⟨#[55]⟩])] [⟨3, ⟨#[99, 110]⟩, [⟨#[66, 111, 98]⟩]⟩] = ⟨#[99, 110, 61, 97, 110, 110]⟩ := by decide +kernel
theorem e8_al : apL exT8 exC8 ⟨#[99, 110, 61, 97, 110, 110]⟩ [(⟨#[99, 108, 97, 115, 115]⟩, [⟨#[112, 101, 114, 115, 111, 110]⟩]), (⟨#[99, 110]⟩, [⟨#[97, 110, 110]⟩]), (⟨#[110, 117, 109]⟩, [⟨#[55]⟩])] [⟨3, ⟨#[99, 110]⟩, [⟨#[66, 111, 98]⟩]⟩] = [(⟨#[99, 108, 97, 115, 115]⟩, [⟨#[112, 101, 114, 115, 111, 110]⟩]), (⟨#[99, 110]⟩, [⟨#[98, 111, 98]⟩]), (⟨#[110, 117, 109]⟩, [⟨#[55]⟩])] := by decide +kernel
theorem mcells_at {T : List Mv} {i : Nat} (hi : i < T.length) : (mcells T)[i * 3]? = some (.int .i64 (T.getD i default).md.op) ∧ (mcells T)[i * 3 + 1]? = some (.string (T.getD i default).md.name) ∧ (mcells T)[i * 3 + 2]? = some (T.getD i default).hd := by
 induction T generalizing i with
 | nil => exact absurd hi (Nat.not_lt_zero _)
 | cons t T ih =>
  cases i with
  | zero => exact ⟨rfl, rfl, rfl⟩
  | succ i =>
   have := ih (i := i) (by simpa using hi)
   rw [show (i + 1) * 3 = i * 3 + 1 + 1 + 1 by omega]
   exact this
theorem mmds_at {T : List Mv} {i : Nat} (hi : i < T.length) : mdD (mmds T) i = (T.getD i default).md := by
 unfold mdD mmds
 rw [List.getD_eq_getElem?_getD, List.getElem?_map, List.getD_eq_getElem?_getD, List.getElem?_eq_getElem hi]; rfl
theorem DvI.mds {w W : World} {v : Value} {T : List Mv} (h : DvI w v T W) : ∃ ao cap, v = .slice ao T.length cap ∧ MdsAt W ao T.length cap (mmds T) := by
 have h0 := h.row
 have hl : (mmds T).length = T.length := by unfold mmds; rw [List.length_map]
 rcases h0.2 with ⟨e, hn⟩ | ⟨g, cap, cur, e, hb, hg, hc, hm, hcs, ht⟩
 ·refine ⟨none, 0, by rw [e, hn], hl, by omega, by unfold maxLen; omega, fun k => by omega⟩
 ·refine ⟨_, cap, e, hl, hc, hm, fun h1 => ⟨g, 0, rfl, ?_, fun j hj => ?_⟩⟩
  ·rcases Nat.lt_or_ge g W.heap.size with h' | h'
   ·exact h'
   ·simp [Array.getElem?_eq_none h'] at hg
  ·rw [e] at h0
   obtain ⟨c0, c1, c2⟩ := mcells_at hj
   have x0 := h0.cells (g := g) rfl _ _ c0
   have x1 := h0.cells (g := g) rfl _ _ c1
   have x2 := h0.cells (g := g) rfl _ _ c2
   rw [Go.WideShapes.add_plain] at x0 x1 x2
   have hmem : T.getD j default ∈ T := by
    rw [List.getD_eq_getElem?_getD, List.getElem?_eq_getElem hj]; exact List.getElem_mem _
   obtain ⟨vo, vc, ev, hs⟩ := strs_own (h.own _ hmem).1 rfl
   rw [mmds_at hj]
   refine ⟨x0, by rw [← Nat.add_assoc] at x1; exact x1, vo, _, vc, ?_, hs⟩
   rw [← ev]
   rw [← Nat.add_assoc] at x2; exact x2
theorem sizes (W : World) (o : Obj) : (W.alloc o).heap.size = W.heap.size + 1 := by simp
theorem ats1 (w : World) (nm : ByteArray) (vs : List ByteArray) (hl : vs.length ≤ 100) :
  AttrsAt ((w.alloc (.cells (scells vs).toArray 9)).alloc (.cells #[.string nm, .slice (some ⟨w.heap.size, 0, none⟩) vs.length vs.length] 41)) (some ⟨w.heap.size + 1, 0, none⟩) 1 1 [(nm, vs)] := by
 have k1 := (kbl_new w (.cells (scells vs).toArray 9)).step (below_al _ (.cells #[.string nm, .slice (some ⟨w.heap.size, 0, none⟩) vs.length vs.length] 41))
 have k2 := kb_at (W := w.alloc (.cells (scells vs).toArray 9)) (.cells #[.string nm, .slice (some ⟨w.heap.size, 0, none⟩) vs.length vs.length] 41) (sizes _ _)
 refine ts_ats (T := [(nm, .slice (some ⟨w.heap.size, 0, none⟩) vs.length vs.length, vs)]) (ts_kb k2 (by show 1 ≤ maxLen; unfold maxLen; omega)) fun t ht => ?_
 rw [List.mem_singleton.1 ht]
 exact ⟨_, _, _, rfl, strs_kb k1 rfl (by unfold maxLen; omega)⟩
theorem ats3 (w : World) (n1 n2 n3 v1 v2 v3 : ByteArray) :
  AttrsAt ((((w.alloc (.cells #[.string v1] 9)).alloc (.cells #[.string v2] 9)).alloc (.cells #[.string v3] 9)).alloc
   (.cells #[.string n1, .slice (some ⟨w.heap.size, 0, none⟩) 1 1, .string n2, .slice (some ⟨w.heap.size + 1, 0, none⟩) 1 1, .string n3, .slice (some ⟨w.heap.size + 1 + 1, 0, none⟩) 1 1] 41)) (some ⟨w.heap.size + 1 + 1 + 1, 0, none⟩) 3 3 [(n1, [v1]), (n2, [v2]), (n3, [v3])] := by
 have k1 := (((kbl_new w (.cells #[.string v1] 9)).step (below_al _ (.cells #[.string v2] 9))).step (below_al _ (.cells #[.string v3] 9))).step (below_al _ (.cells #[.string n1, .slice (some ⟨w.heap.size, 0, none⟩) 1 1, .string n2, .slice (some ⟨w.heap.size + 1, 0, none⟩) 1 1, .string n3, .slice (some ⟨w.heap.size + 1 + 1, 0, none⟩) 1 1] 41))
 have k2 := ((kb_at (W := w.alloc (.cells #[.string v1] 9)) (.cells #[.string v2] 9) (sizes _ _)).step (below_al _ (.cells #[.string v3] 9))).step (below_al _ (.cells #[.string n1, .slice (some ⟨w.heap.size, 0, none⟩) 1 1, .string n2, .slice (some ⟨w.heap.size + 1, 0, none⟩) 1 1, .string n3, .slice (some ⟨w.heap.size + 1 + 1, 0, none⟩) 1 1] 41))
 have k3 := (kb_at (W := (w.alloc (.cells #[.string v1] 9)).alloc (.cells #[.string v2] 9)) (.cells #[.string v3] 9) (by rw [sizes, sizes])).step (below_al _ (.cells #[.string n1, .slice (some ⟨w.heap.size, 0, none⟩) 1 1, .string n2, .slice (some ⟨w.heap.size + 1, 0, none⟩) 1 1, .string n3, .slice (some ⟨w.heap.size + 1 + 1, 0, none⟩) 1 1] 41))
 have k4 := kb_at (W := ((w.alloc (.cells #[.string v1] 9)).alloc (.cells #[.string v2] 9)).alloc (.cells #[.string v3] 9)) (.cells #[.string n1, .slice (some ⟨w.heap.size, 0, none⟩) 1 1, .string n2, .slice (some ⟨w.heap.size + 1, 0, none⟩) 1 1, .string n3, .slice (some ⟨w.heap.size + 1 + 1, 0, none⟩) 1 1] 41) (by rw [sizes, sizes, sizes])
 refine ts_ats (T := [(n1, .slice (some ⟨w.heap.size, 0, none⟩) 1 1, [v1]), (n2, .slice (some ⟨w.heap.size + 1, 0, none⟩) 1 1, [v2]), (n3, .slice (some ⟨w.heap.size + 1 + 1, 0, none⟩) 1 1, [v3])]) (ts_kb k4 (by show 3 ≤ maxLen; unfold maxLen; omega)) fun t ht => ?_
 simp only [List.mem_cons, List.not_mem_nil, or_false] at ht
 rcases ht with rfl | rfl | rfl
 ·exact ⟨_, _, _, rfl, strs_kb k1 rfl (by unfold maxLen; omega)⟩
 ·exact ⟨_, _, _, rfl, strs_kb k2 rfl (by unfold maxLen; omega)⟩
 ·exact ⟨_, _, _, rfl, strs_kb k3 rfl (by unfold maxLen; omega)⟩
theorem mds2 (w : World) (o1 o2 : Int) (n1 n2 v1 v2 : ByteArray) :
  MdsAt (((w.alloc (.cells #[.string v1] 9)).alloc (.cells #[.string v2] 9)).alloc (.cells #[.int .i64 o1, .string n1, .slice (some ⟨w.heap.size, 0, none⟩) 1 1, .int .i64 o2, .string n2, .slice (some ⟨w.heap.size + 1, 0, none⟩) 1 1] 57)) (some ⟨w.heap.size + 1 + 1, 0, none⟩) 2 2 [⟨o1, n1, [v1]⟩, ⟨o2, n2, [v2]⟩] := by
 have k1 := ((kbl_new w (.cells #[.string v1] 9)).step (below_al _ (.cells #[.string v2] 9))).step (below_al _ (.cells #[.int .i64 o1, .string n1, .slice (some ⟨w.heap.size, 0, none⟩) 1 1, .int .i64 o2, .string n2, .slice (some ⟨w.heap.size + 1, 0, none⟩) 1 1] 57))
 have k2 := (kb_at (W := w.alloc (.cells #[.string v1] 9)) (.cells #[.string v2] 9) (sizes _ _)).step (below_al _ (.cells #[.int .i64 o1, .string n1, .slice (some ⟨w.heap.size, 0, none⟩) 1 1, .int .i64 o2, .string n2, .slice (some ⟨w.heap.size + 1, 0, none⟩) 1 1] 57))
 have k3 := kb_at (W := (w.alloc (.cells #[.string v1] 9)).alloc (.cells #[.string v2] 9)) (.cells #[.int .i64 o1, .string n1, .slice (some ⟨w.heap.size, 0, none⟩) 1 1, .int .i64 o2, .string n2, .slice (some ⟨w.heap.size + 1, 0, none⟩) 1 1] 57) (by rw [sizes, sizes])
 refine ⟨rfl, Nat.le_refl _, by unfold maxLen; omega, fun _ => ⟨_, 0, rfl, k3.big, fun j hj => ?_⟩⟩
 match j, hj with
 | 0, _ => exact ⟨k3.cell rfl, k3.cell rfl, _, _, _, k3.cell rfl, strs_kb (l := [v1]) k1 rfl (by unfold maxLen; omega)⟩
 | 1, _ => exact ⟨k3.cell rfl, k3.cell rfl, _, _, _, k3.cell rfl, strs_kb (l := [v2]) k2 rfl (by unfold maxLen; omega)⟩
theorem mds1 {W : World} {b1 b2 : Nat} {o : Int} {n v : ByteArray} (k1 : Kb W b1 (.cells #[.string v] 9)) (k2 : Kb W b2 (.cells #[.int .i64 o, .string n, .slice (some ⟨b1, 0, none⟩) 1 1] 57)) : MdsAt W (some ⟨b2, 0, none⟩) 1 1 [⟨o, n, [v]⟩] := by
 refine ⟨rfl, Nat.le_refl _, by unfold maxLen; omega, fun _ => ⟨_, 0, rfl, k2.big, fun j hj => ?_⟩⟩
 match j, hj with
 | 0, _ => exact ⟨k2.cell rfl, k2.cell rfl, _, _, _, k2.cell rfl, strs_kb (l := [v]) k1 rfl (by unfold maxLen; omega)⟩
theorem fewV_dec {l : List At} (h : l.all (fun a => decide (a.2.length ≤ 1000)) = true) : FewV l := fun a ha => by
 have := of_decide_eq_true (List.all_eq_true.1 h a ha); omega
end Go.Proofs.YtonfkhkalodldabGreatDoor
end
