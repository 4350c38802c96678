/-
  Texts of the schema layer and of those beneath it, joined: ChgAw, ChgLaws. Conditions stand at each contract.
-/
import Derived.Test.YtbkignlbcneddaaGreatDoorX12
import Derived.Test.YtbkignlbcneddaaGreatDoorX24
import Derived.Test.YtbkignlbcneddaaGreatDoorX25
import Derived.Test.YtbkignlbcneddaaGreatDoorX27
set_option linter.unusedVariables false
set_option linter.unusedSimpArgs false
set_option linter.unnecessarySimpa false

section
/-
  The contract of the law's awake: the chapter's examples. Condition: the program's variables lie as COk says.
-/
set_option maxRecDepth 100000
namespace Go.Proofs.YtbkignlbcneddaaGreatDoor
open Go.RowKit Go.PlainAid
open Csn (Cn cnV cnB KbC kbc_new box_below box_lt parEC parVC vldC fmtS TzOk CnsAt)
/-- what stands at the end of awake -/
structure AwS (w : World) (q : Nat) (id : ByteArray) (vo : Option Addr) (vc : Nat) (xo : Option Addr) (xc : Nat) (yo : Option Addr) (yc : Nat) (V : World) : Prop where
  a : AwG w q id V
  v : CnsAt V vo 1 vc [aN]
  x : ChsAt V xo 2 xc (edG id)
  y : ChsAt V yo 2 yc [rFirst id, rDrop id]
theorem AwS.step {w V X : World} {q : Nat} {id : ByteArray} {vo xo yo : Option Addr} {vc xc yc : Nat} (h : AwS w q id vo vc xo xc yo yc V) (hb : Below V.heap.size V X) : AwS w q id vo vc xo xc yo yc X :=
  ⟨h.a.step hb, h.v.below hb, h.x.below hb, h.y.below hb⟩
/-- the cells that it loads -/
def AwC (w : World) (q : Nat) (id : ByteArray) (vb vof xb xof yb yof : Nat) (V : World) : Prop :=
  V.cell? ⟨w.heap.size, 0, none⟩ = some (.int .i64 5) ∧ V.cell? ⟨w.heap.size, 1, none⟩ = some (.int .i64 1) ∧ V.cell? ⟨w.heap.size, 2, none⟩ = some (.int .i64 0) ∧ V.cell? ⟨q, 0, none⟩ = some (.int .i64 5) ∧ V.cell? ⟨q, 1, none⟩ = some (.int .i64 1) ∧ V.cell? ⟨q, 2, none⟩ = some (.int .i64 0) ∧ V.cell? ⟨q, 3, none⟩ = some (.int .i64 5) ∧ V.cell? ⟨q, 4, none⟩ = some (.string id) ∧ V.cell? ⟨q, 5, none⟩ = some (.string ⟨#[]⟩) ∧ V.cell? ⟨q, 6, none⟩ = some (.string ⟨#[99, 110]⟩) ∧ V.cell? ⟨q, 7, none⟩ = some (.string ⟨#[97, 32, 98]⟩) ∧ V.cell? ⟨q + 1, 0, none⟩ = some (.int .i64 3) ∧ V.cell? ⟨q + 1, 1, none⟩ = some (.int .i64 0) ∧ V.cell? ⟨q + 1, 2, none⟩ = some (.int .i64 0) ∧ V.cell? ⟨q + 1, 3, none⟩ = some (.int .i64 2) ∧ V.cell? ⟨q + 1, 4, none⟩ = some (.string id) ∧ V.cell? ⟨q + 1, 5, none⟩ = some (.string ⟨#[]⟩) ∧ V.cell? ⟨q + 1, 6, none⟩ = some (.string ⟨#[]⟩) ∧ V.cell? ⟨q + 1, 7, none⟩ = some (.string ⟨#[]⟩) ∧ V.cell? ⟨vb, vof, none⟩ = some (.int .i64 5) ∧ V.cell? ⟨vb, vof + 1, none⟩ = some (.int .i64 1) ∧ V.cell? ⟨vb, vof + 2, none⟩ = some (.int .i64 0) ∧ V.cell? ⟨xb, xof + 3, none⟩ = some (.int .i64 5) ∧ V.cell? ⟨xb, xof + 7, none⟩ = some (.string ⟨#[97]⟩) ∧ V.cell? ⟨xb, xof + 11, none⟩ = some (.int .i64 4) ∧ V.cell? ⟨xb, xof + 15, none⟩ = some (.string ⟨#[98]⟩) ∧ V.cell? ⟨yb, yof, none⟩ = some (.int .i64 3) ∧ V.cell? ⟨yb, yof + 1, none⟩ = some (.int .i64 0) ∧ V.cell? ⟨yb, yof + 2, none⟩ = some (.int .i64 0) ∧ V.cell? ⟨yb, yof + 3, none⟩ = some (.int .i64 2) ∧ V.cell? ⟨yb, yof + 4, none⟩ = some (.string id) ∧ V.cell? ⟨yb, yof + 5, none⟩ = some (.string ⟨#[]⟩) ∧ V.cell? ⟨yb, yof + 6, none⟩ = some (.string ⟨#[]⟩) ∧ V.cell? ⟨yb, yof + 7, none⟩ = some (.string ⟨#[]⟩) ∧ V.cell? ⟨yb, yof + 8, none⟩ = some (.int .i64 5) ∧ V.cell? ⟨yb, yof + 9, none⟩ = some (.int .i64 1) ∧ V.cell? ⟨yb, yof + 10, none⟩ = some (.int .i64 0) ∧ V.cell? ⟨yb, yof + 11, none⟩ = some (.int .i64 5) ∧ V.cell? ⟨yb, yof + 12, none⟩ = some (.string id) ∧ V.cell? ⟨yb, yof + 13, none⟩ = some (.string ⟨#[]⟩) ∧ V.cell? ⟨yb, yof + 14, none⟩ = some (.string ⟨#[99, 110]⟩) ∧ V.cell? ⟨yb, yof + 15, none⟩ = some (.string ⟨#[97, 32, 98]⟩)
theorem aws_cells {w V : World} {q : Nat} {id : ByteArray} {vb vof vc xb xof xc yb yof yc : Nat} (h : AwS w q id (some ⟨vb, vof, none⟩) vc (some ⟨xb, xof, none⟩) xc (some ⟨yb, yof, none⟩) yc V) : AwC w q id vb vof xb xof yb yof V := by
  obtain ⟨_, _, hv, v0⟩ := h.v.2.2.2.1 (by decide)
  obtain ⟨_, _, hx, x0⟩ := h.x.2.2.2.1 (by decide)
  obtain ⟨_, _, hy, y0⟩ := h.y.2.2.2.1 (by decide)
  cases hv; cases hx; cases hy
  have v1 := v0.2 0 (by decide)
  have e : ∀ k, k < 8 → V.cell? ⟨xb, xof + 0 * 8 + k, none⟩ = _ := x0.2 0 (show 0 < 2 by decide)
  have e' : ∀ k, k < 8 → V.cell? ⟨xb, xof + 1 * 8 + k, none⟩ = _ := x0.2 1 (show 1 < 2 by decide)
  have f : ∀ k, k < 8 → V.cell? ⟨yb, yof + 0 * 8 + k, none⟩ = _ := y0.2 0 (show 0 < 2 by decide)
  have f' : ∀ k, k < 8 → V.cell? ⟨yb, yof + 1 * 8 + k, none⟩ = _ := y0.2 1 (show 1 < 2 by decide)
  obtain ⟨c0, c1, c2⟩ := box3 h.a.k1
  obtain ⟨a0, a1, a2, a3, a4, a5, a6, a7⟩ := box8 (show KbC _ _ (chB ⟨(5, 1, 0), 5, id, ⟨#[]⟩, ⟨#[99, 110]⟩, ⟨#[97, 32, 98]⟩⟩) from h.a.k3)
  obtain ⟨b0, b1, b2, b3, b4, b5, b6, b7⟩ := box8 (show KbC _ _ (chB ⟨(3, 0, 0), 2, id, ⟨#[]⟩, ⟨#[]⟩, ⟨#[]⟩⟩) from h.a.k4)
  exact ⟨c0, c1, c2, a0, a1, a2, a3, a4, a5, a6, a7, b0, b1, b2, b3, b4, b5, b6, b7, v1.1, v1.2.1, v1.2.2, e 3 (by decide), e 7 (by decide), e' 3 (by decide), e' 7 (by decide),
    f 0 (by decide), f 1 (by decide), f 2 (by decide), f 3 (by decide), f 4 (by decide), f 5 (by decide), f 6 (by decide), f 7 (by decide), f' 0 (by decide), f' 1 (by decide), f' 2 (by decide), f' 3 (by decide), f' 4 (by decide), f' 5 (by decide), f' 6 (by decide), f' 7 (by decide)⟩
set_option maxHeartbeats 16000000 in
theorem awake_s (w : World) (ho : COk w) :
    Calls Tryz.prog 12 #[] w fun e w' => e = .returned (.bool true) ∧ Below w.heap.size w w' := by
  have HO := Lib.hid ho
  have h1 := box_below w (cnB aN)
  have HB := Lib.hid h1
  have HK1 := Lib.hid (kbc_new w (cnB aN))
  unfold cnB aN at HB HK1
  dsimp only at HB HK1
  clear ho h1
  obtain ⟨id, hid⟩ : ∃ x, aId = x := ⟨_, rfl⟩
  have HId := Lib.hid hid
  go_enter Tryz.func12, Tryz.ntmps12
  go_wp2_with fail
  refine (Csn.format_k 3 0 0 id _ (HO.out.step HB.out).tz hid).mono ?_
  rintro e w1 ⟨rfl, hb⟩
  have HB := Lib.hid (HB.out.trans (hb.mono HB.out.size))
  have HK1 := Lib.hid (Csn.KbC.step HK1.out hb)
  have n0 := Csn.KbC.cell (i := 0) HK1.out rfl
  have n1 := Csn.KbC.cell (i := 1) HK1.out rfl
  have n2 := Csn.KbC.cell (i := 2) HK1.out rfl
  clear hb hid
  go_wp2_with fail
  have HA := awg_new (id := id) HB.out (HO.out.step HB.out) HK1.out
  unfold chB gcells rDrop rFirst rBad rEmpty aN aM at HA
  dsimp only at HA
  revert HA
  generalize World.alloc _ _ = V
  intro HA
  have hsz : id.size ≤ 22 := by rw [← HId.out]; exact id_small
  have HZ := Lib.hid hsz
  clear hsz HK1 HB n0 n1 n2
  have HA := Lib.hid HA
  obtain ⟨_, _, _⟩ := box3 HA.out.k1
  obtain ⟨_, _, _, _, _, _, _, _⟩ := box8 (show KbC _ _ (chB ⟨(5, 1, 0), 5, id, ⟨#[]⟩, ⟨#[99, 110]⟩, ⟨#[97, 32, 98]⟩⟩) from HA.out.k3)
  obtain ⟨_, _, _, _, _, _, _, _⟩ := box8 (show KbC _ _ (chB ⟨(3, 0, 0), 2, id, ⟨#[]⟩, ⟨#[]⟩, ⟨#[]⟩⟩) from HA.out.k4)
  obtain ⟨_, _, _, _, _, _, _, _⟩ := box8 (show KbC _ _ (chB ⟨(3, 0, 0), 2, id, ⟨#[]⟩, ⟨#[]⟩, ⟨#[97]⟩⟩) from HA.out.k5)
  obtain ⟨_, _, _, _, _, _, _, _⟩ := box8 (show KbC _ _ (chB ⟨(5, 1, 0), 5, id, ⟨#[]⟩, ⟨#[99, 110]⟩, ⟨#[]⟩⟩) from HA.out.k6)
  obtain ⟨x, hx⟩ : ∃ x, lnV (rDrop id) = x := ⟨_, rfl⟩
  have HX := Lib.hid hx
  clear hx
  refine (line_k 5 1 0 5 id ⟨#[]⟩ ⟨#[99, 110]⟩ ⟨#[97, 32, 98]⟩ x 0 _ (sm_of HZ.out (by decide) (by decide) (by decide)) HA.out.ok HX.out (by have := aw1; unfold aDrop rDrop aN at this; rw [HId.out] at this; exact this)).mono ?_
  rintro e V1 ⟨rfl, hb⟩
  have HA := Lib.hid (HA.out.step hb)
  clear hb
  go_wp2_with fail
  refine (read_k ⟨#[120, 10]⟩ 1 4 _ (by decide) HA.out.ok aw5.1 aw5.2).mono ?_
  rintro e V2 ⟨ro, rc, rfl, -, hb⟩
  have HA := Lib.hid (HA.out.step hb)
  clear hb
  obtain ⟨_, _, _, _, _, _, _, _⟩ := box8 (show KbC _ _ (chB ⟨(5, 1, 0), 5, id, ⟨#[]⟩, ⟨#[99, 110]⟩, ⟨#[97, 32, 98]⟩⟩) from HA.out.k3)
  obtain ⟨_, _, _, _, _, _, _, _⟩ := box8 (show KbC _ _ (chB ⟨(3, 0, 0), 2, id, ⟨#[]⟩, ⟨#[]⟩, ⟨#[]⟩⟩) from HA.out.k4)
  generalize (rdG ⟨#[120, 10]⟩).1.length = rn
  go_wp2_with fail
  have HA := Lib.hid (HA.out.step (box_below V2 (.cells (gcells (rDrop id) ++ gcells (rFirst id)).toArray 26)))
  refine (vec_k _ 2 2 [rDrop id, rFirst id] [aN] 1 _ (chs_two V2 (rDrop id) (rFirst id)) (by decide) (by have := aw6; unfold aDrop aFirst at this; rw [HId.out] at this; exact this) rfl).mono ?_
  rintro e V3 ⟨vo, vc, rfl, hv, hb⟩
  have HA := Lib.hid (HA.out.step hb)
  clear hb
  have HV := Lib.hid hv
  clear hv
  go_wp2_with fail
  have b1 := box_below V3 (.cells #[.string ⟨#[97]⟩] 9)
  have b2 := box_below (V3.alloc (.cells #[.string ⟨#[97]⟩] 9)) (.cells #[.string ⟨#[99, 110]⟩, .slice (some ⟨V3.heap.size, 0, none⟩) 1 1] 60)
  have b3 := box_below ((V3.alloc (.cells #[.string ⟨#[97]⟩] 9)).alloc (.cells #[.string ⟨#[99, 110]⟩, .slice (some ⟨V3.heap.size, 0, none⟩) 1 1] 60)) (.cells #[.string ⟨#[98]⟩] 9)
  have b4 := box_below (((V3.alloc (.cells #[.string ⟨#[97]⟩] 9)).alloc (.cells #[.string ⟨#[99, 110]⟩, .slice (some ⟨V3.heap.size, 0, none⟩) 1 1] 60)).alloc (.cells #[.string ⟨#[98]⟩] 9)) (.cells #[.string ⟨#[99, 110]⟩, .slice (some ⟨V3.heap.size + 1 + 1, 0, none⟩) 1 1] 60)
  have hA := ((atts_one V3 ⟨#[99, 110]⟩ ⟨#[97]⟩).below b3).below b4
  have hB := atts_one ((V3.alloc (.cells #[.string ⟨#[97]⟩] 9)).alloc (.cells #[.string ⟨#[99, 110]⟩, .slice (some ⟨V3.heap.size, 0, none⟩) 1 1] 60)) ⟨#[99, 110]⟩ ⟨#[98]⟩
  simp only [World.size_alloc] at hB
  have HV := Lib.hid ((((HV.out.below b1).below b2).below b3).below b4)
  have HA := Lib.hid ((((HA.out.step b1).step b2).step b3).step b4)
  refine (edits_k id _ _ 1 1 1 1 attA attB (edG id) 2 _ hA hB few_a few_b sum_a sum_b (by have := aw8; rw [HId.out] at this; exact this) rfl).mono ?_
  clear hA hB b1 b2 b3 b4
  rintro e V4 ⟨xo, xc, rfl, hX, hb⟩
  have HV := Lib.hid (HV.out.below hb)
  have HA := Lib.hid (HA.out.step hb)
  clear hb
  obtain ⟨_, _, _, _, _, _, _, _⟩ := box8 (show KbC _ _ (chB ⟨(5, 1, 0), 5, id, ⟨#[]⟩, ⟨#[99, 110]⟩, ⟨#[97, 32, 98]⟩⟩) from HA.out.k3)
  obtain ⟨_, _, _, _, _, _, _, _⟩ := box8 (show KbC _ _ (chB ⟨(3, 0, 0), 2, id, ⟨#[]⟩, ⟨#[]⟩, ⟨#[]⟩⟩) from HA.out.k4)
  have HE := Lib.hid hX
  clear hX
  have b1 := box_below V4 (.cells #[.int .i64 5, .int .i64 1, .int .i64 0, .int .i64 5, .string id, .string ⟨#[]⟩, .string ⟨#[99, 110]⟩, .string ⟨#[97, 32, 98]⟩, .int .i64 3, .int .i64 0, .int .i64 0, .int .i64 2, .string id, .string ⟨#[]⟩, .string ⟨#[]⟩, .string ⟨#[]⟩] 26)
  have b2 := box_below (V4.alloc (.cells #[.int .i64 5, .int .i64 1, .int .i64 0, .int .i64 5, .string id, .string ⟨#[]⟩, .string ⟨#[99, 110]⟩, .string ⟨#[97, 32, 98]⟩, .int .i64 3, .int .i64 0, .int .i64 0, .int .i64 2, .string id, .string ⟨#[]⟩, .string ⟨#[]⟩, .string ⟨#[]⟩] 26)) (.cells #[.int .i64 3, .int .i64 0, .int .i64 0, .int .i64 2, .string id, .string ⟨#[]⟩, .string ⟨#[]⟩, .string ⟨#[]⟩] 26)
  have HA := Lib.hid (HA.out.step b1)
  obtain ⟨_, _, _, _, _, _, _, _⟩ := box8 (show KbC _ _ (chB ⟨(3, 0, 0), 2, id, ⟨#[]⟩, ⟨#[]⟩, ⟨#[]⟩⟩) from HA.out.k4)
  go_wp2_with fail
  have HA := Lib.hid (HA.out.step b2)
  have hM : ChsAt (V4.alloc (.cells #[.int .i64 5, .int .i64 1, .int .i64 0, .int .i64 5, .string id, .string ⟨#[]⟩, .string ⟨#[99, 110]⟩, .string ⟨#[97, 32, 98]⟩, .int .i64 3, .int .i64 0, .int .i64 0, .int .i64 2, .string id, .string ⟨#[]⟩, .string ⟨#[]⟩, .string ⟨#[]⟩] 26)) (some ⟨V4.heap.size, 0, none⟩) 2 2 [rDrop id, rFirst id] := chs_two V4 (rDrop id) (rFirst id)
  have hN : ChsAt ((V4.alloc (.cells #[.int .i64 5, .int .i64 1, .int .i64 0, .int .i64 5, .string id, .string ⟨#[]⟩, .string ⟨#[99, 110]⟩, .string ⟨#[97, 32, 98]⟩, .int .i64 3, .int .i64 0, .int .i64 0, .int .i64 2, .string id, .string ⟨#[]⟩, .string ⟨#[]⟩, .string ⟨#[]⟩] 26)).alloc (.cells #[.int .i64 3, .int .i64 0, .int .i64 0, .int .i64 2, .string id, .string ⟨#[]⟩, .string ⟨#[]⟩, .string ⟨#[]⟩] 26)) (some ⟨(V4.alloc (.cells #[.int .i64 5, .int .i64 1, .int .i64 0, .int .i64 5, .string id, .string ⟨#[]⟩, .string ⟨#[99, 110]⟩, .string ⟨#[97, 32, 98]⟩, .int .i64 3, .int .i64 0, .int .i64 0, .int .i64 2, .string id, .string ⟨#[]⟩, .string ⟨#[]⟩, .string ⟨#[]⟩] 26)).heap.size, 0, none⟩) 1 1 [rFirst id] := chs_one (V4.alloc (.cells #[.int .i64 5, .int .i64 1, .int .i64 0, .int .i64 5, .string id, .string ⟨#[]⟩, .string ⟨#[99, 110]⟩, .string ⟨#[97, 32, 98]⟩, .int .i64 3, .int .i64 0, .int .i64 0, .int .i64 2, .string id, .string ⟨#[]⟩, .string ⟨#[]⟩, .string ⟨#[]⟩] 26)) (rFirst id)
  rw [World.size_alloc] at hN
  have hM := hM.below b2
  have HV := Lib.hid ((HV.out.below b1).below b2)
  have HE := Lib.hid ((HE.out.below b1).below b2)
  clear b1 b2
  refine (merge_k _ _ 2 1 2 1 [rDrop id, rFirst id] [rFirst id] [rFirst id, rDrop id] 2 _ hM hN ?_ (by decide) (by decide) HA.out.ok (by have := aw9; unfold aDrop aFirst at this; rw [HId.out] at this; exact this) rfl).mono ?_
  · intro d hd
    have hd' : d = rDrop id ∨ d = rFirst id := by
      rcases List.mem_append.1 hd with h | h
      · rcases List.mem_cons.1 h with h | h
        · exact .inl h
        · exact .inr (List.mem_singleton.1 h)
      · exact .inr (List.mem_singleton.1 h)
    rcases hd' with rfl | rfl
    · exact ⟨sm_of HZ.out (by decide) (by decide) (by decide), by show cnDom (5, 1, 0); refine ⟨?_, ?_, ?_⟩ <;> (unfold InR; decide)⟩
    · exact ⟨sm_of HZ.out (by decide) (by decide) (by decide), by show cnDom (3, 0, 0); refine ⟨?_, ?_, ?_⟩ <;> (unfold InR; decide)⟩
  clear hM hN
  rintro e V5 ⟨yo, yc, rfl, hX, hb⟩
  have HV := Lib.hid (HV.out.below hb)
  have HE := Lib.hid (HE.out.below hb)
  have HA := Lib.hid (HA.out.step hb)
  clear hb
  obtain ⟨_, _, _⟩ := box3 HA.out.k1
  have HM := Lib.hid hX
  clear hX
  obtain ⟨fN, hf⟩ : ∃ x, fmtS aN = x := ⟨_, rfl⟩
  go_wp2_with fail
  refine (Csn.format_k 5 1 0 fN _ HA.out.ok.tz hf).mono ?_
  rintro e V6 ⟨rfl, hb⟩
  have HV := Lib.hid (HV.out.below hb)
  have HE := Lib.hid (HE.out.below hb)
  have HM := Lib.hid (HM.out.below hb)
  have HA := Lib.hid (HA.out.step hb)
  clear hb
  obtain ⟨_, _, _, _, _, _, _, _⟩ := box8 (show KbC _ _ (chB ⟨(3, 0, 0), 2, id, ⟨#[]⟩, ⟨#[]⟩, ⟨#[97]⟩⟩) from HA.out.k5)
  have hs : fN.size ≤ 22 := by rw [← hf]; decide +kernel
  have hxe : x = (((⟨#[100, 114, 111, 112, 32]⟩ : ByteArray) ++ fN) ++ ⟨#[32]⟩ ++ id) ++ ⟨#[32, 99, 110, 32, 97, 37, 50, 48, 98]⟩ := by
    have := aw2
    unfold aDrop at this
    rw [HId.out, hf] at this
    rw [← HX.out]; exact this
  have HF := Lib.hid hxe
  have hz := HZ.out
  clear hf hxe
  go_wp2_with fail
  rotate_left
  · exact absurd (congrArg ByteArray.toList HF.out) (by assumption)
  refine (chk_k 3 0 0 2 id ⟨#[]⟩ ⟨#[]⟩ ⟨#[97]⟩ 4 _ (sm_of HZ.out (by decide) (by decide) (by decide)) HA.out.ok.mx (by have := aw3; unfold aBad rBad aM at this; rw [HId.out] at this; exact this)).mono ?_
  rintro e V7 ⟨rfl, hb⟩
  have HV := Lib.hid (HV.out.below hb)
  have HE := Lib.hid (HE.out.below hb)
  have HM := Lib.hid (HM.out.below hb)
  have HA := Lib.hid (HA.out.step hb)
  clear hb
  obtain ⟨_, _, _, _, _, _, _, _⟩ := box8 (show KbC _ _ (chB ⟨(5, 1, 0), 5, id, ⟨#[]⟩, ⟨#[99, 110]⟩, ⟨#[]⟩⟩) from HA.out.k6)
  go_wp2_with fail
  refine (chk_k 5 1 0 5 id ⟨#[]⟩ ⟨#[99, 110]⟩ ⟨#[]⟩ 8 _ (sm_of HZ.out (by decide) (by decide) (by decide)) HA.out.ok.mx (by have := aw4; unfold aEmpty rEmpty aN at this; rw [HId.out] at this; exact this)).mono ?_
  rintro e V8 ⟨rfl, hb⟩
  have HV := Lib.hid (HV.out.below hb)
  have HE := Lib.hid (HE.out.below hb)
  have HM := Lib.hid (HM.out.below hb)
  have HA := Lib.hid (HA.out.step hb)
  clear hb
  obtain ⟨_, _, _⟩ := box3 HA.out.k1
  obtain ⟨_, _, _, _, _, _, _, _⟩ := box8 (show KbC _ _ (chB ⟨(5, 1, 0), 5, id, ⟨#[]⟩, ⟨#[99, 110]⟩, ⟨#[97, 32, 98]⟩⟩) from HA.out.k3)
  obtain ⟨_, _, _, _, _, _, _, _⟩ := box8 (show KbC _ _ (chB ⟨(3, 0, 0), 2, id, ⟨#[]⟩, ⟨#[]⟩, ⟨#[]⟩⟩) from HA.out.k4)
  have hv := HV.out
  obtain ⟨vb, vof, hvo, -⟩ := hv.2.2.2.1 (by decide)
  have hx := HE.out
  obtain ⟨xb, xof, hxo, -⟩ := hx.2.2.2.1 (by decide)
  have hy := HM.out
  obtain ⟨yb, yof, hyo, -⟩ := hy.2.2.2.1 (by decide)
  subst hvo hxo hyo
  clear hv hx hy
  go_wp2_with fail
  have HST : Hid (∀ V, AwS w w1.heap.size id (some ⟨vb, vof, none⟩) vc (some ⟨xb, xof, none⟩) xc (some ⟨yb, yof, none⟩) yc V → AwC w w1.heap.size id vb vof xb xof yb yof V ∧ Hid (AwS w w1.heap.size id (some ⟨vb, vof, none⟩) vc (some ⟨xb, xof, none⟩) xc (some ⟨yb, yof, none⟩) yc V)) := Lib.hid fun V i => ⟨aws_cells i, Lib.hid i⟩
  unfold AwC at HST
  have HS8 : Hid (AwS w w1.heap.size id (some ⟨vb, vof, none⟩) vc (some ⟨xb, xof, none⟩) xc (some ⟨yb, yof, none⟩) yc V8) := Lib.hid ⟨HA.out, HV.out, HE.out, HM.out⟩
  have HD := Lib.hid (HS8.out.step (Below.refl _ _).drew)
  have S0 := HST.out _ HD.out
  have HD2 := Lib.hid ((HS8.out.step (box_below V8 (.cells #[.int .i64 5, .int .i64 1, .int .i64 0, .int .i64 5, .string id, .string ⟨#[]⟩, .string ⟨#[99, 110]⟩, .string ⟨#[97, 32, 98]⟩, .int .i64 3, .int .i64 0, .int .i64 0, .int .i64 2, .string id, .string ⟨#[]⟩, .string ⟨#[]⟩, .string ⟨#[]⟩] 26))).step (Below.refl _ _).drew)
  have HC := Lib.hid (ChsAt.below (show ChsAt (V8.alloc (.cells #[.int .i64 5, .int .i64 1, .int .i64 0, .int .i64 5, .string id, .string ⟨#[]⟩, .string ⟨#[99, 110]⟩, .string ⟨#[97, 32, 98]⟩, .int .i64 3, .int .i64 0, .int .i64 0, .int .i64 2, .string id, .string ⟨#[]⟩, .string ⟨#[]⟩, .string ⟨#[]⟩] 26)) (some ⟨V8.heap.size, 0, none⟩) 2 2 [rDrop id, rFirst id] from chs_two V8 (rDrop id) (rFirst id)) (Below.refl _ _).drew)
  clear HA HV HE HM
  refine wp_region_held_drew (S := fun V => (V.cell? ⟨w.heap.size, 0, none⟩ = some (.int .i64 5) ∧ V.cell? ⟨w.heap.size, 1, none⟩ = some (.int .i64 1) ∧ V.cell? ⟨w.heap.size, 2, none⟩ = some (.int .i64 0) ∧ V.cell? ⟨w1.heap.size, 0, none⟩ = some (.int .i64 5) ∧ V.cell? ⟨w1.heap.size, 1, none⟩ = some (.int .i64 1) ∧ V.cell? ⟨w1.heap.size, 2, none⟩ = some (.int .i64 0) ∧ V.cell? ⟨w1.heap.size, 3, none⟩ = some (.int .i64 5) ∧ V.cell? ⟨w1.heap.size, 4, none⟩ = some (.string id) ∧ V.cell? ⟨w1.heap.size, 5, none⟩ = some (.string ⟨#[]⟩) ∧ V.cell? ⟨w1.heap.size, 6, none⟩ = some (.string ⟨#[99, 110]⟩) ∧ V.cell? ⟨w1.heap.size, 7, none⟩ = some (.string ⟨#[97, 32, 98]⟩) ∧ V.cell? ⟨w1.heap.size + 1, 0, none⟩ = some (.int .i64 3) ∧ V.cell? ⟨w1.heap.size + 1, 1, none⟩ = some (.int .i64 0) ∧ V.cell? ⟨w1.heap.size + 1, 2, none⟩ = some (.int .i64 0) ∧ V.cell? ⟨w1.heap.size + 1, 3, none⟩ = some (.int .i64 2) ∧ V.cell? ⟨w1.heap.size + 1, 4, none⟩ = some (.string id) ∧ V.cell? ⟨w1.heap.size + 1, 5, none⟩ = some (.string ⟨#[]⟩) ∧ V.cell? ⟨w1.heap.size + 1, 6, none⟩ = some (.string ⟨#[]⟩) ∧ V.cell? ⟨w1.heap.size + 1, 7, none⟩ = some (.string ⟨#[]⟩) ∧ V.cell? ⟨vb, vof, none⟩ = some (.int .i64 5) ∧ V.cell? ⟨vb, vof + 1, none⟩ = some (.int .i64 1) ∧ V.cell? ⟨vb, vof + 2, none⟩ = some (.int .i64 0) ∧ V.cell? ⟨xb, xof + 3, none⟩ = some (.int .i64 5) ∧ V.cell? ⟨xb, xof + 7, none⟩ = some (.string ⟨#[97]⟩) ∧ V.cell? ⟨xb, xof + 11, none⟩ = some (.int .i64 4) ∧ V.cell? ⟨xb, xof + 15, none⟩ = some (.string ⟨#[98]⟩) ∧ V.cell? ⟨yb, yof, none⟩ = some (.int .i64 3) ∧ V.cell? ⟨yb, yof + 1, none⟩ = some (.int .i64 0) ∧ V.cell? ⟨yb, yof + 2, none⟩ = some (.int .i64 0) ∧ V.cell? ⟨yb, yof + 3, none⟩ = some (.int .i64 2) ∧ V.cell? ⟨yb, yof + 4, none⟩ = some (.string id) ∧ V.cell? ⟨yb, yof + 5, none⟩ = some (.string ⟨#[]⟩) ∧ V.cell? ⟨yb, yof + 6, none⟩ = some (.string ⟨#[]⟩) ∧ V.cell? ⟨yb, yof + 7, none⟩ = some (.string ⟨#[]⟩) ∧ V.cell? ⟨yb, yof + 8, none⟩ = some (.int .i64 5) ∧ V.cell? ⟨yb, yof + 9, none⟩ = some (.int .i64 1) ∧ V.cell? ⟨yb, yof + 10, none⟩ = some (.int .i64 0) ∧ V.cell? ⟨yb, yof + 11, none⟩ = some (.int .i64 5) ∧ V.cell? ⟨yb, yof + 12, none⟩ = some (.string id) ∧ V.cell? ⟨yb, yof + 13, none⟩ = some (.string ⟨#[]⟩) ∧ V.cell? ⟨yb, yof + 14, none⟩ = some (.string ⟨#[99, 110]⟩) ∧ V.cell? ⟨yb, yof + 15, none⟩ = some (.string ⟨#[97, 32, 98]⟩)) ∧ Hid (AwS w w1.heap.size id (some ⟨vb, vof, none⟩) vc (some ⟨xb, xof, none⟩) xc (some ⟨yb, yof, none⟩) yc V)) (by kernel_rfl) (S0) (fun hS => ?_)
  refine wpAnyH_take (i := 0) (oi := { dst := some 87, op := _, type := _, pos := _, after := _, guard := _ }) (v := ?_) rfl (by kernel_rfl) (by kernel_rfl) (by kernel_rfl) (fun _ _ _ h => h) (Or.inl ⟨by rfl, ?_⟩) (by assumption) ?_
  rotate_left
  · intro w hSw
    try dsimp only at hSw
    go_simp
    try with_reducible rfl
  try simp only [Act.put, List.setIfInBounds_toArray, List.set_cons_zero, List.set_cons_succ]
  refine wpAnyH_take (i := 1) (oi := { dst := some 88, op := _, type := _, pos := _, after := _, guard := _ }) (v := ?_) rfl (by kernel_rfl) (by kernel_rfl) (by kernel_rfl) (fun _ _ _ h => h) (Or.inl ⟨by rfl, ?_⟩) (by assumption) ?_
  rotate_left
  · intro w hSw
    try dsimp only at hSw
    go_simp
    try with_reducible rfl
  try simp only [Act.put, List.setIfInBounds_toArray, List.set_cons_zero, List.set_cons_succ]
  refine wpAnyH_take (i := 2) (oi := { dst := some 89, op := _, type := _, pos := _, after := _, guard := _ }) (v := ?_) rfl (by kernel_rfl) (by kernel_rfl) (by kernel_rfl) (fun _ _ _ h => h) (Or.inl ⟨by rfl, ?_⟩) (by assumption) ?_
  rotate_left
  · intro w hSw
    try dsimp only at hSw
    go_simp
    try with_reducible rfl
  try simp only [Act.put, List.setIfInBounds_toArray, List.set_cons_zero, List.set_cons_succ]
  refine wpAnyH_take (i := 3) (oi := { dst := some 90, op := _, type := _, pos := _, after := _, guard := _ }) (v := ?_) rfl (by kernel_rfl) (by kernel_rfl) (by kernel_rfl) (fun _ _ _ h => h) (Or.inl ⟨by rfl, ?_⟩) (by assumption) ?_
  rotate_left
  · intro w hSw
    try dsimp only at hSw
    go_simp
    try with_reducible rfl
  try simp only [Act.put, List.setIfInBounds_toArray, List.set_cons_zero, List.set_cons_succ]
  refine wpAnyH_take (i := 4) (oi := { dst := some 91, op := _, type := _, pos := _, after := _, guard := _ }) (v := ?_) rfl (by kernel_rfl) (by kernel_rfl) (by kernel_rfl) (fun _ _ _ h => h) (Or.inl ⟨by rfl, ?_⟩) (by assumption) ?_
  rotate_left
  · intro w hSw
    try dsimp only at hSw
    go_simp
    try with_reducible rfl
  try simp only [Act.put, List.setIfInBounds_toArray, List.set_cons_zero, List.set_cons_succ]
  refine wpAnyH_take (i := 5) (oi := { dst := some 92, op := _, type := _, pos := _, after := _, guard := _ }) (v := ?_) rfl (by kernel_rfl) (by kernel_rfl) (by kernel_rfl) (fun _ _ _ h => h) (Or.inl ⟨by rfl, ?_⟩) (by assumption) ?_
  rotate_left
  · intro w hSw
    try dsimp only at hSw
    go_simp
    try with_reducible rfl
  try simp only [Act.put, List.setIfInBounds_toArray, List.set_cons_zero, List.set_cons_succ]
  refine wpAnyH_take (i := 6) (oi := { dst := some 93, op := _, type := _, pos := _, after := _, guard := _ }) (v := ?_) rfl (by kernel_rfl) (by kernel_rfl) (by kernel_rfl) (fun _ _ _ h => h) (Or.inl ⟨by rfl, ?_⟩) (by assumption) ?_
  rotate_left
  · intro w hSw
    try dsimp only at hSw
    go_simp
    try with_reducible rfl
  try simp only [Act.put, List.setIfInBounds_toArray, List.set_cons_zero, List.set_cons_succ]
  refine wpAnyH_take (i := 7) (oi := { dst := some 94, op := _, type := _, pos := _, after := _, guard := _ }) (v := ?_) rfl (by kernel_rfl) (by kernel_rfl) (by kernel_rfl) (fun _ _ _ h => h) (Or.inl ⟨by rfl, ?_⟩) (by assumption) ?_
  rotate_left
  · intro w hSw
    try dsimp only at hSw
    go_simp
    try with_reducible rfl
  try simp only [Act.put, List.setIfInBounds_toArray, List.set_cons_zero, List.set_cons_succ]
  refine wpAnyH_take (i := 8) (oi := { dst := some 95, op := _, type := _, pos := _, after := _, guard := _ }) (v := ?_) rfl (by kernel_rfl) (by kernel_rfl) (by kernel_rfl) (fun _ _ _ h => h) (Or.inl ⟨by rfl, ?_⟩) (by assumption) ?_
  rotate_left
  · intro w hSw
    try dsimp only at hSw
    go_simp
    try with_reducible rfl
  try simp only [Act.put, List.setIfInBounds_toArray, List.set_cons_zero, List.set_cons_succ]
  refine wpAnyH_take (i := 9) (oi := { dst := some 96, op := _, type := _, pos := _, after := _, guard := _ }) (v := ?_) rfl (by kernel_rfl) (by kernel_rfl) (by kernel_rfl) (fun _ _ _ h => h) (Or.inl ⟨by rfl, ?_⟩) (by assumption) ?_
  rotate_left
  · intro w hSw
    try dsimp only at hSw
    go_simp
    try with_reducible rfl
  try simp only [Act.put, List.setIfInBounds_toArray, List.set_cons_zero, List.set_cons_succ]
  refine wpAnyH_take (i := 10) (oi := { dst := some 97, op := _, type := _, pos := _, after := _, guard := _ }) (v := ?_) rfl (by kernel_rfl) (by kernel_rfl) (by kernel_rfl) (fun _ _ _ h => h) (Or.inl ⟨by rfl, ?_⟩) (by assumption) ?_
  rotate_left
  · intro w hSw
    try dsimp only at hSw
    go_simp
    try with_reducible rfl
  try simp only [Act.put, List.setIfInBounds_toArray, List.set_cons_zero, List.set_cons_succ]
  refine wpAnyH_take (i := 11) (oi := { dst := some 98, op := _, type := _, pos := _, after := _, guard := _ }) (v := ?_) rfl (by kernel_rfl) (by kernel_rfl) (by kernel_rfl) (fun _ _ _ h => h) (Or.inl ⟨by rfl, ?_⟩) (by assumption) ?_
  rotate_left
  · intro w hSw
    try dsimp only at hSw
    go_simp
    try with_reducible rfl
  try simp only [Act.put, List.setIfInBounds_toArray, List.set_cons_zero, List.set_cons_succ]
  refine wpAnyH_take (i := 12) (oi := { dst := some 99, op := _, type := _, pos := _, after := _, guard := _ }) (v := ?_) rfl (by kernel_rfl) (by kernel_rfl) (by kernel_rfl) (fun _ _ _ h => h) (Or.inl ⟨by rfl, ?_⟩) (by assumption) ?_
  rotate_left
  · intro w hSw
    try dsimp only at hSw
    go_simp
    try with_reducible rfl
  try simp only [Act.put, List.setIfInBounds_toArray, List.set_cons_zero, List.set_cons_succ]
  refine wpAnyH_take (i := 14) (oi := { dst := some 101, op := _, type := _, pos := _, after := _, guard := _ }) (v := ?_) rfl (by kernel_rfl) (by kernel_rfl) (by kernel_rfl) (fun _ _ _ h => h) (Or.inl ⟨by rfl, ?_⟩) (by assumption) ?_
  rotate_left
  · intro w hSw
    try dsimp only at hSw
    go_simp
    try with_reducible rfl
  try simp only [Act.put, List.setIfInBounds_toArray, List.set_cons_zero, List.set_cons_succ]
  refine wpAnyH_ready (rs := [13]) (by kernel_rfl) (by simp) ?_
  refine AllReadyH.cons rfl (fun K hK => ?_) AllReadyH.nil
  go_simp
  refine hK.out _ _ ?_ (fun hHeld => ?_)
  · exact HST.out _ HD2.out
  clear hK K
  try simp only [Act.put, List.setIfInBounds_toArray, List.set_cons_zero, List.set_cons_succ]
  refine wpAnyH_ready (rs := [15]) (by kernel_rfl) (by simp) ?_
  refine AllReadyH.cons rfl (fun K hK => ?_) AllReadyH.nil
  go_simp
  refine (since_k _ 2 2 [rDrop id, rFirst id] _ 1 vc [aN] [] 0 _ HC.out HD2.out.v (by decide) (by have := aw7; unfold aDrop aFirst at this; rw [HId.out] at this; exact this) rfl).mono ?_
  rintro e v1 ⟨zo, zc, rfl, -, hb⟩
  have HD := Lib.hid (HD2.out.step hb)
  clear hb
  go_wp2_with fail
  refine hK.out _ _ ?_ (fun hHeld => ?_)
  · exact HST.out _ HD.out
  clear hK K
  try simp only [Act.put, List.setIfInBounds_toArray, List.set_cons_zero, List.set_cons_succ]
  refine wpAnyH_take (i := 16) (oi := { dst := some 103, op := _, type := _, pos := _, after := _, guard := _ }) (v := ?_) rfl (by kernel_rfl) (by kernel_rfl) (by kernel_rfl) (fun _ _ _ h => h) (Or.inl ⟨by rfl, ?_⟩) (by assumption) ?_
  rotate_left
  · intro w hSw
    try dsimp only at hSw
    go_simp
    try with_reducible rfl
  try simp only [Act.put, List.setIfInBounds_toArray, List.set_cons_zero, List.set_cons_succ]
  refine wpAnyH_take (i := 17) (oi := { dst := some 104, op := _, type := _, pos := _, after := _, guard := _ }) (v := ?_) rfl (by kernel_rfl) (by kernel_rfl) (by kernel_rfl) (fun _ _ _ h => h) (Or.inl ⟨by rfl, ?_⟩) (by assumption) ?_
  rotate_left
  · intro w hSw
    try dsimp only at hSw
    go_simp
    try with_reducible rfl
  try simp only [Act.put, List.setIfInBounds_toArray, List.set_cons_zero, List.set_cons_succ]
  refine wpAnyH_take (i := 18) (oi := { dst := some 105, op := _, type := _, pos := _, after := _, guard := _ }) (v := ?_) rfl (by kernel_rfl) (by kernel_rfl) (by kernel_rfl) (fun _ _ _ h => h) (Or.inl ⟨by rfl, ?_⟩) (by assumption) ?_
  rotate_left
  · intro w hSw
    try dsimp only at hSw
    go_simp
    try with_reducible rfl
  try simp only [Act.put, List.setIfInBounds_toArray, List.set_cons_zero, List.set_cons_succ]
  refine wpAnyH_take (i := 19) (oi := { dst := some 106, op := _, type := _, pos := _, after := _, guard := _ }) (v := ?_) rfl (by kernel_rfl) (by kernel_rfl) (by kernel_rfl) (fun _ _ _ h => h) (Or.inl ⟨by rfl, ?_⟩) (by assumption) ?_
  rotate_left
  · intro w hSw
    try dsimp only at hSw
    go_simp
    try with_reducible rfl
  try simp only [Act.put, List.setIfInBounds_toArray, List.set_cons_zero, List.set_cons_succ]
  refine wpAnyH_take (i := 20) (oi := { dst := some 107, op := _, type := _, pos := _, after := _, guard := _ }) (v := ?_) rfl (by kernel_rfl) (by kernel_rfl) (by kernel_rfl) (fun _ _ _ h => h) (Or.inl ⟨by rfl, ?_⟩) (by assumption) ?_
  rotate_left
  · intro w hSw
    try dsimp only at hSw
    go_simp
    try with_reducible rfl
  try simp only [Act.put, List.setIfInBounds_toArray, List.set_cons_zero, List.set_cons_succ]
  refine wpAnyH_take (i := 21) (oi := { dst := some 108, op := _, type := _, pos := _, after := _, guard := _ }) (v := ?_) rfl (by kernel_rfl) (by kernel_rfl) (by kernel_rfl) (fun _ _ _ h => h) (Or.inl ⟨by rfl, ?_⟩) (by assumption) ?_
  rotate_left
  · intro w hSw
    try dsimp only at hSw
    go_simp
    try with_reducible rfl
  try simp only [Act.put, List.setIfInBounds_toArray, List.set_cons_zero, List.set_cons_succ]
  refine wpAnyH_take (i := 22) (oi := { dst := some 109, op := _, type := _, pos := _, after := _, guard := _ }) (v := ?_) rfl (by kernel_rfl) (by kernel_rfl) (by kernel_rfl) (fun _ _ _ h => h) (Or.inl ⟨by rfl, ?_⟩) (by assumption) ?_
  rotate_left
  · intro w hSw
    try dsimp only at hSw
    go_simp
    try with_reducible rfl
  try simp only [Act.put, List.setIfInBounds_toArray, List.set_cons_zero, List.set_cons_succ]
  refine wpAnyH_take (i := 23) (oi := { dst := some 110, op := _, type := _, pos := _, after := _, guard := _ }) (v := ?_) rfl (by kernel_rfl) (by kernel_rfl) (by kernel_rfl) (fun _ _ _ h => h) (Or.inl ⟨by rfl, ?_⟩) (by assumption) ?_
  rotate_left
  · intro w hSw
    try dsimp only at hSw
    go_simp
    try with_reducible rfl
  try simp only [Act.put, List.setIfInBounds_toArray, List.set_cons_zero, List.set_cons_succ]
  refine wpAnyH_take (i := 24) (oi := { dst := some 111, op := _, type := _, pos := _, after := _, guard := _ }) (v := ?_) rfl (by kernel_rfl) (by kernel_rfl) (by kernel_rfl) (fun _ _ _ h => h) (Or.inl ⟨by rfl, ?_⟩) (by assumption) ?_
  rotate_left
  · intro w hSw
    try dsimp only at hSw
    go_simp
    try with_reducible rfl
  try simp only [Act.put, List.setIfInBounds_toArray, List.set_cons_zero, List.set_cons_succ]
  refine wpAnyH_take (i := 25) (oi := { dst := some 112, op := _, type := _, pos := _, after := _, guard := _ }) (v := ?_) rfl (by kernel_rfl) (by kernel_rfl) (by kernel_rfl) (fun _ _ _ h => h) (Or.inl ⟨by rfl, ?_⟩) (by assumption) ?_
  rotate_left
  · intro w hSw
    try dsimp only at hSw
    go_simp
    try with_reducible rfl
  try simp only [Act.put, List.setIfInBounds_toArray, List.set_cons_zero, List.set_cons_succ]
  refine wpAnyH_take (i := 26) (oi := { dst := some 113, op := _, type := _, pos := _, after := _, guard := _ }) (v := ?_) rfl (by kernel_rfl) (by kernel_rfl) (by kernel_rfl) (fun _ _ _ h => h) (Or.inl ⟨by rfl, ?_⟩) (by assumption) ?_
  rotate_left
  · intro w hSw
    try dsimp only at hSw
    go_simp
    try with_reducible rfl
  try simp only [Act.put, List.setIfInBounds_toArray, List.set_cons_zero, List.set_cons_succ]
  refine wpAnyH_take (i := 27) (oi := { dst := some 114, op := _, type := _, pos := _, after := _, guard := _ }) (v := ?_) rfl (by kernel_rfl) (by kernel_rfl) (by kernel_rfl) (fun _ _ _ h => h) (Or.inl ⟨by rfl, ?_⟩) (by assumption) ?_
  rotate_left
  · intro w hSw
    try dsimp only at hSw
    go_simp
    try with_reducible rfl
  try simp only [Act.put, List.setIfInBounds_toArray, List.set_cons_zero, List.set_cons_succ]
  refine wpAnyH_take (i := 28) (oi := { dst := some 115, op := _, type := _, pos := _, after := _, guard := _ }) (v := ?_) rfl (by kernel_rfl) (by kernel_rfl) (by kernel_rfl) (fun _ _ _ h => h) (Or.inl ⟨by rfl, ?_⟩) (by assumption) ?_
  rotate_left
  · intro w hSw
    try dsimp only at hSw
    go_simp
    try with_reducible rfl
  try simp only [Act.put, List.setIfInBounds_toArray, List.set_cons_zero, List.set_cons_succ]
  refine wpAnyH_take (i := 29) (oi := { dst := some 116, op := _, type := _, pos := _, after := _, guard := _ }) (v := ?_) rfl (by kernel_rfl) (by kernel_rfl) (by kernel_rfl) (fun _ _ _ h => h) (Or.inl ⟨by rfl, ?_⟩) (by assumption) ?_
  rotate_left
  · intro w hSw
    try dsimp only at hSw
    go_simp
    try with_reducible rfl
  try simp only [Act.put, List.setIfInBounds_toArray, List.set_cons_zero, List.set_cons_succ]
  refine wpAnyH_take (i := 30) (oi := { dst := some 117, op := _, type := _, pos := _, after := _, guard := _ }) (v := ?_) rfl (by kernel_rfl) (by kernel_rfl) (by kernel_rfl) (fun _ _ _ h => h) (Or.inl ⟨by rfl, ?_⟩) (by assumption) ?_
  rotate_left
  · intro w hSw
    try dsimp only at hSw
    go_simp
    try with_reducible rfl
  try simp only [Act.put, List.setIfInBounds_toArray, List.set_cons_zero, List.set_cons_succ]
  refine wpAnyH_take (i := 31) (oi := { dst := some 118, op := _, type := _, pos := _, after := _, guard := _ }) (v := ?_) rfl (by kernel_rfl) (by kernel_rfl) (by kernel_rfl) (fun _ _ _ h => h) (Or.inl ⟨by rfl, ?_⟩) (by assumption) ?_
  rotate_left
  · intro w hSw
    try dsimp only at hSw
    go_simp
    try with_reducible rfl
  try simp only [Act.put, List.setIfInBounds_toArray, List.set_cons_zero, List.set_cons_succ]
  refine wpAnyH_take (i := 32) (oi := { dst := some 119, op := _, type := _, pos := _, after := _, guard := _ }) (v := ?_) rfl (by kernel_rfl) (by kernel_rfl) (by kernel_rfl) (fun _ _ _ h => h) (Or.inl ⟨by rfl, ?_⟩) (by assumption) ?_
  rotate_left
  · intro w hSw
    try dsimp only at hSw
    go_simp
    try with_reducible rfl
  try simp only [Act.put, List.setIfInBounds_toArray, List.set_cons_zero, List.set_cons_succ]
  refine wpAnyH_take (i := 33) (oi := { dst := some 120, op := _, type := _, pos := _, after := _, guard := _ }) (v := ?_) rfl (by kernel_rfl) (by kernel_rfl) (by kernel_rfl) (fun _ _ _ h => h) (Or.inl ⟨by rfl, ?_⟩) (by assumption) ?_
  rotate_left
  · intro w hSw
    try dsimp only at hSw
    go_simp
    try with_reducible rfl
  try simp only [Act.put, List.setIfInBounds_toArray, List.set_cons_zero, List.set_cons_succ]
  refine wpAnyH_take (i := 34) (oi := { dst := some 121, op := _, type := _, pos := _, after := _, guard := _ }) (v := ?_) rfl (by kernel_rfl) (by kernel_rfl) (by kernel_rfl) (fun _ _ _ h => h) (Or.inl ⟨by rfl, ?_⟩) (by assumption) ?_
  rotate_left
  · intro w hSw
    try dsimp only at hSw
    go_simp
    try with_reducible rfl
  try simp only [Act.put, List.setIfInBounds_toArray, List.set_cons_zero, List.set_cons_succ]
  refine wpAnyH_take (i := 35) (oi := { dst := some 122, op := _, type := _, pos := _, after := _, guard := _ }) (v := ?_) rfl (by kernel_rfl) (by kernel_rfl) (by kernel_rfl) (fun _ _ _ h => h) (Or.inl ⟨by rfl, ?_⟩) (by assumption) ?_
  rotate_left
  · intro w hSw
    try dsimp only at hSw
    go_simp
    try with_reducible rfl
  try simp only [Act.put, List.setIfInBounds_toArray, List.set_cons_zero, List.set_cons_succ]
  refine wpAnyH_take (i := 36) (oi := { dst := some 123, op := _, type := _, pos := _, after := _, guard := _ }) (v := ?_) rfl (by kernel_rfl) (by kernel_rfl) (by kernel_rfl) (fun _ _ _ h => h) (Or.inl ⟨by rfl, ?_⟩) (by assumption) ?_
  rotate_left
  · intro w hSw
    try dsimp only at hSw
    go_simp
    try with_reducible rfl
  try simp only [Act.put, List.setIfInBounds_toArray, List.set_cons_zero, List.set_cons_succ]
  refine wpAnyH_take (i := 37) (oi := { dst := some 124, op := _, type := _, pos := _, after := _, guard := _ }) (v := ?_) rfl (by kernel_rfl) (by kernel_rfl) (by kernel_rfl) (fun _ _ _ h => h) (Or.inl ⟨by rfl, ?_⟩) (by assumption) ?_
  rotate_left
  · intro w hSw
    try dsimp only at hSw
    go_simp
    try with_reducible rfl
  try simp only [Act.put, List.setIfInBounds_toArray, List.set_cons_zero, List.set_cons_succ]
  refine wpAnyH_take (i := 38) (oi := { dst := some 125, op := _, type := _, pos := _, after := _, guard := _ }) (v := ?_) rfl (by kernel_rfl) (by kernel_rfl) (by kernel_rfl) (fun _ _ _ h => h) (Or.inl ⟨by rfl, ?_⟩) (by assumption) ?_
  rotate_left
  · intro w hSw
    try dsimp only at hSw
    go_simp
    try with_reducible rfl
  try simp only [Act.put, List.setIfInBounds_toArray, List.set_cons_zero, List.set_cons_succ]
  refine wpAnyH_take (i := 39) (oi := { dst := some 126, op := _, type := _, pos := _, after := _, guard := _ }) (v := ?_) rfl (by kernel_rfl) (by kernel_rfl) (by kernel_rfl) (fun _ _ _ h => h) (Or.inl ⟨by rfl, ?_⟩) (by assumption) ?_
  rotate_left
  · intro w hSw
    try dsimp only at hSw
    go_simp
    try with_reducible rfl
  try simp only [Act.put, List.setIfInBounds_toArray, List.set_cons_zero, List.set_cons_succ]
  refine wpAnyH_take (i := 40) (oi := { dst := some 127, op := _, type := _, pos := _, after := _, guard := _ }) (v := ?_) rfl (by kernel_rfl) (by kernel_rfl) (by kernel_rfl) (fun _ _ _ h => h) (Or.inl ⟨by rfl, ?_⟩) (by assumption) ?_
  rotate_left
  · intro w hSw
    try dsimp only at hSw
    go_simp
    try with_reducible rfl
  try simp only [Act.put, List.setIfInBounds_toArray, List.set_cons_zero, List.set_cons_succ]
  refine wpAnyH_take (i := 41) (oi := { dst := some 128, op := _, type := _, pos := _, after := _, guard := _ }) (v := ?_) rfl (by kernel_rfl) (by kernel_rfl) (by kernel_rfl) (fun _ _ _ h => h) (Or.inl ⟨by rfl, ?_⟩) (by assumption) ?_
  rotate_left
  · intro w hSw
    try dsimp only at hSw
    go_simp
    try with_reducible rfl
  try simp only [Act.put, List.setIfInBounds_toArray, List.set_cons_zero, List.set_cons_succ]
  refine wpAnyH_take (i := 42) (oi := { dst := some 129, op := _, type := _, pos := _, after := _, guard := _ }) (v := ?_) rfl (by kernel_rfl) (by kernel_rfl) (by kernel_rfl) (fun _ _ _ h => h) (Or.inl ⟨by rfl, ?_⟩) (by assumption) ?_
  rotate_left
  · intro w hSw
    try dsimp only at hSw
    go_simp
    try with_reducible rfl
  try simp only [Act.put, List.setIfInBounds_toArray, List.set_cons_zero, List.set_cons_succ]
  refine wpAnyH_take (i := 43) (oi := { dst := some 130, op := _, type := _, pos := _, after := _, guard := _ }) (v := ?_) rfl (by kernel_rfl) (by kernel_rfl) (by kernel_rfl) (fun _ _ _ h => h) (Or.inl ⟨by rfl, ?_⟩) (by assumption) ?_
  rotate_left
  · intro w hSw
    try dsimp only at hSw
    go_simp
    try with_reducible rfl
  try simp only [Act.put, List.setIfInBounds_toArray, List.set_cons_zero, List.set_cons_succ]
  refine wpAnyH_take (i := 44) (oi := { dst := some 131, op := _, type := _, pos := _, after := _, guard := _ }) (v := ?_) rfl (by kernel_rfl) (by kernel_rfl) (by kernel_rfl) (fun _ _ _ h => h) (Or.inl ⟨by rfl, ?_⟩) (by assumption) ?_
  rotate_left
  · intro w hSw
    try dsimp only at hSw
    go_simp
    try with_reducible rfl
  try simp only [Act.put, List.setIfInBounds_toArray, List.set_cons_zero, List.set_cons_succ]
  refine wpAnyH_take (i := 45) (oi := { dst := some 132, op := _, type := _, pos := _, after := _, guard := _ }) (v := ?_) rfl (by kernel_rfl) (by kernel_rfl) (by kernel_rfl) (fun _ _ _ h => h) (Or.inl ⟨by rfl, ?_⟩) (by assumption) ?_
  rotate_left
  · intro w hSw
    try dsimp only at hSw
    go_simp
    try with_reducible rfl
  try simp only [Act.put, List.setIfInBounds_toArray, List.set_cons_zero, List.set_cons_succ]
  refine wpAnyH_take (i := 46) (oi := { dst := some 133, op := _, type := _, pos := _, after := _, guard := _ }) (v := ?_) rfl (by kernel_rfl) (by kernel_rfl) (by kernel_rfl) (fun _ _ _ h => h) (Or.inl ⟨by rfl, ?_⟩) (by assumption) ?_
  rotate_left
  · intro w hSw
    try dsimp only at hSw
    go_simp
    try with_reducible rfl
  try simp only [Act.put, List.setIfInBounds_toArray, List.set_cons_zero, List.set_cons_succ]
  refine wpAnyH_take (i := 47) (oi := { dst := some 134, op := _, type := _, pos := _, after := _, guard := _ }) (v := ?_) rfl (by kernel_rfl) (by kernel_rfl) (by kernel_rfl) (fun _ _ _ h => h) (Or.inl ⟨by rfl, ?_⟩) (by assumption) ?_
  rotate_left
  · intro w hSw
    try dsimp only at hSw
    go_simp
    try with_reducible rfl
  try simp only [Act.put, List.setIfInBounds_toArray, List.set_cons_zero, List.set_cons_succ]
  refine wpAnyH_take (i := 48) (oi := { dst := some 135, op := _, type := _, pos := _, after := _, guard := _ }) (v := ?_) rfl (by kernel_rfl) (by kernel_rfl) (by kernel_rfl) (fun _ _ _ h => h) (Or.inl ⟨by rfl, ?_⟩) (by assumption) ?_
  rotate_left
  · intro w hSw
    try dsimp only at hSw
    go_simp
    try with_reducible rfl
  try simp only [Act.put, List.setIfInBounds_toArray, List.set_cons_zero, List.set_cons_succ]
  refine wpAnyH_take (i := 49) (oi := { dst := some 136, op := _, type := _, pos := _, after := _, guard := _ }) (v := ?_) rfl (by kernel_rfl) (by kernel_rfl) (by kernel_rfl) (fun _ _ _ h => h) (Or.inl ⟨by rfl, ?_⟩) (by assumption) ?_
  rotate_left
  · intro w hSw
    try dsimp only at hSw
    go_simp
    try with_reducible rfl
  try simp only [Act.put, List.setIfInBounds_toArray, List.set_cons_zero, List.set_cons_succ]
  refine wpAnyH_take (i := 50) (oi := { dst := some 137, op := _, type := _, pos := _, after := _, guard := _ }) (v := ?_) rfl (by kernel_rfl) (by kernel_rfl) (by kernel_rfl) (fun _ _ _ h => h) (Or.inl ⟨by rfl, ?_⟩) (by assumption) ?_
  rotate_left
  · intro w hSw
    try dsimp only at hSw
    go_simp
    try with_reducible rfl
  try simp only [Act.put, List.setIfInBounds_toArray, List.set_cons_zero, List.set_cons_succ]
  refine wpAnyH_take (i := 51) (oi := { dst := some 138, op := _, type := _, pos := _, after := _, guard := _ }) (v := ?_) rfl (by kernel_rfl) (by kernel_rfl) (by kernel_rfl) (fun _ _ _ h => h) (Or.inl ⟨by rfl, ?_⟩) (by assumption) ?_
  rotate_left
  · intro w hSw
    try dsimp only at hSw
    go_simp
    try with_reducible rfl
  try simp only [Act.put, List.setIfInBounds_toArray, List.set_cons_zero, List.set_cons_succ]
  refine wpAnyH_take (i := 52) (oi := { dst := some 139, op := _, type := _, pos := _, after := _, guard := _ }) (v := ?_) rfl (by kernel_rfl) (by kernel_rfl) (by kernel_rfl) (fun _ _ _ h => h) (Or.inl ⟨by rfl, ?_⟩) (by assumption) ?_
  rotate_left
  · intro w hSw
    try dsimp only at hSw
    go_simp
    try with_reducible rfl
  try simp only [Act.put, List.setIfInBounds_toArray, List.set_cons_zero, List.set_cons_succ]
  refine wpAnyH_take (i := 53) (oi := { dst := some 140, op := _, type := _, pos := _, after := _, guard := _ }) (v := ?_) rfl (by kernel_rfl) (by kernel_rfl) (by kernel_rfl) (fun _ _ _ h => h) (Or.inl ⟨by rfl, ?_⟩) (by assumption) ?_
  rotate_left
  · intro w hSw
    try dsimp only at hSw
    go_simp
    try with_reducible rfl
  try simp only [Act.put, List.setIfInBounds_toArray, List.set_cons_zero, List.set_cons_succ]
  refine wpAnyH_take (i := 54) (oi := { dst := some 141, op := _, type := _, pos := _, after := _, guard := _ }) (v := ?_) rfl (by kernel_rfl) (by kernel_rfl) (by kernel_rfl) (fun _ _ _ h => h) (Or.inl ⟨by rfl, ?_⟩) (by assumption) ?_
  rotate_left
  · intro w hSw
    try dsimp only at hSw
    go_simp
    try with_reducible rfl
  try simp only [Act.put, List.setIfInBounds_toArray, List.set_cons_zero, List.set_cons_succ]
  refine wpAnyH_take (i := 55) (oi := { dst := some 142, op := _, type := _, pos := _, after := _, guard := _ }) (v := ?_) rfl (by kernel_rfl) (by kernel_rfl) (by kernel_rfl) (fun _ _ _ h => h) (Or.inl ⟨by rfl, ?_⟩) (by assumption) ?_
  rotate_left
  · intro w hSw
    try dsimp only at hSw
    go_simp
    try with_reducible rfl
  try simp only [Act.put, List.setIfInBounds_toArray, List.set_cons_zero, List.set_cons_succ]
  refine wpAnyH_take (i := 56) (oi := { dst := some 143, op := _, type := _, pos := _, after := _, guard := _ }) (v := ?_) rfl (by kernel_rfl) (by kernel_rfl) (by kernel_rfl) (fun _ _ _ h => h) (Or.inl ⟨by rfl, ?_⟩) (by assumption) ?_
  rotate_left
  · intro w hSw
    try dsimp only at hSw
    go_simp
    try with_reducible rfl
  try simp only [Act.put, List.setIfInBounds_toArray, List.set_cons_zero, List.set_cons_succ]
  refine wpAnyH_take (i := 57) (oi := { dst := some 144, op := _, type := _, pos := _, after := _, guard := _ }) (v := ?_) rfl (by kernel_rfl) (by kernel_rfl) (by kernel_rfl) (fun _ _ _ h => h) (Or.inl ⟨by rfl, ?_⟩) (by assumption) ?_
  rotate_left
  · intro w hSw
    try dsimp only at hSw
    go_simp
    try with_reducible rfl
  try simp only [Act.put, List.setIfInBounds_toArray, List.set_cons_zero, List.set_cons_succ]
  refine wpAnyH_take (i := 58) (oi := { dst := some 145, op := _, type := _, pos := _, after := _, guard := _ }) (v := ?_) rfl (by kernel_rfl) (by kernel_rfl) (by kernel_rfl) (fun _ _ _ h => h) (Or.inl ⟨by rfl, ?_⟩) (by assumption) ?_
  rotate_left
  · intro w hSw
    try dsimp only at hSw
    go_simp
    try with_reducible rfl
  try simp only [Act.put, List.setIfInBounds_toArray, List.set_cons_zero, List.set_cons_succ]
  refine wpAnyH_take (i := 59) (oi := { dst := some 146, op := _, type := _, pos := _, after := _, guard := _ }) (v := ?_) rfl (by kernel_rfl) (by kernel_rfl) (by kernel_rfl) (fun _ _ _ h => h) (Or.inl ⟨by rfl, ?_⟩) (by assumption) ?_
  rotate_left
  · intro w hSw
    try dsimp only at hSw
    go_simp
    try with_reducible rfl
  try simp only [Act.put, List.setIfInBounds_toArray, List.set_cons_zero, List.set_cons_succ]
  refine wpAnyH_take (i := 60) (oi := { dst := some 147, op := _, type := _, pos := _, after := _, guard := _ }) (v := ?_) rfl (by kernel_rfl) (by kernel_rfl) (by kernel_rfl) (fun _ _ _ h => h) (Or.inl ⟨by rfl, ?_⟩) (by assumption) ?_
  rotate_left
  · intro w hSw
    try dsimp only at hSw
    go_simp
    try with_reducible rfl
  try simp only [Act.put, List.setIfInBounds_toArray, List.set_cons_zero, List.set_cons_succ]
  refine wpAnyH_take (i := 61) (oi := { dst := some 148, op := _, type := _, pos := _, after := _, guard := _ }) (v := ?_) rfl (by kernel_rfl) (by kernel_rfl) (by kernel_rfl) (fun _ _ _ h => h) (Or.inl ⟨by rfl, ?_⟩) (by assumption) ?_
  rotate_left
  · intro w hSw
    try dsimp only at hSw
    go_simp
    try with_reducible rfl
  try simp only [Act.put, List.setIfInBounds_toArray, List.set_cons_zero, List.set_cons_succ]
  refine wpAnyH_take (i := 62) (oi := { dst := some 149, op := _, type := _, pos := _, after := _, guard := _ }) (v := ?_) rfl (by kernel_rfl) (by kernel_rfl) (by kernel_rfl) (fun _ _ _ h => h) (Or.inl ⟨by rfl, ?_⟩) (by assumption) ?_
  rotate_left
  · intro w hSw
    try dsimp only at hSw
    go_simp
    try with_reducible rfl
  try simp only [Act.put, List.setIfInBounds_toArray, List.set_cons_zero, List.set_cons_succ]
  refine wpAnyH_take (i := 63) (oi := { dst := some 150, op := _, type := _, pos := _, after := _, guard := _ }) (v := ?_) rfl (by kernel_rfl) (by kernel_rfl) (by kernel_rfl) (fun _ _ _ h => h) (Or.inl ⟨by rfl, ?_⟩) (by assumption) ?_
  rotate_left
  · intro w hSw
    try dsimp only at hSw
    go_simp
    try with_reducible rfl
  try simp only [Act.put, List.setIfInBounds_toArray, List.set_cons_zero, List.set_cons_succ]
  refine wpAnyH_take (i := 64) (oi := { dst := some 151, op := _, type := _, pos := _, after := _, guard := _ }) (v := ?_) rfl (by kernel_rfl) (by kernel_rfl) (by kernel_rfl) (fun _ _ _ h => h) (Or.inl ⟨by rfl, ?_⟩) (by assumption) ?_
  rotate_left
  · intro w hSw
    try dsimp only at hSw
    go_simp
    try with_reducible rfl
  try simp only [Act.put, List.setIfInBounds_toArray, List.set_cons_zero, List.set_cons_succ]
  refine wpAnyH_take (i := 65) (oi := { dst := some 152, op := _, type := _, pos := _, after := _, guard := _ }) (v := ?_) rfl (by kernel_rfl) (by kernel_rfl) (by kernel_rfl) (fun _ _ _ h => h) (Or.inl ⟨by rfl, ?_⟩) (by assumption) ?_
  rotate_left
  · intro w hSw
    try dsimp only at hSw
    go_simp
    try with_reducible rfl
  try simp only [Act.put, List.setIfInBounds_toArray, List.set_cons_zero, List.set_cons_succ]
  refine wpAnyH_take (i := 66) (oi := { dst := some 153, op := _, type := _, pos := _, after := _, guard := _ }) (v := ?_) rfl (by kernel_rfl) (by kernel_rfl) (by kernel_rfl) (fun _ _ _ h => h) (Or.inl ⟨by rfl, ?_⟩) (by assumption) ?_
  rotate_left
  · intro w hSw
    try dsimp only at hSw
    go_simp
    try with_reducible rfl
  try simp only [Act.put, List.setIfInBounds_toArray, List.set_cons_zero, List.set_cons_succ]
  refine wpAnyH_take (i := 67) (oi := { dst := some 154, op := _, type := _, pos := _, after := _, guard := _ }) (v := ?_) rfl (by kernel_rfl) (by kernel_rfl) (by kernel_rfl) (fun _ _ _ h => h) (Or.inl ⟨by rfl, ?_⟩) (by assumption) ?_
  rotate_left
  · intro w hSw
    try dsimp only at hSw
    go_simp
    try with_reducible rfl
  try simp only [Act.put, List.setIfInBounds_toArray, List.set_cons_zero, List.set_cons_succ]
  refine wpAnyH_take (i := 68) (oi := { dst := some 155, op := _, type := _, pos := _, after := _, guard := _ }) (v := ?_) rfl (by kernel_rfl) (by kernel_rfl) (by kernel_rfl) (fun _ _ _ h => h) (Or.inl ⟨by rfl, ?_⟩) (by assumption) ?_
  rotate_left
  · intro w hSw
    try dsimp only at hSw
    go_simp
    try with_reducible rfl
  try simp only [Act.put, List.setIfInBounds_toArray, List.set_cons_zero, List.set_cons_succ]
  refine wpAnyH_take (i := 69) (oi := { dst := some 156, op := _, type := _, pos := _, after := _, guard := _ }) (v := ?_) rfl (by kernel_rfl) (by kernel_rfl) (by kernel_rfl) (fun _ _ _ h => h) (Or.inl ⟨by rfl, ?_⟩) (by assumption) ?_
  rotate_left
  · intro w hSw
    try dsimp only at hSw
    go_simp
    try with_reducible rfl
  try simp only [Act.put, List.setIfInBounds_toArray, List.set_cons_zero, List.set_cons_succ]
  refine wpAnyH_take (i := 70) (oi := { dst := some 157, op := _, type := _, pos := _, after := _, guard := _ }) (v := ?_) rfl (by kernel_rfl) (by kernel_rfl) (by kernel_rfl) (fun _ _ _ h => h) (Or.inl ⟨by rfl, ?_⟩) (by assumption) ?_
  rotate_left
  · intro w hSw
    try dsimp only at hSw
    go_simp
    try with_reducible rfl
  try simp only [Act.put, List.setIfInBounds_toArray, List.set_cons_zero, List.set_cons_succ]
  refine wpAnyH_take (i := 71) (oi := { dst := some 0, op := _, type := _, pos := _, after := _, guard := _ }) (v := ?_) rfl (by kernel_rfl) (by kernel_rfl) (by kernel_rfl) (fun _ _ _ h => h) (Or.inl ⟨by rfl, ?_⟩) (by assumption) ?_
  rotate_left
  · intro w hSw
    try dsimp only at hSw
    go_simp
    try with_reducible rfl
  try simp only [Act.put, List.setIfInBounds_toArray, List.set_cons_zero, List.set_cons_succ]
  refine wpAnyH_done (by kernel_rfl) ?_ _
  go_wp2_with fail
  go_ret
  exact ⟨rfl, HD.out.a.low⟩
end Go.Proofs.YtbkignlbcneddaaGreatDoor
end

section
/-
  What the proofs of change's laws share: the variables lie as the contracts ask; light records are small; results in the form of the laws.
-/
set_option maxRecDepth 100000
namespace Go.Proofs.YtbkignlbcneddaaGreatDoor
open Go.ChangeShapes Go.WideShapes Go.ChangeAt Go.RowKit
open Csn (Cn cnV CnsAt TzOk wok_of max_ok)
/-- an array of strings that reads as these words holds them -/
theorem cells_of_words {H : Type} {enc : TypeId × Value → H} {P : Program} {w : World} {base : Nat} {sp : Nat → Bool} {held : Bool} {fuel : Nat} {t e : TypeId} {n : Nat} {cs : List Value} {zs : List ByteArray} {p : List MemPlace}
    (ht : P.underlying t = some (.array n e)) (he : P.underlying e = some .string) (hce : P.cellsOf e = 1) (hct : P.cellsOf t = n)
    (h : DataW.trod enc P w base sp held fuel t cs = some (.agg (zs.map fun z => .lit (.string z.data.toList)), p)) : cs = zs.map fun z => Value.string z := by
  cases fuel with
  | zero => simp [DataW.trod] at h
  | succ fuel =>
    simp only [DataW.trod, ht, hce, hct, Nat.mul_one] at h
    split at h
    · rename_i hl
      obtain ⟨xs, hm, hx⟩ := Option.map_eq_some_iff.1 h
      have hxs : xs.map (·.1) = zs.map fun z => (DataW.lit (.string z.data.toList) : DataW H) := by
        have := congrArg Prod.fst hx
        simpa using this
      have hxl : xs.length = n := by simpa using Lib.mapM_length hm
      have hzl : zs.length = n := by
        have := congrArg List.length hxs
        simp at this
        omega
      apply List.ext_getElem?
      intro i
      by_cases hi : i < n
      · obtain ⟨b, hb, hf⟩ := Lib.mapM_at hm i i (by simp [hi])
        obtain ⟨z, hc, rfl, _⟩ := DataW.trod_string he hf
        have h1 : cs[i]? = some (.string z) := by
          have := congrArg (·[0]?) hc
          simpa [List.getElem?_take, List.getElem?_drop] using this
        have h2 : (xs.map (·.1))[i]? = some (DataW.lit (.string z.data.toList) : DataW H) := by simp [hb]
        rw [hxs] at h2
        simp only [List.getElem?_map, Option.map_eq_some_iff, DataW.lit.injEq, Lit.string.injEq] at h2
        obtain ⟨z', hz', hz⟩ := h2
        have hzz : z' = z := by
          cases z'; cases z
          simp only [ByteArray.mk.injEq]
          exact Array.toList_inj.1 hz
        simp [h1, hz', hzz]
      · rw [List.getElem?_eq_none (by omega), List.getElem?_eq_none (by simp; omega)]
    · cases h
theorem wordsIs_of_head {P : Program} {W : World} {name : String} {zs : List ByteArray} {rest : List (String × DataW Unit)} {g : Nat} {t e : TypeId} {n : Nat}
    (hg : P.globalNamed name = some g) (hty : (P.globals[g]?).map (·.type) = some t) (ht : P.underlying t = some (.array n e)) (he : P.underlying e = some .string) (hce : P.cellsOf e = 1) (hct : P.cellsOf t = n)
    (h : laidMet P ((name, .agg (zs.map fun z => .lit (.string z.data.toList))) :: rest) W) : W.var? P name = some (zs.map fun z => Value.string z).toArray := by
  obtain ⟨ps, ⟨g', t', cs, fuel, p, q, hg', ht', hvar, hd, _, _⟩, _⟩ := h
  obtain rfl := Option.some.inj (hg.symm.trans hg')
  obtain rfl := Option.some.inj (hty.symm.trans ht')
  rw [hvar, ← cells_of_words ht he hce hct hd]
def opL : List ByteArray := [wordW 1, wordW 2, wordW 3, wordW 4, wordW 5]
theorem cok_of {W : World} (hL : laidMetH Tryz.prog [("math/bits.deBruijn32tab", Rows.laid_math_bits_deBruijn32tab), ("math/bits.deBruijn64tab", Rows.laid_math_bits_deBruijn64tab), ("internal/strconv.uint64pow10", Rows.laid_internal_strconv_uint64pow10), ("unicode/utf8.acceptRanges", Rows.laid_unicode_utf8_acceptRanges), ("identity/change.opWords", Rows.laid_identity_change_opWords), ("unicode/utf8.first", Rows.laid_unicode_utf8_first)] W)
    (hsh : W.ShapedOpen Tryz.prog) : COk W := by
  rw [MakeChecks.laidMetH_plain _ _ _ (by kernel_rfl)] at hL
  refine ⟨max_ok hsh, ?_, ?_⟩
  · have h : Lib.TabIs Tryz.prog W "math/bits.deBruijn64tab" .u8 [0, 1, 56, 2, 57, 49, 28, 3, 61, 58, 42, 50, 38, 29, 17, 4, 62, 47, 59, 36, 45, 43, 51, 22, 53, 39, 33, 30, 24, 18, 12, 5, 63, 55, 48, 27, 60, 41, 37, 16, 46, 35, 44, 21, 52, 32, 23, 11, 54, 26, 40, 15, 34, 20, 31, 10, 25, 14, 19, 9, 13, 8, 7, 6] :=
      Lib.tabIs_of_head (g := 6) (by kernel_rfl) (by kernel_rfl) Tryz.underlying256 Tryz.underlying5 (by kernel_rfl) (by kernel_rfl) hL.tail
    exact h.cell (g := 6) (by kernel_rfl) 15 (by decide)
  · have hd : (Rows.laid_identity_change_opWords : DataW Unit) = .agg (opL.map fun z => .lit (.string z.data.toList)) := by kernel_rfl
    have hL' := hL.tail.tail.tail.tail
    rw [hd] at hL'
    have h := wordsIs_of_head (g := 0) (by kernel_rfl) (by kernel_rfl) Tryz.underlying117 Tryz.underlying9 (by kernel_rfl) (by kernel_rfl) hL'
    intro k hk
    have hc := World.var?_cell (g := 0) (by kernel_rfl) h k
    rw [hc]
    match k, hk with
    | 0, _ => rfl
    | 1, _ => rfl
    | 2, _ => rfl
    | 3, _ => rfl
    | 4, _ => rfl
theorem LtG.small {l : List Chg} (h : LtG l) : ∀ g ∈ l, SmG g := fun g hg => by
  have := h.2 g hg
  obtain ⟨h1, h2, h3, h4⟩ := this
  exact ⟨by omega, by omega, by omega, by omega⟩
theorem LtG.dom {l k : List Chg} (h : LtG l) (j : LtG k) (ih : ∀ g ∈ l, InG g) (ij : ∀ g ∈ k, InG g) : ∀ g ∈ l ++ k, SmG g ∧ cnDom g.c := fun g hg => by
  rcases List.mem_append.1 hg with hg | hg
  · exact ⟨h.small g hg, (ih g hg).c⟩
  · exact ⟨j.small g hg, (ij g hg).c⟩
theorem same_k (ao bo : Option Addr) (n m cap dap : Nat) (ps qs : List Chg) (r : Bool) (w : World) (h : ChsAt w ao n cap ps) (k : ChsAt w bo m dap qs) (hr : decide (ps = qs) = r) :
    Calls Tryz.prog 23 #[.slice ao n cap, .slice bo m dap] w fun e w' => e = .returned (.bool r) ∧ Below w.heap.size w w' := by subst hr; exact rsameg_s ao bo n m cap dap ps qs w h k
end Go.Proofs.YtbkignlbcneddaaGreatDoor
end
