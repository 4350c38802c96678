/-
  Texts of the schema layer and of those beneath it, joined: EntSml, EntLaw. Conditions stand at each contract.
-/
import Derived.Test.YtmmdaegdkikkpaaGreatDoorP21
set_option linter.unusedVariables false
set_option linter.unusedSimpArgs false
set_option linter.unnecessarySimpa false

section
set_option maxRecDepth 100000
namespace Go.Proofs.YtmmdaegdkikkpaaGreatDoor
open Go.RowKit Go.PlainAid
set_option maxHeartbeats 4000000 in
theorem small8_s (ao : Option Addr) (n cap : Nat) (l : List At) (w : World) (h : AttrsAt w ao n cap l) (rA : RA l) :
  Calls Tryz.prog 68 #[.slice ao n cap] w fun e w' => GuardB (LightE l) w e w' := by
 have HA := Lib.hid h
 have HR := Lib.hid rA
 have hl := h.1
 have hcx := h.2.2.1
 have hcn := h.2.1
 unfold maxLen at hcx
 have HLen := Lib.hid hl
 clear h rA hl
 go_enter Tryz.func68, Tryz.ntmps68
 by_cases h40 : 40 < n
 ·have d4 : decide ((40 : Int) < (n : Int)) = true := decide_eq_true (by omega)
  have d4' : (40 : Int) < (n : Int) := by omega
  go_wp2_with fail
  go_ret
  exact guardB_no (Below.refl _ _)
 ·have d4 : decide ((40 : Int) < (n : Int)) = false := decide_eq_false (by omega)
  have d4' : ¬ (40 : Int) < (n : Int) := by omega
  go_wp2_with fail
  go_loop [3, 4, 5] (fun s3 i s5 => ∃ (j S : Nat), j ≤ n ∧ i = .int .i64 j ∧ s3 = .int .i64 S ∧ S ≤ j * 6020 ∧ Hid (∀ a ∈ l.take j, AtS a)) (fun _ i _ => n - (intOf i).toNat)
  case atStart => exact ⟨0, 0, Nat.zero_le _, rfl, rfl, Nat.zero_le _, Lib.hid (fun v hv => by rw [List.take_zero] at hv; exact absurd hv List.not_mem_nil)⟩
  case round =>
   obtain ⟨j, S, hj, rfl, rfl, hS6, HV⟩ := hrel
   by_cases hlt : j < n
   ·have d1 : decide ((j : Int) < (n : Int)) = true := decide_eq_true (by omega)
    have d0 : (0 : Int) ≤ (j : Int) := by omega
    have d3 : (j : Int) < (n : Int) := by omega
    obtain ⟨b, off, rfl, hbl, hs⟩ := HA.out.2.2.2 (by omega)
    obtain ⟨y0, vo, vn, vc, y1, hS⟩ := hs j hlt
    clear hs
    obtain ⟨hn0, hn1⟩ := HR.out _ (at_mem l j (by rw [HLen.out]; exact hlt))
    have HTk := Lib.hid (at_take l j (by rw [HLen.out]; exact hlt))
    obtain ⟨A, hA⟩ : ∃ x, atD l j = x := ⟨_, rfl⟩
    rw [hA] at y0 hS hn0 hn1 HTk
    clear hA
    obtain ⟨an, vs⟩ := A
    simp only at y0 hS hn0 hn1
    have HS1 := Lib.hid hS
    have HVl := Lib.hid hS.1
    have hvx := hS.2.2.1
    unfold maxLen at hvx
    have hvc := hS.2.1
    have HRS := Lib.hid hn1
    clear hS hn1
    by_cases h2 : 20 < vn
    ·have d5 : decide ((20 : Int) < (vn : Int)) = true := decide_eq_true (by omega)
     have d5' : (20 : Int) < (vn : Int) := by omega
     go_wp2_with fail
     go_ret
     exact guardB_no (Below.refl _ _)
    ·have d5 : decide ((20 : Int) < (vn : Int)) = false := decide_eq_false (by omega)
     have d5' : ¬ (20 : Int) < (vn : Int) := by omega
     by_cases h1 : 100 < an.size
     ·have d6 : decide ((100 : Int) < (an.size : Int)) = true := decide_eq_true (by omega)
      have d6' : (100 : Int) < (an.size : Int) := by omega
      go_wp2_with fail
      go_ret
      exact guardB_no (Below.refl _ _)
     ·have d6 : decide ((100 : Int) < (an.size : Int)) = false := decide_eq_false (by omega)
      have d6' : ¬ (100 : Int) < (an.size : Int) := by omega
      go_wp2_with fail
      go_loop [3, 5] (fun s3 k => ∃ (q S2 : Nat), q ≤ vn ∧ k = .int .i64 q ∧ s3 = .int .i64 S2 ∧ S2 ≤ j * 6020 + q * 301 ∧ Hid (∀ v ∈ vs.take q, v.size ≤ 300)) (fun _ k => vn - (intOf k).toNat)
      case atStart => exact ⟨0, S, Nat.zero_le _, rfl, rfl, by omega, Lib.hid (fun v hv => by rw [List.take_zero] at hv; cases hv)⟩
      case round =>
       obtain ⟨q, S2, hq, rfl, rfl, hS2, HQ⟩ := hrel
       by_cases hqt : q < vn
       ·have g1 : decide ((q : Int) < (vn : Int)) = true := decide_eq_true (by omega)
        have g0 : (0 : Int) ≤ (q : Int) := by omega
        have g3 : (q : Int) < (vn : Int) := by omega
        obtain ⟨vb, voff, rfl, hvb, hvs⟩ := HS1.out.2.2.2 (by omega)
        have hvcell := hvs q (by rw [HVl.out]; exact hqt)
        clear hvs
        have hvz := HRS.out _ (part_mem vs q (by rw [HVl.out]; exact hqt))
        have HT2 := Lib.hid (take_snoc vs q (by rw [HVl.out]; exact hqt))
        obtain ⟨x, hx⟩ : ∃ y, partAt vs q = y := ⟨_, rfl⟩
        rw [hx] at hvcell hvz HT2
        clear hx
        by_cases h3 : 300 < x.size
        ·have g4 : decide ((300 : Int) < (x.size : Int)) = true := decide_eq_true (by omega)
         have g4' : (300 : Int) < (x.size : Int) := by omega
         go_wp2_with fail
         go_ret
         exact guardB_no (Below.refl _ _)
        ·have g4 : decide ((300 : Int) < (x.size : Int)) = false := decide_eq_false (by omega)
         have g4' : ¬ (300 : Int) < (x.size : Int) := by omega
         have HQ2 := Lib.hid (show ∀ v ∈ vs.take (q + 1), v.size ≤ 300 from fun v hv => by
          rw [HT2.out] at hv
          rcases List.mem_append.1 hv with k | k
          ·exact HQ.out v k
          ·rw [List.mem_singleton.1 k]; exact Nat.not_lt.1 h3)
         go_wp2_with fail
         go_round
         case rel => exact ⟨q + 1, S2 + x.size + 1, by omega, by go_num, by go_num, by omega, HQ2⟩
         case measure => simp [intOf]; omega
       ·obtain rfl : vn = q := by omega
        have g1 : decide ((vn : Int) < (vn : Int)) = false := decide_eq_false (by omega)
        have HAl := Lib.hid (show ∀ v ∈ vs, v.size ≤ 300 by have := HQ.out; rwa [List.take_of_length_le (by rw [HVl.out]; exact Nat.le_refl _)] at this)
        have HV2 := Lib.hid (show ∀ a ∈ l.take (j + 1), AtS a from fun a ha => by
         rw [HTk.out] at ha
         rcases List.mem_append.1 ha with k | k
         ·exact HV.out a k
         ·rw [List.mem_singleton.1 k]; exact ⟨by show an.size ≤ 300; omega, by show vs.length ≤ 20; rw [HVl.out]; omega, HAl.out⟩)
        go_wp2_with fail
        go_round
        case rel => exact ⟨j + 1, S2, by omega, by go_num, rfl, by omega, HV2⟩
        case measure => simp [intOf]; omega
   ·obtain rfl : n = j := by omega
    have d1 : decide ((n : Int) < (n : Int)) = false := decide_eq_false (by omega)
    have HVT := Lib.hid (show ∀ a ∈ l, AtS a by have := HV.out; rwa [List.take_of_length_le (by rw [HLen.out]; exact Nat.le_refl _)] at this)
    have HG := Lib.hid (show LightE l from ⟨by rw [HLen.out]; omega, HVT.out⟩)
    by_cases h5 : S < 2000
    ·have d7 : decide ((S : Int) < (2000 : Int)) = true := decide_eq_true (by omega)
     have d7' : (S : Int) < (2000 : Int) := by omega
     go_wp2_with fail
     go_ret
     exact guardB_yes HG.out (Below.refl _ _)
    ·have d7 : decide ((S : Int) < (2000 : Int)) = false := decide_eq_false (by omega)
     have d7' : ¬ (S : Int) < (2000 : Int) := by omega
     go_wp2_with fail
     go_ret
     exact guardB_no (Below.refl _ _)
set_option maxHeartbeats 4000000 in
theorem short8_s (en : ByteArray) (ao : Option Addr) (n cap : Nat) (l : List At) (w : World) (h : AttrsAt w ao n cap l) (rA : RA l) :
  Calls Tryz.prog 20 #[.agg #[.string en, .slice ao n cap]] w fun e w' => GuardB (en.size ≤ 1000 ∧ LightE l) w e w' := by
 have hb0 := below_al w (.cells #[.string en, .slice ao n cap] 37)
 have HS := Lib.hid (small8_s ao n cap l _ (h.below hb0) rA)
 have HB := Lib.hid hb0
 clear hb0 h rA
 go_enter Tryz.func20, Tryz.ntmps20
 by_cases h1 : en.size ≤ 1000
 ·have d1 : decide ((en.size : Int) ≤ 1000) = true := decide_eq_true (by omega)
  have d1' : (en.size : Int) ≤ 1000 := by omega
  go_wp2_with fail
  refine HS.out.mono ?_
  rintro e w1 ⟨g, rfl, hg, hb⟩
  have HB1 := Lib.hid (HB.out.trans (hb.mono HB.out.size))
  clear hb
  go_wp2_with fail
  go_ret
  exact ⟨⟨_, rfl, fun e => ⟨h1, hg e⟩, HB1.out⟩⟩
 ·have d1 : decide ((en.size : Int) ≤ 1000) = false := decide_eq_false (by omega)
  have d1' : ¬ (en.size : Int) ≤ 1000 := by omega
  go_wp2_with fail
  go_ret
  exact guardB_no HB.out
end Go.Proofs.YtmmdaegdkikkpaaGreatDoor
end

section
set_option maxRecDepth 100000
namespace Go.Proofs.YtmmdaegdkikkpaaGreatDoor
open Go.ChangeShapes Go.WideShapes Go.ChangeAt Go.RowKit Go.PlainAid
structure EOk (w : World) : Prop where
 io : IntOk w
 mo : MaxOk w
theorem EOk.below {w w' : World} (h : EOk w) (hb : Below w.heap.size w w') : EOk w' := ⟨h.io.below hb, h.mo.below hb h.mo.lt⟩
theorem eok {W : World} (hL : laidMetH Tryz.prog [("math/bits.deBruijn32tab", Rows.laid_math_bits_deBruijn32tab), ("math/bits.deBruijn64tab", Rows.laid_math_bits_deBruijn64tab), ("internal/strconv.uint64pow10", Rows.laid_internal_strconv_uint64pow10), ("unicode/utf8.acceptRanges", Rows.laid_unicode_utf8_acceptRanges), ("strconv.ErrRange", Rows.laid_strconv_ErrRange), ("strconv.ErrSyntax", Rows.laid_strconv_ErrSyntax), ("unicode/utf8.first", Rows.laid_unicode_utf8_first)] W)
  (hsh : W.ShapedOpen Tryz.prog) : EOk W := by
 rw [MakeChecks.laidMetH_plain _ _ _ (by kernel_rfl)] at hL
 refine ⟨⟨?_, ?_⟩, max_ok hsh⟩
 ·exact Lib.tabIs_of_head (g := 6) (by kernel_rfl) (by kernel_rfl) Tryz.underlying284 Tryz.underlying208 (by kernel_rfl) (by kernel_rfl) hL.tail.tail
 ·obtain ⟨a, s, h, _⟩ := laid_sentinel hL.tail.tail.tail.tail (g := 3) (by kernel_rfl) (by kernel_rfl) Tryz.underlying81 tp_row Tryz.underlying279 Tryz.underlying281 rfl rfl Tryz.underlying9 (by kernel_rfl) (by kernel_rfl)
  exact ⟨_, _, h⟩
theorem LightE.fewV {l : List At} (h : LightE l) : FewV l := fun a ha => by have := (h.each a ha).len; omega
end Go.Proofs.YtmmdaegdkikkpaaGreatDoor
end
