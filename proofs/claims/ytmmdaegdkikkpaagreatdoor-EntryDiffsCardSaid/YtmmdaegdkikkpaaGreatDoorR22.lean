/-
  Texts of the schema layer and of those beneath it, joined: EntSml, EntLaw, EntLw2, EntEqu, EntDfP, EntHas, EntSo. Conditions stand at each contract.
-/
import Derived.Test.YtmmdaegdkikkpaaGreatDoorR21
set_option linter.unusedVariables false
set_option linter.unusedSimpArgs false
set_option linter.unnecessarySimpa false

section
set_option maxRecDepth 100000
namespace Go.Proofs.YtmmdaegdkikkpaaGreatDoor
open Go.RowKit Go.PlainAid
set_option maxHeartbeats 4000000 in
theorem small8_s (ao : Option Addr) (n cap : Nat) (l : List At) (w : World) (h : AttrsAt w ao n cap l) (rA : RA l) :
  Calls Tryz.prog 68 #[.slice ao n cap] w fun e w' => GuardB (LightE l) w e w' := by
 have HA := Lib.hid h
 have HR := Lib.hid rA
 have hl := h.1
 have hcx := h.2.2.1
 have hcn := h.2.1
 unfold maxLen at hcx
 have HLen := Lib.hid hl
 clear h rA hl
 go_enter Tryz.func68, Tryz.ntmps68
 by_cases h40 : 40 < n
 ·have d4 : decide ((40 : Int) < (n : Int)) = true := decide_eq_true (by omega)
  have d4' : (40 : Int) < (n : Int) := by omega
  go_wp2_with fail
  go_ret
  exact guardB_no (Below.refl _ _)
 ·have d4 : decide ((40 : Int) < (n : Int)) = false := decide_eq_false (by omega)
  have d4' : ¬ (40 : Int) < (n : Int) := by omega
  go_wp2_with fail
  go_loop [3, 4, 5] (fun s3 i s5 => ∃ (j S : Nat), j ≤ n ∧ i = .int .i64 j ∧ s3 = .int .i64 S ∧ S ≤ j * 6020 ∧ Hid (∀ a ∈ l.take j, AtS a)) (fun _ i _ => n - (intOf i).toNat)
  case atStart => exact ⟨0, 0, Nat.zero_le _, rfl, rfl, Nat.zero_le _, Lib.hid (fun v hv => by rw [List.take_zero] at hv; exact absurd hv List.not_mem_nil)⟩
  case round =>
   obtain ⟨j, S, hj, rfl, rfl, hS6, HV⟩ := hrel
   by_cases hlt : j < n
   ·have d1 : decide ((j : Int) < (n : Int)) = true := decide_eq_true (by omega)
    have d0 : (0 : Int) ≤ (j : Int) := by omega
    have d3 : (j : Int) < (n : Int) := by omega
    obtain ⟨b, off, rfl, hbl, hs⟩ := HA.out.2.2.2 (by omega)
    obtain ⟨y0, vo, vn, vc, y1, hS⟩ := hs j hlt
    clear hs
    obtain ⟨hn0, hn1⟩ := HR.out _ (at_mem l j (by rw [HLen.out]; exact hlt))
    have HTk := Lib.hid (at_take l j (by rw [HLen.out]; exact hlt))
    obtain ⟨A, hA⟩ : ∃ x, atD l j = x := ⟨_, rfl⟩
    rw [hA] at y0 hS hn0 hn1 HTk
    clear hA
    obtain ⟨an, vs⟩ := A
    simp only at y0 hS hn0 hn1
    have HS1 := Lib.hid hS
    have HVl := Lib.hid hS.1
    have hvx := hS.2.2.1
    unfold maxLen at hvx
    have hvc := hS.2.1
    have HRS := Lib.hid hn1
    clear hS hn1
    by_cases h2 : 20 < vn
    ·have d5 : decide ((20 : Int) < (vn : Int)) = true := decide_eq_true (by omega)
     have d5' : (20 : Int) < (vn : Int) := by omega
     go_wp2_with fail
     go_ret
     exact guardB_no (Below.refl _ _)
    ·have d5 : decide ((20 : Int) < (vn : Int)) = false := decide_eq_false (by omega)
     have d5' : ¬ (20 : Int) < (vn : Int) := by omega
     by_cases h1 : 100 < an.size
     ·have d6 : decide ((100 : Int) < (an.size : Int)) = true := decide_eq_true (by omega)
      have d6' : (100 : Int) < (an.size : Int) := by omega
      go_wp2_with fail
      go_ret
      exact guardB_no (Below.refl _ _)
     ·have d6 : decide ((100 : Int) < (an.size : Int)) = false := decide_eq_false (by omega)
      have d6' : ¬ (100 : Int) < (an.size : Int) := by omega
      go_wp2_with fail
      go_loop [3, 5] (fun s3 k => ∃ (q S2 : Nat), q ≤ vn ∧ k = .int .i64 q ∧ s3 = .int .i64 S2 ∧ S2 ≤ j * 6020 + q * 301 ∧ Hid (∀ v ∈ vs.take q, v.size ≤ 300)) (fun _ k => vn - (intOf k).toNat)
      case atStart => exact ⟨0, S, Nat.zero_le _, rfl, rfl, by omega, Lib.hid (fun v hv => by rw [List.take_zero] at hv; cases hv)⟩
      case round =>
       obtain ⟨q, S2, hq, rfl, rfl, hS2, HQ⟩ := hrel
       by_cases hqt : q < vn
       ·have g1 : decide ((q : Int) < (vn : Int)) = true := decide_eq_true (by omega)
        have g0 : (0 : Int) ≤ (q : Int) := by omega
        have g3 : (q : Int) < (vn : Int) := by omega
        obtain ⟨vb, voff, rfl, hvb, hvs⟩ := HS1.out.2.2.2 (by omega)
        have hvcell := hvs q (by rw [HVl.out]; exact hqt)
        clear hvs
        have hvz := HRS.out _ (part_mem vs q (by rw [HVl.out]; exact hqt))
        have HT2 := Lib.hid (take_snoc vs q (by rw [HVl.out]; exact hqt))
        obtain ⟨x, hx⟩ : ∃ y, partAt vs q = y := ⟨_, rfl⟩
        rw [hx] at hvcell hvz HT2
        clear hx
        by_cases h3 : 300 < x.size
        ·have g4 : decide ((300 : Int) < (x.size : Int)) = true := decide_eq_true (by omega)
         have g4' : (300 : Int) < (x.size : Int) := by omega
         go_wp2_with fail
         go_ret
         exact guardB_no (Below.refl _ _)
        ·have g4 : decide ((300 : Int) < (x.size : Int)) = false := decide_eq_false (by omega)
         have g4' : ¬ (300 : Int) < (x.size : Int) := by omega
         have HQ2 := Lib.hid (show ∀ v ∈ vs.take (q + 1), v.size ≤ 300 from fun v hv => by
          rw [HT2.out] at hv
          rcases List.mem_append.1 hv with k | k
          ·exact HQ.out v k
          ·rw [List.mem_singleton.1 k]; exact Nat.not_lt.1 h3)
         go_wp2_with fail
         go_round
         case rel => exact ⟨q + 1, S2 + x.size + 1, by omega, by go_num, by go_num, by omega, HQ2⟩
         case measure => simp [intOf]; omega
       ·obtain rfl : vn = q := by omega
        have g1 : decide ((vn : Int) < (vn : Int)) = false := decide_eq_false (by omega)
        have HAl := Lib.hid (show ∀ v ∈ vs, v.size ≤ 300 by have := HQ.out; rwa [List.take_of_length_le (by rw [HVl.out]; exact Nat.le_refl _)] at this)
        have HV2 := Lib.hid (show ∀ a ∈ l.take (j + 1), AtS a from fun a ha => by
         rw [HTk.out] at ha
         rcases List.mem_append.1 ha with k | k
         ·exact HV.out a k
         ·rw [List.mem_singleton.1 k]; exact ⟨by show an.size ≤ 300; omega, by show vs.length ≤ 20; rw [HVl.out]; omega, HAl.out⟩)
        go_wp2_with fail
        go_round
        case rel => exact ⟨j + 1, S2, by omega, by go_num, rfl, by omega, HV2⟩
        case measure => simp [intOf]; omega
   ·obtain rfl : n = j := by omega
    have d1 : decide ((n : Int) < (n : Int)) = false := decide_eq_false (by omega)
    have HVT := Lib.hid (show ∀ a ∈ l, AtS a by have := HV.out; rwa [List.take_of_length_le (by rw [HLen.out]; exact Nat.le_refl _)] at this)
    have HG := Lib.hid (show LightE l from ⟨by rw [HLen.out]; omega, HVT.out⟩)
    by_cases h5 : S < 2000
    ·have d7 : decide ((S : Int) < (2000 : Int)) = true := decide_eq_true (by omega)
     have d7' : (S : Int) < (2000 : Int) := by omega
     go_wp2_with fail
     go_ret
     exact guardB_yes HG.out (Below.refl _ _)
    ·have d7 : decide ((S : Int) < (2000 : Int)) = false := decide_eq_false (by omega)
     have d7' : ¬ (S : Int) < (2000 : Int) := by omega
     go_wp2_with fail
     go_ret
     exact guardB_no (Below.refl _ _)
set_option maxHeartbeats 4000000 in
theorem short8_s (en : ByteArray) (ao : Option Addr) (n cap : Nat) (l : List At) (w : World) (h : AttrsAt w ao n cap l) (rA : RA l) :
  Calls Tryz.prog 20 #[.agg #[.string en, .slice ao n cap]] w fun e w' => GuardB (en.size ≤ 1000 ∧ LightE l) w e w' := by
 have hb0 := below_al w (.cells #[.string en, .slice ao n cap] 37)
 have HS := Lib.hid (small8_s ao n cap l _ (h.below hb0) rA)
 have HB := Lib.hid hb0
 clear hb0 h rA
 go_enter Tryz.func20, Tryz.ntmps20
 by_cases h1 : en.size ≤ 1000
 ·have d1 : decide ((en.size : Int) ≤ 1000) = true := decide_eq_true (by omega)
  have d1' : (en.size : Int) ≤ 1000 := by omega
  go_wp2_with fail
  refine HS.out.mono ?_
  rintro e w1 ⟨g, rfl, hg, hb⟩
  have HB1 := Lib.hid (HB.out.trans (hb.mono HB.out.size))
  clear hb
  go_wp2_with fail
  go_ret
  exact ⟨⟨_, rfl, fun e => ⟨h1, hg e⟩, HB1.out⟩⟩
 ·have d1 : decide ((en.size : Int) ≤ 1000) = false := decide_eq_false (by omega)
  have d1' : ¬ (en.size : Int) ≤ 1000 := by omega
  go_wp2_with fail
  go_ret
  exact guardB_no HB.out
end Go.Proofs.YtmmdaegdkikkpaaGreatDoor
end

section
set_option maxRecDepth 100000
namespace Go.Proofs.YtmmdaegdkikkpaaGreatDoor
open Go.ChangeShapes Go.WideShapes Go.ChangeAt Go.RowKit Go.PlainAid
structure EOk (w : World) : Prop where
 io : IntOk w
 mo : MaxOk w
theorem EOk.below {w w' : World} (h : EOk w) (hb : Below w.heap.size w w') : EOk w' := ⟨h.io.below hb, h.mo.below hb h.mo.lt⟩
theorem eok {W : World} (hL : laidMetH Tryz.prog [("math/bits.deBruijn32tab", Rows.laid_math_bits_deBruijn32tab), ("math/bits.deBruijn64tab", Rows.laid_math_bits_deBruijn64tab), ("internal/strconv.uint64pow10", Rows.laid_internal_strconv_uint64pow10), ("unicode/utf8.acceptRanges", Rows.laid_unicode_utf8_acceptRanges), ("strconv.ErrRange", Rows.laid_strconv_ErrRange), ("strconv.ErrSyntax", Rows.laid_strconv_ErrSyntax), ("unicode/utf8.first", Rows.laid_unicode_utf8_first)] W)
  (hsh : W.ShapedOpen Tryz.prog) : EOk W := by
 rw [MakeChecks.laidMetH_plain _ _ _ (by kernel_rfl)] at hL
 refine ⟨⟨?_, ?_⟩, max_ok hsh⟩
 ·exact Lib.tabIs_of_head (g := 6) (by kernel_rfl) (by kernel_rfl) Tryz.underlying284 Tryz.underlying208 (by kernel_rfl) (by kernel_rfl) hL.tail.tail
 ·obtain ⟨a, s, h, _⟩ := laid_sentinel hL.tail.tail.tail.tail (g := 3) (by kernel_rfl) (by kernel_rfl) Tryz.underlying81 tp_row Tryz.underlying279 Tryz.underlying281 rfl rfl Tryz.underlying9 (by kernel_rfl) (by kernel_rfl)
  exact ⟨_, _, h⟩
theorem LightE.fewV {l : List At} (h : LightE l) : FewV l := fun a ha => by have := (h.each a ha).len; omega
end Go.Proofs.YtmmdaegdkikkpaaGreatDoor
end

section
set_option maxRecDepth 100000
namespace Go.Proofs.YtmmdaegdkikkpaaGreatDoor
open Go.RowKit Go.PlainAid
theorem same_mods {W : World} {mo so : Option Addr} {n m mc sc : Nat} {D : List Md} (h : MdsAt W mo n mc D) (k : MdsAt W so m sc D) :
  Calls Tryz.prog 31 #[.slice mo n mc, .slice so m sc] W fun e w' => e = .returned (.bool true) ∧ Below W.heap.size W w' := by
 have := sameM8_s mo so n m mc sc D D W h k
 rwa [decide_eq_true rfl] at this
theorem enEqual_s (en fn : ByteArray) (ao bo : Option Addr) (n m cap dap : Nat) (l k : List At) (w : World) (h : AttrsAt w ao n cap l) (h' : AttrsAt w bo m dap k) (hF : Few l) (hG : Few k) :
  Calls Tryz.prog 34 #[.agg #[.string en, .slice ao n cap], .agg #[.string fn, .slice bo m dap]] w fun e w' => e = .returned (.bool (decide (en = fn ∧ nf l = nf k))) ∧ Below w.heap.size w w' := by
 have b0 := below_al w (.cells #[.string en, .slice ao n cap] 37)
 have b1 := below_al (w.alloc (.cells #[.string en, .slice ao n cap] 37)) (.cells #[.string fn, .slice bo m dap] 37)
 have HB := Lib.hid (b0.trans (b1.mono b0.size))
 have HS := Lib.hid (equal_s ao bo n m cap dap l k _ (h.below HB.out) (h'.below HB.out) hF hG)
 clear b0 b1 h h'
 obtain ⟨z, hz⟩ : ∃ z, decide (en = fn) = z := ⟨_, rfl⟩
 have q1 : (en.toList == fn.toList) = z := by rw [str_eq]; exact hz
 obtain ⟨y, hy⟩ : ∃ y, decide (nf l = nf k) = y := ⟨_, rfl⟩
 rw [hy] at HS
 have HD := Lib.hid (show decide (en = fn ∧ nf l = nf k) = (z && y) by rw [← hz, ← hy]; exact Bool.decide_and _ _)
 clear hz hy
 go_enter Tryz.func34, Tryz.ntmps34
 cases z
 ·go_wp2_with fail
  go_ret
  exact ⟨by rw [HD.out]; rfl, HB.out⟩
 ·go_wp2_with fail
  refine HS.out.mono ?_
  rintro e w1 ⟨rfl, hb⟩
  go_wp2_with fail
  go_ret
  exact ⟨by rw [HD.out]; rfl, HB.out.trans (hb.mono HB.out.size)⟩
theorem rEnEqual_s (en fn : ByteArray) (ao bo : Option Addr) (n m cap dap : Nat) (l k : List At) (w : World) (h : AttrsAt w ao n cap l) (h' : AttrsAt w bo m dap k) (hF : Few l) (hG : Few k) :
  Calls Tryz.prog 35 #[.agg #[.string en, .slice ao n cap], .agg #[.string fn, .slice bo m dap]] w fun e w' => e = .returned (.bool (decide (en = fn ∧ nf l = nf k))) ∧ Below w.heap.size w w' := by
 have b0 := below_al w (.cells #[.string en, .slice ao n cap] 37)
 have b1 := below_al (w.alloc (.cells #[.string en, .slice ao n cap] 37)) (.cells #[.string fn, .slice bo m dap] 37)
 have HB := Lib.hid (b0.trans (b1.mono b0.size))
 have HS := Lib.hid (requal_s ao bo n m cap dap l k _ (h.below HB.out) (h'.below HB.out) hF hG)
 clear b0 b1 h h'
 obtain ⟨z, hz⟩ : ∃ z, decide (en = fn) = z := ⟨_, rfl⟩
 have q1 : (en.toList == fn.toList) = z := by rw [str_eq]; exact hz
 obtain ⟨y, hy⟩ : ∃ y, decide (nf l = nf k) = y := ⟨_, rfl⟩
 rw [hy] at HS
 have HD := Lib.hid (show decide (en = fn ∧ nf l = nf k) = (z && y) by rw [← hz, ← hy]; exact Bool.decide_and _ _)
 clear hz hy
 go_enter Tryz.func35, Tryz.ntmps35
 cases z
 ·go_wp2_with fail
  go_ret
  exact ⟨by rw [HD.out]; rfl, HB.out⟩
 ·go_wp2_with fail
  refine HS.out.mono ?_
  rintro e w1 ⟨rfl, hb⟩
  go_wp2_with fail
  go_ret
  exact ⟨by rw [HD.out]; rfl, HB.out.trans (hb.mono HB.out.size)⟩
def lookA : List At → ByteArray → List ByteArray
 | [], _ => []
 | x :: l, n => if x.1 = n then x.2 else lookA l n
theorem lookA_none {n : ByteArray} : ∀ {l : List At}, (∀ x ∈ l, x.1 ≠ n) → lookA l n = []
 | [], _ => rfl
 | x :: l, h => by
  show (if x.1 = n then x.2 else lookA l n) = []
  rw [if_neg (h x (List.mem_cons_self ..)), lookA_none fun y hy => h y (List.mem_cons_of_mem _ hy)]
theorem lookA_some {n : ByteArray} {v : List ByteArray} : ∀ {l : List At}, (∀ x ∈ l, x.1 = n → x.2 = v) → (∃ x ∈ l, x.1 = n) → lookA l n = v
 | [], _, h => by obtain ⟨x, hx, _⟩ := h; cases hx
 | x :: l, h, k => by
  show (if x.1 = n then x.2 else lookA l n) = v
  by_cases e : x.1 = n
  ·rw [if_pos e, h x (List.mem_cons_self ..) e]
  ·rw [if_neg e]
   refine lookA_some (fun y hy => h y (List.mem_cons_of_mem _ hy)) ?_
   obtain ⟨y, hy, q⟩ := k
   rcases List.mem_cons.1 hy with z | z
   ·exact absurd (z ▸ q) e
   ·exact ⟨y, z, q⟩
theorem lookA_nf (l : List At) (n : ByteArray) : lookA (nf l) n = vals l n := by
 by_cases h : vals l n = []
 ·rw [h]
  refine lookA_none fun x hx e => ?_
  have := nf_mem.1 hx
  rw [e, h] at this
  exact this.2 this.1
 ·exact lookA_some (fun x hx e => by rw [← e]; exact (nf_mem.1 hx).1) ⟨(n, vals l n), nf_mem.2 ⟨rfl, h⟩, rfl⟩
def mrg (X Y : List At) : List Md := (sortU (X.map (·.1) ++ Y.map (·.1))).flatMap fun n => dif1 n (lookA X n) (lookA Y n)
theorem mrg_nf (a b : List At) : mrg (nf a) (nf b) = difL a b := by
 unfold mrg difL
 rw [nf_names, nf_names]
 congr 1
 funext n
 rw [lookA_nf, lookA_nf]
theorem sortU_head {x : ByteArray} {L M : List ByteArray} (h1 : ∀ z, z ∈ L ↔ z = x ∨ z ∈ M) (h2 : ∀ z ∈ M, cmpS x z < 0) : sortU L = x :: sortU M :=
 asc_ext (sortU_asc _) (List.pairwise_cons.2 ⟨fun z hz => h2 z (sortU_mem.1 hz), sortU_asc _⟩) fun z => by rw [sortU_mem, h1, List.mem_cons, sortU_mem]
theorem flat_congr {α β : Type} {f g : α → List β} : ∀ {l : List α}, (∀ x ∈ l, f x = g x) → l.flatMap f = l.flatMap g
 | [], _ => rfl
 | x :: l, h => by rw [List.flatMap_cons, List.flatMap_cons, h x (List.mem_cons_self ..), flat_congr fun y hy => h y (List.mem_cons_of_mem _ hy)]
theorem lookA_cons_ne {x : At} {l : List At} {n : ByteArray} (h : cmpS x.1 n < 0) : lookA (x :: l) n = lookA l n := if_neg (cs_ne h)
theorem asc_head {x : At} {X : List At} (h : Asc ((x :: X).map (·.1))) : (∀ z ∈ X.map (·.1), cmpS x.1 z < 0) ∧ Asc (X.map (·.1)) := List.pairwise_cons.1 h
theorem mrg_nil : mrg [] [] = [] := rfl
theorem mrg_left {x : At} {X Y : List At} (h : Asc ((x :: X).map (·.1))) (k : ∀ z ∈ Y.map (·.1), cmpS x.1 z < 0) : mrg (x :: X) Y = dif1 x.1 x.2 [] ++ mrg X Y := by
 obtain ⟨h1, _⟩ := asc_head h
 have hM : ∀ z ∈ X.map (·.1) ++ Y.map (·.1), cmpS x.1 z < 0 := fun z hz => (List.mem_append.1 hz).elim (h1 z) (k z)
 unfold mrg
 rw [sortU_head (x := x.1) (M := X.map (·.1) ++ Y.map (·.1)) (fun z => by simp) hM, List.flatMap_cons]
 congr 1
 ·rw [show lookA (x :: X) x.1 = x.2 from if_pos rfl, lookA_none fun y hy e => ?_]
  exact cs_ne (k y.1 (List.mem_map.2 ⟨y, hy, rfl⟩)) e.symm
 ·exact flat_congr fun n hn => by rw [lookA_cons_ne (hM n (sortU_mem.1 hn))]
theorem mrg_right {y : At} {X Y : List At} (h : Asc ((y :: Y).map (·.1))) (k : ∀ z ∈ X.map (·.1), cmpS y.1 z < 0) : mrg X (y :: Y) = dif1 y.1 [] y.2 ++ mrg X Y := by
 obtain ⟨h1, _⟩ := asc_head h
 have hM : ∀ z ∈ X.map (·.1) ++ Y.map (·.1), cmpS y.1 z < 0 := fun z hz => (List.mem_append.1 hz).elim (k z) (h1 z)
 unfold mrg
 rw [sortU_head (x := y.1) (M := X.map (·.1) ++ Y.map (·.1)) (fun z => by simp; constructor <;> (intro h; rcases h with h | h | h <;> simp_all)) hM, List.flatMap_cons]
 congr 1
 ·rw [show lookA (y :: Y) y.1 = y.2 from if_pos rfl, lookA_none fun x hx e => ?_]
  exact cs_ne (k x.1 (List.mem_map.2 ⟨x, hx, rfl⟩)) e.symm
 ·exact flat_congr fun n hn => by rw [lookA_cons_ne (hM n (sortU_mem.1 hn))]
theorem mrg_both {x y : At} {X Y : List At} (h : Asc ((x :: X).map (·.1))) (k : Asc ((y :: Y).map (·.1))) (e : x.1 = y.1) : mrg (x :: X) (y :: Y) = dif1 y.1 x.2 y.2 ++ mrg X Y := by
 obtain ⟨h1, _⟩ := asc_head h
 obtain ⟨k1, _⟩ := asc_head k
 have hM : ∀ z ∈ X.map (·.1) ++ Y.map (·.1), cmpS y.1 z < 0 := fun z hz => (List.mem_append.1 hz).elim (fun q => e ▸ h1 z q) (k1 z)
 unfold mrg
 rw [sortU_head (x := y.1) (M := X.map (·.1) ++ Y.map (·.1)) (fun z => by
  simp only [List.map_cons, List.cons_append, List.mem_cons, List.mem_append, e]
  constructor
  ·rintro (h | h | h | h)
   ·exact .inl h
   ·exact .inr (.inl h)
   ·exact .inl h
   ·exact .inr (.inr h)
  ·rintro (h | h | h)
   ·exact .inl h
   ·exact .inr (.inl h)
   ·exact .inr (.inr (.inr h))) hM, List.flatMap_cons]
 congr 1
 ·rw [show lookA (x :: X) y.1 = x.2 from if_pos e, show lookA (y :: Y) y.1 = y.2 from if_pos rfl]
 ·exact flat_congr fun n hn => by rw [lookA_cons_ne (hM n (sortU_mem.1 hn)), lookA_cons_ne (by rw [e]; exact hM n (sortU_mem.1 hn))]
theorem dif1_gone (n : ByteArray) (v : List ByteArray) : dif1 n v [] = [⟨2, n, []⟩] := rfl
theorem minus_none {a : List ByteArray} : minusL a [] = a := by unfold minusL; exact List.filter_eq_self.2 fun _ _ => rfl
theorem dif1_new {n : ByteArray} {v : List ByteArray} (h : v.length ≠ 0) : dif1 n [] v = [⟨1, n, v⟩] := by
 unfold dif1
 rw [if_neg h, if_neg (by simp), if_neg (by simp [minusL]), minus_none, if_pos (by omega)]
theorem minus_all {a b : List ByteArray} (h : (minusL a b).length = a.length) : minusL b a = b := by
 have hs : minusL a b = a := (List.filter_sublist (l := a)).eq_of_length h
 unfold minusL
 refine List.filter_eq_self.2 fun v hv => ?_
 have hn : v ∉ a := fun hva => by
  have := List.filter_eq_self.1 hs v hva
  rw [memB_iff.2 hv] at this; cases this
 cases e : memB a v
 ·rfl
 ·exact absurd (memB_iff.1 e) hn
theorem dif1_repl {n : ByteArray} {a b : List ByteArray} (ha : a.length ≠ 0) (hb : b.length ≠ 0) (h : (minusL a b).length = a.length) : dif1 n a b = [⟨3, n, b⟩] := by
 unfold dif1
 rw [if_neg hb, if_pos ⟨by omega, h⟩, minus_all h]
theorem dif1_edit {n : ByteArray} {a b : List ByteArray} (hb : b.length ≠ 0) (h : (minusL a b).length ≠ a.length) :
  dif1 n a b = (if 0 < (minusL a b).length then [⟨2, n, minusL a b⟩] else []) ++ (if 0 < (minusL b a).length then [⟨1, n, minusL b a⟩] else []) := by
 unfold dif1
 rw [if_neg hb, if_neg (fun q => h q.2)]
 by_cases h1 : 0 < (minusL a b).length
 ·rw [if_pos h1, if_pos h1]
  by_cases h2 : (minusL b a).length = 0
  ·rw [if_pos h2, if_neg (by omega)]; rfl
  ·rw [if_neg h2, if_pos (by omega)]; rfl
 ·rw [if_neg h1, if_neg h1]
  by_cases h2 : 0 < (minusL b a).length
  ·rw [if_pos h2]; rfl
  ·rw [if_neg h2]; rfl
structure RvI (w wL : World) (v : Value) (T : List Mv) (W : World) : Prop where
 row : W.ownsRow wL.heap.size 102 3 v T.length (mcells T)
 own : MOwn W w.heap.size v T
 low : Below wL.heap.size wL W
theorem RvI.nil {w wL W : World} (h : Below wL.heap.size wL W) : RvI w wL (.slice none 0 0) [] W := ⟨World.ownsRow_nil _ _ _ _, (fun t ht => by cases ht), h⟩
theorem RvI.below {w wL W V : World} {v : Value} {T : List Mv} (h : RvI w wL v T W) (hb : Below W.heap.size W V) : RvI w wL v T V := ⟨own_below h.row hb, h.own.below hb, h.low.trans (hb.mono h.low.size)⟩
theorem RvI.dv {w wL W : World} {v : Value} {T : List Mv} (h : RvI w wL v T W) (hb : Below w.heap.size w wL) : DvI w v T W := ⟨row_lower h.row hb.size, h.own, hb.trans (h.low.mono hb.size)⟩
theorem RvI.push {w wL W w' : World} {v v' : Value} {T : List Mv} (h : RvI w wL v T W) {op : Int} {nm : ByteArray} {vs : List ByteArray} {hd : Value} (hh : W.ownsRow w.heap.size 9 1 hd vs.length (scells vs)) (hne : hd.ownBlock = none ∨ hd.ownBlock ≠ v.ownBlock) (o : Obj)
  (hown : w'.ownsRow wL.heap.size 102 3 v' (T.length + 1) (mcells T ++ [.int .i64 op, .string nm, hd])) (hg : (W.alloc o).grownBy w' v.ownBlock) (hl : v'.ownBlock = v.ownBlock ∨ ∃ g, v'.ownBlock = some g ∧ W.heap.size < g) : RvI w wL v' (T ++ [⟨⟨op, nm, vs⟩, hd⟩]) w' := by
 have hal := below_al W o
 have hl' : v'.ownBlock = v.ownBlock ∨ ∃ g, v'.ownBlock = some g ∧ (W.alloc o).heap.size ≤ g := hl.imp id fun ⟨g, e, q⟩ => ⟨g, e, by simp; omega⟩
 refine ⟨?_, ((h.own.below hal).grown hg hl').app fun t ht => ?_, (h.low.trans (hal.mono h.low.size)).grown hg (by have := h.low.size; simp; omega) (fun k hk => (h.row.lt k hk).1)⟩
 ·rw [List.length_append]
  unfold mcells
  rw [List.flatMap_append, List.flatMap_cons, List.flatMap_nil, List.append_nil]
  exact hown
 ·rw [List.mem_singleton.1 ht]
  refine ⟨(own_below hh hal).kept hg hne, ?_⟩
  show hd.ownBlock = none ∨ hd.ownBlock ≠ v'.ownBlock
  cases hk : hd.ownBlock with
  | none => exact .inl rfl
  | some k =>
   refine .inr fun e => ?_
   have hlt := (hh.lt k hk).2
   rcases hl with q | ⟨g, q, hq⟩
   ·rw [hk] at hne
    rcases hne with c | c
    ·cases c
    ·exact c (e.trans q)
   ·have := Option.some.inj (e.trans q); omega
theorem RvI.apart {w wL W : World} {v : Value} {T : List Mv} (h : RvI w wL v T W) {u : Value} {n base : Nat} {xs : List Value} {e : TypeId} {size : Nat} (k : wL.ownsRow base e size u n xs) : u.ownBlock = none ∨ u.ownBlock ≠ v.ownBlock := by
 cases hu : u.ownBlock with
 | none => exact .inl rfl
 | some g => exact .inr fun q => by have := (k.lt g hu).2; have := (h.row.lt g q.symm).1; omega
theorem memB_at {l : List ByteArray} {s : ByteArray} {i : Nat} (hi : i < l.length) (h : partAt l i = s) : memB l s = true := memB_iff.2 (h ▸ part_mem l i hi)
theorem memB_none {l : List ByteArray} {s : ByteArray} (h : ∀ j, j < l.length → partAt l j ≠ s) : memB l s = false := by
 cases e : memB l s with
 | false => rfl
 | true =>
  obtain ⟨j, hj, ej⟩ := List.mem_iff_getElem.1 (memB_iff.1 e)
  exact absurd (show partAt l j = s by unfold partAt; rw [List.getD_eq_getElem?_getD, List.getElem?_eq_getElem hj, ← ej]; rfl) (h j hj)
set_option maxHeartbeats 4000000 in
theorem has8_s (ao : Option Addr) (n cap : Nat) (vs : List ByteArray) (x : ByteArray) (w : World) (hs : StrsAt w ao n cap vs) (hn : n ≤ 1100000) :
  Calls Tryz.prog 158 #[.slice ao n cap, .string x] w fun e w' => e = .returned (.bool (memB vs x)) ∧ w' = w := by
 have HS := Lib.hid hs
 have HL := Lib.hid hs.1
 have hcap := hs.2.1
 have hmx := hs.2.2.1
 unfold maxLen at hmx
 clear hs
 go_enter Tryz.func158, Tryz.ntmps158
 go_wp2_with fail
 go_loopw [5] (fun s5 wr => ∃ (i : Nat), i ≤ n ∧ s5 = .int .i64 i ∧ wr = w ∧ Hid (∀ j, j < i → partAt vs j ≠ x)) (fun s5 _ => n - (intOf s5).toNat)
 case atStart => exact ⟨0, Nat.zero_le _, rfl, rfl, Lib.hid (fun j hj => absurd hj (Nat.not_lt_zero _))⟩
 case round =>
  obtain ⟨i, hi, rfl, rfl, HN⟩ := hrel
  by_cases hlt : i < n
  ·have d1 : (i : Int) < (n : Int) := by omega
   obtain ⟨g, off, rfl, hg, hc⟩ := HS.out.2.2.2 (by omega)
   have hcell := hc i (by rw [HL.out]; exact hlt)
   clear hc
   obtain ⟨p, hp⟩ : ∃ y, partAt vs i = y := ⟨_, rfl⟩
   have HP := Lib.hid hp
   rw [hp] at hcell
   clear hp
   by_cases e : p = x
   ·have q1 : (p.toList == x.toList) = true := by rw [str_eq]; exact decide_eq_true e
    have HM := Lib.hid (memB_at (by rw [HL.out]; exact hlt) (HP.out.trans e))
    clear e
    go_wp2_with fail
    go_ret
    first | (rw [HM.out]; exact ⟨rfl, rfl⟩) | simp [HM.out]
   ·have q1 : (p.toList == x.toList) = false := by rw [str_eq]; exact decide_eq_false e
    have HE := Lib.hid e
    clear e
    go_wp2_with fail
    go_roundw
    case rel => exact ⟨i + 1, by omega, by go_num, trivial, Lib.hid fun j hj => by
     by_cases ej : j = i
     ·rw [ej, HP.out]; exact HE.out
     ·exact HN.out j (by omega)⟩
    case measure => simp [intOf]; omega
  ·obtain rfl : i = n := by omega
   have d1 : ¬ (i : Int) < (i : Int) := by omega
   go_wp2_with fail
   go_ret
   have hf := memB_none (l := vs) (s := x) (by rw [HL.out]; exact HN.out)
   first | (rw [hf]; exact ⟨rfl, rfl⟩) | simp [hf]
set_option maxHeartbeats 4000000 in
theorem minus8_s (ao bo : Option Addr) (n m cap dap : Nat) (a b : List ByteArray) (w : World) (h : StrsAt w ao n cap a) (k : StrsAt w bo m dap b) (hn : n ≤ 1100000) (hm : m ≤ 1100000) :
  Calls Tryz.prog 94 #[.slice ao n cap, .slice bo m dap] w fun e w' => ∃ v, e = .returned v ∧ w'.ownsRow w.heap.size 9 1 v (minusL a b).length (scells (minusL a b)) ∧ Below w.heap.size w w' := by
 have HA := Lib.hid h
 have HK := Lib.hid k
 have HL := Lib.hid h.1
 have hcap := h.2.1
 have hmx := h.2.2.1
 unfold maxLen at hmx
 clear h k
 go_enter Tryz.func94, Tryz.ntmps94
 go_wp2_with fail
 go_loopw [5, 6] (fun s5 s6 wr => ∃ (i : Nat), i ≤ n ∧ s6 = .int .i64 i ∧ wr.ownsRow w.heap.size 9 1 s5 (minusL (a.take i) b).length (scells (minusL (a.take i) b)) ∧ Hid (Below w.heap.size w wr)) (fun _ s6 _ => n - (intOf s6).toNat)
 case atStart => exact ⟨0, Nat.zero_le _, rfl, World.ownsRow_nil _ _ _ _, Lib.hid (Below.refl _ _)⟩
 case round =>
  obtain ⟨i, hi, rfl, hown, HB⟩ := hrel
  by_cases hlt : i < n
  ·have d1 : (i : Int) < (n : Int) := by omega
   obtain ⟨g, off, rfl, hg, hc⟩ := (HA.out.below HB.out).2.2.2 (by omega)
   have hcell := hc i (by rw [HL.out]; exact hlt)
   clear hc
   have HT := Lib.hid (minus_take a b i (by rw [HL.out]; exact hlt))
   obtain ⟨p, hp⟩ : ∃ x, partAt a i = x := ⟨_, rfl⟩
   rw [hp] at hcell HT
   clear hp
   have HC := Lib.hid (has8_s bo m dap b p wr (HK.out.below HB.out) hm)
   obtain ⟨z, hz⟩ : ∃ z, memB b p = z := ⟨_, rfl⟩
   rw [hz] at HC HT
   clear hz
   have hql : (minusL (a.take i) b).length ≤ 1100000 := by have := minus_len (a.take i) b; rw [List.length_take] at this; omega
   have hsz := HB.out.size
   go_wp2_with fail
   refine HC.out.mono ?_
   rintro e w1 ⟨rfl, rfl⟩
   cases z
   ·go_wp2_with (at_builtin; go_must (refine push_str w1 hown (.tmp 20) (.tmp 25) p ?_ ?_ ?_ ?_ ?_ ?_ ?_; exact rfl; exact rfl; exact rfl; exact rfl; omega; exact hsz; intro v3 w3 hown3 hb3))
    go_roundw
    case rel => exact ⟨i + 1, by omega, by go_num, by rw [HT.out, if_neg (by decide), List.length_append]; simpa [scells] using hown3, Lib.hid (HB.out.trans hb3)⟩
    case measure => simp [intOf]; omega
   ·go_wp2_with fail
    go_roundw
    case rel => exact ⟨i + 1, by omega, by go_num, by rw [HT.out]; simpa using hown, HB⟩
    case measure => simp [intOf]; omega
  ·obtain rfl : i = n := by omega
   have d1 : ¬ (i : Int) < (i : Int) := by omega
   rw [show a.take i = a by rw [← HL.out]; exact List.take_length] at hown
   go_wp2_with fail
   go_ret
   exact ⟨_, rfl, hown, HB.out⟩
structure SoA (base : Nat) (u : Value) (T : List Tr) (X : List At) (W : World) : Prop where
 row : W.ownsRow base 58 2 u T.length (tcells T)
 own : TOwn W base u T
 is : tats T = X
theorem SoA.below {base : Nat} {u : Value} {T : List Tr} {X : List At} {W V : World} (h : SoA base u T X W) (hb : Below W.heap.size W V) : SoA base u T X V := ⟨own_below h.row hb, h.own.below hb, h.is⟩
theorem SoA.at {base : Nat} {ao : Option Addr} {n cap i : Nat} {T : List Tr} {X : List At} {W : World} (h : SoA base (.slice ao n cap) T X W) (hX : X.length = n) (hi : i < n) :
  ∃ g vo vc, ao = some ⟨g, 0, none⟩ ∧ W.cell? ⟨g, i * 2, none⟩ = some (.string (atD X i).1) ∧ W.cell? ⟨g, i * 2 + 1, none⟩ = some (.slice vo (atD X i).2.length vc) ∧ StrsAt W vo (atD X i).2.length vc (atD X i).2 ∧
   W.ownsRow base 9 1 (.slice vo (atD X i).2.length vc) (atD X i).2.length (scells (atD X i).2) := by
 have hT : T.length = n := by rw [← hX, ← h.is, tats_len]
 have hiU : i < T.length := by rw [hT]; exact hi
 obtain ⟨g, rfl⟩ : ∃ g, ao = some ⟨g, 0, none⟩ := by
  have hr := h.row
  rcases hr.2 with ⟨e, _⟩ | ⟨g, cp, cur, e, _⟩
  ·simp only [Value.slice.injEq] at e
   omega
  ·simp only [Value.slice.injEq] at e
   exact ⟨g, e.1⟩
 obtain ⟨s1, s2⟩ : (T.getD i default).1 = (atD X i).1 ∧ (T.getD i default).2.2 = (atD X i).2 := by
  have := tats_at hiU; rw [h.is] at this; rw [this]; exact ⟨rfl, rfl⟩
 have hmem : T.getD i default ∈ T := by
  rw [List.getD_eq_getElem?_getD, List.getElem?_eq_getElem hiU]; exact List.getElem_mem _
 obtain ⟨vo, vc, e, hst⟩ := strs_own (h.own _ hmem).1 rfl
 obtain ⟨t1, t2⟩ := etc_at hiU
 have c1 := h.row.cells (g := g) rfl _ _ t1
 have c2 := h.row.cells (g := g) rfl _ _ t2
 rw [Go.WideShapes.add_plain, Nat.zero_add] at c1 c2
 have hr := (h.own _ hmem).1
 rw [s1] at c1
 rw [e] at c2 hr
 rw [s2] at c2 hst hr
 exact ⟨g, vo, vc, rfl, c1, c2, hst, hr⟩
end Go.Proofs.YtmmdaegdkikkpaaGreatDoor
end
