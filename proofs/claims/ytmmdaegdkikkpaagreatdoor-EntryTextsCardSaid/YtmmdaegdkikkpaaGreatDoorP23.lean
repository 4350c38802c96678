/-
  Texts of the schema layer and of those beneath it, joined: CodecUn, CodecP, SchPc, EntPp, EntSo, SchTwR, SchTxR, EntTxR. Conditions stand at each contract.
-/
import Derived.Test.YtmmdaegdkikkpaaGreatDoorP19
set_option linter.unusedVariables false
set_option linter.unusedSimpArgs false
set_option linter.unnecessarySimpa false

section
set_option maxRecDepth 100000
namespace Go.Proofs.YtmmdaegdkikkpaaGreatDoor
open Go.RowKit Go.PlainAid
theorem hex_index (x : Int) (c : UInt8) (w : World) (hx : x = (c.toNat : Int)) :
  Calls Tryz.prog 282 #[.string ⟨#[48, 49, 50, 51, 52, 53, 54, 55, 56, 57, 65, 66, 67, 68, 69, 70]⟩, .int .u8 x] w fun e w' => e = .returned (.int .i64 (hexV c)) ∧ w = w' := by
 refine (Tryz.strings_IndexByte ⟨#[48, 49, 50, 51, 52, 53, 54, 55, 56, 57, 65, 66, 67, 68, 69, 70]⟩ x w).mono fun e w' h => ⟨?_, h.2.symm⟩
 rw [h.1]
 have e1 : x.toNat.toUInt8 = c := by subst hx; simp
 rw [e1]; rfl
theorem or_table : ∀ a : Nat, a < 16 → ∀ b : Nat, b < 16 → bits BinOp.or IntKind.i64 ((a : Int) * 16) (b : Int) % 256 = 16 * (a : Int) + (b : Int) := by decide +kernel
theorem or_hex (a b : Int) (a0 : 0 ≤ a) (a1 : a ≤ 15) (b0 : 0 ≤ b) (b1 : b ≤ 15) : bits BinOp.or IntKind.i64 (a * 16) b % 256 = 16 * a + b := by
 have := or_table a.toNat (by omega) b.toNat (by omega)
 rw [Int.toNat_of_nonneg a0, Int.toNat_of_nonneg b0] at this
 exact this
def escVal (o : Option UInt8) : Int := match o with
 | some d => (d.toNat : Int)
 | none => 0
set_option maxRecDepth 100000 in
set_option maxHeartbeats 2000000 in
theorem escaped_s (t : ByteArray) (w : World) (ht : t.size ≤ 1000000000) :
  Calls Tryz.prog 267 #[.string t] w fun e w' => e = .returned (.tuple #[.int .u8 (escVal (escO t)), .bool (escO t).isSome]) ∧ w = w' := by
 have hb := get_bt t
 by_cases h2 : t.size < 2
 ·have HE := Lib.hid (show escO t = none by unfold escO; rw [if_pos h2])
  go_enter Tryz.func267, Tryz.ntmps267
  go_wp2
  go_ret2
  exact ⟨by rw [HE.out]; rfl, rfl⟩
 ·have HE := Lib.hid (show escO t = decC (chr t 0) (chr t 1) by unfold escO; rw [if_neg h2])
  have r0 := hexV_le (chr t 0)
  have r1 := hexV_le (chr t 1)
  have H0 := Lib.hid (bt_chr t 0)
  have H1 := Lib.hid (bt_chr t 1)
  go_enter Tryz.func267, Tryz.ntmps267
  go_wp2_with fail
  refine (hex_index _ (chr t 0) _ H0.out).mono ?_
  rintro e w' ⟨rfl, rfl⟩
  go_wp2_with fail
  refine (hex_index _ (chr t 1) _ H1.out).mono ?_
  rintro e w' ⟨rfl, rfl⟩
  obtain ⟨v0, hv0⟩ : ∃ v, v = hexV (chr t 0) := ⟨_, rfl⟩
  obtain ⟨v1, hv1⟩ : ∃ v, v = hexV (chr t 1) := ⟨_, rfl⟩
  rw [← hv0] at r0 ⊢
  rw [← hv1] at r1 ⊢
  have HV0 := Lib.hid hv0; have HV1 := Lib.hid hv1; clear hv0 hv1
  by_cases n0 : v0 < 0
  ·have HF := Lib.hid (show escO t = none by rw [HE.out]; unfold decC; rw [if_pos (.inl (by rw [← HV0.out]; exact n0))])
   go_wp2
   go_ret2
   exact ⟨by rw [HF.out]; rfl, rfl⟩
  ·by_cases n1 : v1 < 0
   ·have HF := Lib.hid (show escO t = none by rw [HE.out]; unfold decC; rw [if_pos (.inr (by rw [← HV1.out]; exact n1))])
    go_wp2
    go_ret2
    exact ⟨by rw [HF.out]; rfl, rfl⟩
   ·go_wp2_with fail
    have hor := or_hex v0 v1 (by omega) r0.2 (by omega) r1.2
    rw [hor]
    obtain ⟨x, hxe⟩ : ∃ x, x = 16 * v0 + v1 := ⟨_, rfl⟩
    have hx0 : 0 ≤ x ∧ x ≤ 255 := by omega
    rw [← hxe]
    have HX := Lib.hid hxe; clear hxe hor
    have HD := Lib.hid (show escO t = if plainI x then none else some (UInt8.ofNat x.toNat) by
     rw [HE.out]; unfold decC; rw [if_neg (by rw [← HV0.out, ← HV1.out]; omega), ← HV0.out, ← HV1.out, ← HX.out])
    cases c : plainI x
    ·have HF := Lib.hid (show escO t = some (UInt8.ofNat x.toNat) by rw [HD.out, c]; rfl)
     have HN := Lib.hid (show x = ((UInt8.ofNat x.toNat).toNat : Int) by rw [UInt8.toNat_ofNat']; omega)
     go_wp2_with (go_at_call 229; refine (plain_any _ _ hx0.1 hx0.2).mono ?_; rintro e w' ⟨rfl, rfl⟩)
     go_ret2
     refine ⟨?_, rfl⟩
     rw [HF.out]
     show Ending.returned (.tuple #[.int .u8 x, .bool true]) = Ending.returned (.tuple #[.int .u8 ((UInt8.ofNat x.toNat).toNat : Int), .bool true])
     rw [← HN.out]
    ·have HF := Lib.hid (show escO t = none by rw [HD.out, c]; rfl)
     go_wp2_with (go_at_call 229; refine (plain_any _ _ hx0.1 hx0.2).mono ?_; rintro e w' ⟨rfl, rfl⟩)
     go_ret2
     exact ⟨by rw [HF.out]; rfl, rfl⟩
/-! ### escaped strings, lines -/
theorem ofL_data (s : ByteArray) : ofL s.data.toList = s := Lib.mk_data s
theorem enC_chk {en : ByteArray} {l : List At} (h : enC en l = 0) : chkA l = 0 := by
 unfold enC at h
 split at h
 ·cases h
 ·exact h
/-! ### what Parse returns -/
/-! ### sizes -/
structure SoA (base : Nat) (u : Value) (T : List Tr) (X : List At) (W : World) : Prop where
 row : W.ownsRow base 58 2 u T.length (tcells T)
 own : TOwn W base u T
 is : tats T = X
theorem SoA.below {base : Nat} {u : Value} {T : List Tr} {X : List At} {W V : World} (h : SoA base u T X W) (hb : Below W.heap.size W V) : SoA base u T X V := ⟨own_below h.row hb, h.own.below hb, h.is⟩
theorem SoA.at {base : Nat} {ao : Option Addr} {n cap i : Nat} {T : List Tr} {X : List At} {W : World} (h : SoA base (.slice ao n cap) T X W) (hX : X.length = n) (hi : i < n) :
  ∃ g vo vc, ao = some ⟨g, 0, none⟩ ∧ W.cell? ⟨g, i * 2, none⟩ = some (.string (atD X i).1) ∧ W.cell? ⟨g, i * 2 + 1, none⟩ = some (.slice vo (atD X i).2.length vc) ∧ StrsAt W vo (atD X i).2.length vc (atD X i).2 ∧
   W.ownsRow base 9 1 (.slice vo (atD X i).2.length vc) (atD X i).2.length (scells (atD X i).2) := by
 have hT : T.length = n := by rw [← hX, ← h.is, tats_len]
 have hiU : i < T.length := by rw [hT]; exact hi
 obtain ⟨g, rfl⟩ : ∃ g, ao = some ⟨g, 0, none⟩ := by
  have hr := h.row
  rcases hr.2 with ⟨e, _⟩ | ⟨g, cp, cur, e, _⟩
  ·simp only [Value.slice.injEq] at e
   omega
  ·simp only [Value.slice.injEq] at e
   exact ⟨g, e.1⟩
 obtain ⟨s1, s2⟩ : (T.getD i default).1 = (atD X i).1 ∧ (T.getD i default).2.2 = (atD X i).2 := by
  have := tats_at hiU; rw [h.is] at this; rw [this]; exact ⟨rfl, rfl⟩
 have hmem : T.getD i default ∈ T := by
  rw [List.getD_eq_getElem?_getD, List.getElem?_eq_getElem hiU]; exact List.getElem_mem _
 obtain ⟨vo, vc, e, hst⟩ := strs_own (h.own _ hmem).1 rfl
 obtain ⟨t1, t2⟩ := etc_at hiU
 have c1 := h.row.cells (g := g) rfl _ _ t1
 have c2 := h.row.cells (g := g) rfl _ _ t2
 rw [Go.WideShapes.add_plain, Nat.zero_add] at c1 c2
 have hr := (h.own _ hmem).1
 rw [s1] at c1
 rw [e] at c2 hr
 rw [s2] at c2 hst hr
 exact ⟨g, vo, vc, rfl, c1, c2, hst, hr⟩
theorem app_list (a b : ByteArray) : (a ++ b).data.toList = a.data.toList ++ b.data.toList := by rw [ByteArray.data_append]; simp
theorem ln_add (o nm s es : ByteArray) (h : es.data.toList = escL s.data.toList) : (o ++ nm ++ ⟨#[32]⟩ ++ es ++ ⟨#[10]⟩).data.toList = o.data.toList ++ lineB nm s := by
 simp [app_list, h, lineB]
theorem ln_ent (s es : ByteArray) (h : es.data.toList = escL s.data.toList) : ((⟨#[101, 110, 116, 114, 121, 32]⟩ : ByteArray) ++ es ++ ⟨#[10]⟩).data.toList = lineB entW s := by
 simp [app_list, h, lineB, entW]
set_option maxHeartbeats 16000000 in
theorem rtext_s (en : ByteArray) (ao : Option Addr) (n cap : Nat) (l : List At) (w : World) (hen : en.size ≤ 1100000) (ha : AttrsAt w ao n cap l) (hS : SmallA l) :
  Calls Tryz.prog 37 #[.agg #[.string en, .slice ao n cap]] w fun e w' => e = .returned (.tuple #[.string (txV en l), .int .i64 (enC en l)]) ∧ Below w.heap.size w w' := by
 have HA := Lib.hid ha; clear ha
 have hb0 := below_al w (.cells #[.string en, .slice ao n cap] 37)
 have HK := Lib.hid (kbl_new w (.cells #[.string en, .slice ao n cap] 37))
 have HCk := Lib.hid (rEnCheck_s en ao n cap l _ hen (HA.out.below hb0) hS)
 have HB0 := Lib.hid hb0
 obtain ⟨c, hc⟩ : ∃ c, enC en l = c := ⟨_, rfl⟩
 rw [hc] at HCk ⊢
 have HC := Lib.hid hc
 obtain ⟨e0, e1⟩ : (w.alloc (.cells #[.string en, .slice ao n cap] 37)).cell? ⟨w.heap.size, 0, none⟩ = some (.string en) ∧ (w.alloc (.cells #[.string en, .slice ao n cap] 37)).cell? ⟨w.heap.size, 1, none⟩ = some (.slice ao n cap) := ⟨HK.out.cell rfl, HK.out.cell rfl⟩
 clear hb0 hc
 go_enter Tryz.func37, Tryz.ntmps37
 go_wp2_with fail
 refine HCk.out.mono ?_
 rintro e w1 ⟨rfl, hb⟩
 have HB1 := Lib.hid (HB0.out.trans (hb.mono HB0.out.size))
 have HK1 := Lib.hid (HK.out.step hb)
 clear hb e0 e1 HCk HB0
 by_cases h0 : c = 0
 ·subst h0
  have HLt := Lib.hid (enC_chk HC.out)
  have HLi := Lib.hid (chk_light HLt.out)
  have HAl := Lib.hid (chk_light (nf_chk HLt.out))
  have hn40 : n ≤ 40 := by have h := HLi.out.len; rw [HA.out.1] at h; exact h
  obtain ⟨e0, e1⟩ : w1.cell? ⟨w.heap.size, 0, none⟩ = some (.string en) ∧ w1.cell? ⟨w.heap.size, 1, none⟩ = some (.slice ao n cap) := ⟨HK1.out.cell rfl, HK1.out.cell rfl⟩
  have HE := Lib.hid (rescape_any en w1 (by omega))
  have hl := escL_length en.data.toList
  rw [str_len] at hl
  obtain ⟨es, hes⟩ : ∃ es : ByteArray, (⟨(escL en.data.toList).toArray⟩ : ByteArray) = es := ⟨_, rfl⟩
  have hsz : es.size ≤ 3400000 := by rw [← hes, Lib.size_mk]; omega
  rw [hes] at HE
  have HS0 := Lib.hid (ln_ent en es (by rw [← hes]))
  clear hes hl
  go_wp2_with fail
  refine HE.out.mono ?_
  rintro e w2 ⟨rfl, hb⟩
  have HB2 := Lib.hid (HB1.out.trans (hb.mono HB1.out.size))
  have HK2 := Lib.hid (HK1.out.step hb)
  clear hb e0 e1 HE HB1
  obtain ⟨e0, e1⟩ : w2.cell? ⟨w.heap.size, 0, none⟩ = some (.string en) ∧ w2.cell? ⟨w.heap.size, 1, none⟩ = some (.slice ao n cap) := ⟨HK2.out.cell rfl, HK2.out.cell rfl⟩
  have HSo := Lib.hid (rsorted_s ao n cap l w2 (HA.out.below HB2.out) HLi.out.small HLi.out.few.vals (by omega))
  obtain ⟨o1, ho1⟩ : ∃ x : ByteArray, (⟨#[101, 110, 116, 114, 121, 32]⟩ : ByteArray) ++ es ++ ⟨#[10]⟩ = x := ⟨_, rfl⟩
  go_wp2_with fail
  rw [ho1] at HS0
  clear ho1
  refine HSo.out.mono ?_
  rintro e w3 ⟨v5, T5, rfl, hT5, hO5, hR5, hb5⟩
  obtain ⟨xo, xc, rfl⟩ := row_slice hR5
  have HX := Lib.hid (show SoA w.heap.size (.slice xo T5.length xc) T5 (nf l) w3 from ⟨row_lower hR5 HB2.out.size, hO5.mono HB2.out.size, hT5⟩)
  have HB3 := Lib.hid (HB2.out.trans (hb5.mono HB2.out.size))
  have hXl : T5.length = (nf l).length := by rw [← hT5, tats_len]
  obtain ⟨m, hm⟩ : ∃ x, (nf l).length = x := ⟨_, rfl⟩
  rw [hXl, hm] at HX ⊢
  have HM := Lib.hid hm
  have hm40 : m ≤ 40 := by rw [← hm]; exact HAl.out.len
  have HQ0 := Lib.hid (show ∀ j, (lineB entW en ++ attsB ((nf l).take j)).length ≤ 5100000 from fun j => by
   have h1 := attsB_le (L := (nf l).take j) (fun a h => HAl.out.each a (List.mem_of_mem_take h))
   have h2 := lineB_le entW en
   have h3 : entW.size = 5 := by decide
   have h4 : ((nf l).take j).length ≤ 40 := by rw [List.length_take, HM.out]; omega
   rw [List.length_append]; omega)
  clear hm hXl hT5 hO5 hR5 hb5 e0 e1 HSo HK2 HK1 HK
  go_wp2_with fail
  go_loopw [5, 7, 8] (fun so i s8 wr => ∃ (j : Nat) (o : ByteArray), j ≤ m ∧ i = .int .i64 j ∧ so = .string o ∧ Hid (o.data.toList = lineB entW en ++ attsB ((nf l).take j)) ∧ Hid (SoA w.heap.size (.slice xo m xc) T5 (nf l) wr) ∧ Hid (Below w.heap.size w wr)) (fun _ i _ _ => m - (intOf i).toNat)
  case atStart => exact ⟨0, o1, Nat.zero_le _, rfl, rfl, Lib.hid (by rw [HS0.out]; simp [attsB]), HX, HB3⟩
  case round =>
   clear HX HB3 HB2
   obtain ⟨j, o, hj, rfl, rfl, HO, HX, HB⟩ := hrel
   by_cases hlt : j < m
   ·have d1 : decide ((j : Int) < (m : Int)) = true := decide_eq_true (by omega)
    have d0 : (0 : Int) ≤ (j : Int) := by omega
    have d3 : (j : Int) < (m : Int) := by omega
    have hjl : j < (nf l).length := by rw [HM.out]; exact hlt
    obtain ⟨g, vo, vc, rfl, c0, c1, hst, _⟩ := HX.out.at HM.out hlt
    have HAt := Lib.hid (HAl.out.each (atD (nf l) j) (at_mem (nf l) j hjl))
    have HTk := Lib.hid (attsB_take (nf l) j hjl)
    have hq := HQ0.out j
    have HAa := Lib.hid (show ∀ W, SoA w.heap.size (.slice (some ⟨g, 0, none⟩) m xc) T5 (nf l) W → W.cell? ⟨g, j * 2, none⟩ = some (.string (atD (nf l) j).1) ∧ ∃ uo uc, W.cell? ⟨g, j * 2 + 1, none⟩ = some (.slice uo (atD (nf l) j).2.length uc) ∧ StrsAt W uo (atD (nf l) j).2.length uc (atD (nf l) j).2 from fun W h => by
     obtain ⟨g', vo', vc', e', k0, k1, kst, _⟩ := h.at HM.out hlt
     injection e' with e'
     injection e' with e1 e2
     subst e1
     exact ⟨k0, vo', vc', k1, kst⟩)
    obtain ⟨A, hA⟩ : ∃ x, atD (nf l) j = x := ⟨_, rfl⟩
    rw [hA] at c0 c1 hst HAt HTk HAa
    clear hA
    obtain ⟨nm, vs⟩ := A
    simp only at c0 c1 hst HAt HTk HAa
    have hA1 : nm.size ≤ 300 := HAt.out.nm
    have hA2 : vs.length ≤ 20 := HAt.out.len
    have HA3 := Lib.hid (show ∀ v ∈ vs, v.size ≤ 300 from HAt.out.each)
    obtain ⟨pre, hpr⟩ : ∃ x, lineB entW en ++ attsB ((nf l).take j) = x := ⟨_, rfl⟩
    rw [hpr] at HO hq
    have HTk := Lib.hid (show lineB entW en ++ attsB ((nf l).take (j + 1)) = pre ++ valsB nm vs by rw [HTk.out, ← List.append_assoc, hpr])
    obtain ⟨vn, hvn⟩ : ∃ x, vs.length = x := ⟨_, rfl⟩
    rw [hvn] at c1 hst hA2 HAa
    have HVn := Lib.hid hvn
    clear hpr hvn HAt hst hjl
    go_wp2_with fail
    clear c0 c1
    go_loopw [5, 8] (fun so s8 wx => ∃ (k : Nat) (o : ByteArray), k ≤ vn ∧ s8 = .int .i64 k ∧ so = .string o ∧ Hid (o.data.toList = pre ++ valsB nm (vs.take k)) ∧ Hid (SoA w.heap.size (.slice (some ⟨g, 0, none⟩) m xc) T5 (nf l) wx) ∧ Hid (Below w.heap.size w wx)) (fun _ s8 _ => vn - (intOf s8).toNat)
    case atStart => exact ⟨0, o, Nat.zero_le _, rfl, rfl, Lib.hid (by rw [HO.out]; simp [valsB]), HX, HB⟩
    case round =>
     clear HX HB HO
     obtain ⟨k, o, hk, rfl, rfl, HO, HX, HB⟩ := hrel
     obtain ⟨c0, uo, uc, c1, hst⟩ := HAa.out _ HX.out
     by_cases hkl : k < vn
     ·have f1 : decide ((k : Int) < (vn : Int)) = true := decide_eq_true (by omega)
      have f0 : (0 : Int) ≤ (k : Int) := by omega
      have f3 : (k : Int) < (vn : Int) := by omega
      obtain ⟨vb, voff, rfl, hvb, hvs⟩ := hst.2.2.2 (by omega)
      have hcell := hvs k (by rw [HVn.out]; exact hkl)
      clear hvs
      have hvz := HA3.out _ (part_mem vs k (by rw [HVn.out]; exact hkl))
      have HTv := Lib.hid (valsB_take nm vs k (by rw [HVn.out]; exact hkl))
      have hpv := valsB_le hA1 (vs := vs.take k) (fun x h => HA3.out x (List.mem_of_mem_take h))
      rw [List.length_take] at hpv
      have hosz : o.size ≤ 5200000 := by
       rw [Lib.size_eq, HO.out, List.length_append]
       have : min k vs.length ≤ 20 := by omega
       omega
      obtain ⟨s, hs⟩ : ∃ x, partAt vs k = x := ⟨_, rfl⟩
      rw [hs] at hcell hvz HTv
      clear hs hpv
      have HE := Lib.hid (fun V => rescape_any s V (by omega))
      have hl := escL_length s.data.toList
      rw [str_len] at hl
      obtain ⟨es, hes⟩ : ∃ es : ByteArray, (⟨(escL s.data.toList).toArray⟩ : ByteArray) = es := ⟨_, rfl⟩
      have hesz : es.size ≤ 900 := by rw [← hes, Lib.size_mk]; omega
      rw [hes] at HE
      have HLn := Lib.hid (ln_add o nm s es (by rw [← hes]))
      clear hes hl
      have HSt := Lib.hid (show ∀ V X : World, SoA w.heap.size (.slice (some ⟨g, 0, none⟩) m xc) T5 (nf l) V → Below w.heap.size w V → V.cell? ⟨g, j * 2, none⟩ = some (.string nm) → V.cell? ⟨g, j * 2 + 1, none⟩ = some (.slice (some ⟨vb, voff, none⟩) vn uc) → V.cell? ⟨vb, voff + k, none⟩ = some (.string s) → Below V.heap.size V X → (fun V => V.cell? ⟨g, j * 2, none⟩ = some (.string nm) ∧ V.cell? ⟨g, j * 2 + 1, none⟩ = some (.slice (some ⟨vb, voff, none⟩) vn uc) ∧ V.cell? ⟨vb, voff + k, none⟩ = some (.string s) ∧ Hid (SoA w.heap.size (.slice (some ⟨g, 0, none⟩) m xc) T5 (nf l) V ∧ Below w.heap.size w V)) X from
       fun V X h1 h2 h3 h4 h5 hb => ⟨cell_later hb h3, cell_later hb h4, cell_later hb h5, Lib.hid ⟨h1.below hb, h2.trans (hb.mono h2.size)⟩⟩)
      have zq0 : ¬ 9223372036854775807 < o.size + nm.size := by omega
      have zq1 : ¬ 9223372036854775807 < o.size + nm.size + 1 := by omega
      have zq2 : ¬ 9223372036854775807 < o.size + nm.size + 1 + es.size := by omega
      have zq3 : ¬ 9223372036854775807 < o.size + nm.size + 1 + es.size + 1 := by omega
      go_wp2_with fail
      have S0 := HSt.out wr _ HX.out HB.out c0 c1 hcell (Below.refl _ _).drew
      clear c0 c1 hcell HX HB hst
      refine wp_region_held_drew (S := fun V => V.cell? ⟨g, j * 2, none⟩ = some (.string nm) ∧ V.cell? ⟨g, j * 2 + 1, none⟩ = some (.slice (some ⟨vb, voff, none⟩) vn uc) ∧ V.cell? ⟨vb, voff + k, none⟩ = some (.string s) ∧ Hid (SoA w.heap.size (.slice (some ⟨g, 0, none⟩) m xc) T5 (nf l) V ∧ Below w.heap.size w V)) (by kernel_rfl) (S0) (fun hS => ?_)
      refine rgT 0 (some 38) ?_
      refine rgT 1 (some 39) ?_
      refine rgT 2 (some 40) ?_
      refine rgT 3 (some 41) ?_
      refine rgT 4 (some 42) ?_
      refine rgT 5 (some 43) ?_
      refine rgT 6 (some 44) ?_
      refine rgT 7 (some 45) ?_
      refine rgT 8 (some 46) ?_
      refine rgT 9 (some 47) ?_
      refine rgT 10 (some 48) ?_
      refine rgT 11 (some 49) ?_
      refine rgT 12 (some 50) ?_
      refine rgT 13 (some 51) ?_
      refine rgT 14 (some 52) ?_
      refine rgT 15 (some 53) ?_
      refine rgC 16 (fun K hK => ?_)
      go_simp
      refine (HE.out _).mono ?_
      rintro e w5 ⟨rfl, hb⟩
      go_wp2_with fail
      refine hK.out _ _ ?_ (fun hHeld => ?_)
      ·exact HSt.out _ _ hS.2.2.2.out.1 hS.2.2.2.out.2 hS.1 hS.2.1 hS.2.2.1 hb
      clear hK K
      try simp only [Act.put, lsA, lsZ, lsS]
      refine rgT 17 (some 55) ?_
      refine rgT 18 (some 56) ?_
      refine rgT 19 (some 5) ?_
      refine wpAnyH_done (by kernel_rfl) ?_ _
      obtain ⟨y0, y1, y2, HKy⟩ := hHeld
      go_wp2_with fail
      go_roundw
      case rel => exact ⟨k + 1, _, by omega, by go_num, rfl, Lib.hid (by rw [HTv.out, HLn.out, HO.out, List.append_assoc]), Lib.hid HKy.out.1, Lib.hid HKy.out.2⟩
      case measure => simp [intOf]; omega
     ·obtain rfl : vn = k := by omega
      have f1 : decide ((vn : Int) < (vn : Int)) = false := decide_eq_false (by omega)
      have HO2 := Lib.hid (show o.data.toList = lineB entW en ++ attsB ((nf l).take (j + 1)) by
       have h := HO.out
       rw [show vs.take vn = vs by rw [← HVn.out]; exact List.take_length] at h
       rw [HTk.out]; exact h)
      go_wp2_with fail
      go_roundw
      case rel => exact ⟨j + 1, o, by omega, by go_num, rfl, HO2, HX, HB⟩
      case measure => simp [intOf]; omega
   ·obtain rfl : m = j := by omega
    have d1 : decide ((m : Int) < (m : Int)) = false := decide_eq_false (by omega)
    have HTv := Lib.hid (show txV en l = o from by
     have h := HO.out
     rw [show (nf l).take m = nf l by rw [← HM.out]; exact List.take_length] at h
     unfold txV
     rw [if_pos HC.out]
     exact (congrArg ofL (show entB en l = o.data.toList from h.symm)).trans (ofL_data o))
    go_wp2_with fail
    go_ret2
    exact ⟨by rw [HTv.out]; rfl, HB.out⟩
 ·have d1 : (c != 0) = true := by simpa using h0
  have HE := Lib.hid (show txV en l = ⟨#[]⟩ from if_neg (by rw [HC.out]; exact h0))
  go_wp2_with fail
  go_ret2
  exact ⟨by rw [HE.out]; rfl, HB1.out⟩
end Go.Proofs.YtmmdaegdkikkpaaGreatDoor
end
