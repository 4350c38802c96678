/-
  Contracts of the search for a code, Verify and VerifyAt on both sides. Condition: strings of at most 1000000 bytes.
-/
import Derived.Test.YtmkcojgdhdmnnaaDoorOtpB
set_option maxRecDepth 100000
set_option linter.unusedVariables false
set_option linter.unusedSimpArgs false
set_option linter.unnecessarySimpa false
namespace Go.Proofs.YtmkcojgdhdmnnaaDoor
open Go.RowKit Go.PlainAid

def strO (s : ByteArray) : Obj := .cells #[.string s] 9
/-- what find keeps: the two boxes that its closure reads -/
structure FnI (w : World) (s code : ByteArray) (V : World) : Prop where
  low : Below w.heap.size w V
  k1 : KbC V w.heap.size (strO s)
  k2 : KbC V (w.heap.size + 1) (strO code)
theorem FnI.step {w V X : World} {s code : ByteArray} (h : FnI w s code V) (hb : Below V.heap.size V X) : FnI w s code X :=
  ⟨h.low.trans (hb.mono h.low.size), h.k1.step hb, h.k2.step hb⟩
theorem fnI_new (w : World) (s code : ByteArray) : FnI w s code ((w.alloc (strO s)).alloc (strO code)) := by
  refine ⟨(box_below w (strO s)).trans ((box_below _ (strO code)).mono (box_below w (strO s)).size), (kbc_new w (strO s)).step (box_below _ _), ?_⟩
  have := kbc_new (w.alloc (strO s)) (strO code)
  rw [World.size_alloc] at this
  exact this
theorem findC_hit {s code : ByteArray} {c m : Int} {R : Option Int} (h : findC s code c (m + 1 - c).toNat = R) (hc : c ≤ m) (he : codeS s c = code) : R = some c := by
  rw [← h, show (m + 1 - c).toNat = (m - c).toNat + 1 by omega]
  unfold findC
  rw [if_pos he]
theorem findC_miss {s code : ByteArray} {c m : Int} {R : Option Int} (h : findC s code c (m + 1 - c).toNat = R) (hc : c ≤ m) (he : codeS s c ≠ code) : findC s code (c + 1) (m + 1 - (c + 1)).toNat = R := by
  rw [← h, show (m + 1 - c).toNat = (m + 1 - (c + 1)).toNat + 1 by omega]
  conv => rhs; unfold findC
  rw [if_neg he]
theorem findC_end {s code : ByteArray} {c m : Int} {R : Option Int} (h : findC s code c (m + 1 - c).toNat = R) (hc : ¬ c ≤ m) : R = none := by
  rw [← h, show (m + 1 - c).toNat = 0 by omega]; rfl
/-- the answer of what was found -/
def ansR : Option Int → Int × Int
  | some c => (c, 0)
  | none => (0, 11)
theorem fndR_ans (s code : ByteArray) (a b : Int) : fndR s code a b = ansR (findC s code a (min b mostC + 1 - a).toNat) := by
  unfold fndR ansR
  split <;> simp_all
set_option maxHeartbeats 4000000 in
theorem find_k (s code : ByteArray) (a b r z : Int) (w : World) (hs : s.size ≤ 1000000) (ha : 0 ≤ a) (ha1 : a ≤ 1000000000000) (hb0 : -1000000000000 ≤ b) (hb1 : b ≤ 1000000000000) (ho : PowOk w) (hx : fndR s code a b = (r, z)) :
    Calls Tryd.prog 39 #[.string s, .string code, .int .i64 a, .int .i64 b] w fun e w' => e = .returned (.tuple #[.int .i64 r, .int .i64 z]) ∧ Below w.heap.size w w' := by
  have HO := Lib.hid ho
  clear ho
  obtain ⟨R, hR⟩ : ∃ R, findC s code a (min b mostC + 1 - a).toNat = R := ⟨_, rfl⟩
  rw [fndR_ans, hR] at hx
  unfold mostC at hR
  obtain ⟨m, hm⟩ : ∃ m, min b 36650387592 = m := ⟨_, rfl⟩
  rw [hm] at hR
  have hm1 : m ≤ 36650387592 := by omega
  have hm0 : -1000000000000 ≤ m := by omega
  have HR := Lib.hid hR
  have HX := Lib.hid hx
  have HN := Lib.hid (fnI_new w s code)
  unfold strO at HN
  clear hR hx
  go_enter Tryd.func39, Tryd.ntmps39
  go_wp2_with fail
  go_loopw [11] (fun iv wr => ∃ c : Int, iv = .int .i64 c ∧ Hid (a ≤ c ∧ c ≤ 1000000000001) ∧ Hid (findC s code c (m + 1 - c).toNat = R) ∧ Hid (FnI w s code wr)) (fun iv _ => (m + 1 - intOf iv).toNat)
  case atStart => exact ⟨a, rfl, Lib.hid ⟨Int.le_refl _, by omega⟩, HR, HN⟩
  case round =>
    clear HR HN
    obtain ⟨c, rfl, HC, HR, HF⟩ := hrel
    obtain ⟨hc0, hc1⟩ := HC.out
    by_cases hlt : c ≤ m
    · by_cases he : codeS s c = code
      · have HE := Lib.hid (findC_hit HR.out hlt he)
        have HD := Lib.hid (decide_eq_true he)
        clear he
        go_wp2_with fail
        refine (fits_k w.heap.size (w.heap.size + 1) s code c true _ hs (by omega) (by unfold mostC; omega) (HO.out.below HF.out.low) HF.out.k1 HF.out.k2 HD.out).mono ?_
        rintro e w1 ⟨rfl, hb⟩
        have HF := Lib.hid (HF.out.step hb)
        clear hb
        go_wp2_with fail
        go_ret2
        refine ⟨?_, HF.out.low⟩
        have h := HX.out
        rw [HE.out] at h
        obtain ⟨rfl, rfl⟩ := Prod.mk.inj h
        rfl
      · have HE := Lib.hid (findC_miss HR.out hlt he)
        have HD := Lib.hid (decide_eq_false he)
        clear he
        go_wp2_with fail
        refine (fits_k w.heap.size (w.heap.size + 1) s code c false _ hs (by omega) (by unfold mostC; omega) (HO.out.below HF.out.low) HF.out.k1 HF.out.k2 HD.out).mono ?_
        rintro e w1 ⟨rfl, hb⟩
        have HF := Lib.hid (HF.out.step hb)
        clear hb
        go_wp2_with fail
        go_roundw
        case rel => exact ⟨c + 1, by go_num, Lib.hid ⟨by omega, by omega⟩, HE, HF⟩
        case measure => simp [intOf]; omega
    · have HE := Lib.hid (findC_end HR.out hlt)
      go_wp2_with fail
      go_ret2
      refine ⟨?_, HF.out.low⟩
      have h := HX.out
      rw [HE.out] at h
      obtain ⟨rfl, rfl⟩ := Prod.mk.inj h
      rfl
set_option maxHeartbeats 4000000 in
theorem first_k (s code : ByteArray) (a m r z : Int) (w : World) (hs : s.size ≤ 1000000) (hcl : cleanB s = true) (ha : 0 ≤ a) (ha1 : a ≤ 1000000000000) (hm0 : -1000000000000 ≤ m) (hm1 : m ≤ 36650387592) (hx : fndR s code a m = (r, z)) :
    Calls Tryd.prog 41 #[.string s, .int .i64 a, .int .i64 m, .string code] w fun e w' => e = .returned (.tuple #[.int .i64 r, .int .i64 z]) ∧ Below w.heap.size w w' := by
  obtain ⟨R, hR⟩ : ∃ R, findC s code a (min m mostC + 1 - a).toNat = R := ⟨_, rfl⟩
  rw [fndR_ans, hR] at hx
  rw [show min m mostC = m by unfold mostC; omega] at hR
  have HR := Lib.hid hR
  have HX := Lib.hid hx
  have HCl := Lib.hid hcl
  clear hR hx hcl
  go_enter Tryd.func41, Tryd.ntmps41
  go_wp2_with fail
  go_loopw [10] (fun iv wr => ∃ c : Int, iv = .int .i64 c ∧ Hid (a ≤ c ∧ c ≤ 1000000000001) ∧ Hid (findC s code c (m + 1 - c).toNat = R) ∧ Hid (Below w.heap.size w wr)) (fun iv _ => (m + 1 - intOf iv).toNat)
  case atStart => exact ⟨a, rfl, Lib.hid ⟨Int.le_refl _, by omega⟩, HR, Lib.hid (Below.refl _ _)⟩
  case round =>
    clear HR
    obtain ⟨c, rfl, HC, HR, HF⟩ := hrel
    obtain ⟨hc0, hc1⟩ := HC.out
    by_cases hlt : c ≤ m
    · obtain ⟨x, hx⟩ : ∃ x, codeS s c = x := ⟨_, rfl⟩
      have HV := Lib.hid (show codR s c = (x, 0) by unfold codR mostC; rw [HCl.out, if_pos rfl, if_pos ⟨by omega, by omega⟩, hx])
      by_cases he : x = code
      · have HE := Lib.hid (findC_hit HR.out hlt (hx.trans he))
        have d1 : (x.toList == code.toList) = true := by rw [str_eq]; exact decide_eq_true he
        clear he hx
        go_wp2_with fail
        refine (rcode_k s c x 0 _ hs (by omega) (by omega) HV.out).mono ?_
        rintro e w1 ⟨rfl, hb⟩
        have HF := Lib.hid (HF.out.trans (hb.mono HF.out.size))
        clear hb
        go_wp2_with fail
        go_ret2
        refine ⟨?_, HF.out⟩
        have h := HX.out
        rw [HE.out] at h
        obtain ⟨rfl, rfl⟩ := Prod.mk.inj h
        rfl
      · have HE := Lib.hid (findC_miss HR.out hlt (fun h => he (hx.symm.trans h)))
        have d1 : (x.toList == code.toList) = false := by rw [str_eq]; exact decide_eq_false he
        clear he hx
        go_wp2_with fail
        refine (rcode_k s c x 0 _ hs (by omega) (by omega) HV.out).mono ?_
        rintro e w1 ⟨rfl, hb⟩
        have HF := Lib.hid (HF.out.trans (hb.mono HF.out.size))
        clear hb
        go_wp2_with fail
        go_roundw
        case rel => exact ⟨c + 1, by go_num, Lib.hid ⟨by omega, by omega⟩, HE, HF⟩
        case measure => simp [intOf]; omega
    · have HE := Lib.hid (findC_end HR.out hlt)
      go_wp2_with fail
      go_ret2
      refine ⟨?_, HF.out⟩
      have h := HX.out
      rw [HE.out] at h
      obtain ⟨rfl, rfl⟩ := Prod.mk.inj h
      rfl
end Go.Proofs.YtmkcojgdhdmnnaaDoor
