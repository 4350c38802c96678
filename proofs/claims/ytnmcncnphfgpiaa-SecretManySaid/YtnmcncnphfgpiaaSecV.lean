/-
  Contracts of the specification's Make, and of Valid in the program and in the specification. Condition: at most 1000000 bytes.
-/
import Derived.Test.YtnmcncnphfgpiaaSecQ
set_option maxRecDepth 100000
set_option linter.unusedVariables false
set_option linter.unusedSimpArgs false
set_option linter.unnecessarySimpa false
namespace Go.Proofs.Ytnmcncnphfgpiaa
open Go.RowKit Go.PlainAid

theorem readHex_k (s : ByteArray) (n : Nat) (e0 : Int) (w : World) (hs : s.size ≤ 1000000000) (h : rdV s.data.toList = n ∧ rdE s.data.toList = e0) :
    Calls Try.prog 40 #[.string s] w fun e w' => e = .returned (.tuple #[.int .u64 n, .int .i64 e0]) ∧ w = w' := by
  obtain ⟨rfl, rfl⟩ := h; exact readHex_s s w hs
theorem rreadHex_k (s : ByteArray) (n : Nat) (e0 : Int) (w : World) (hs : s.size ≤ 1000000000) (h : rdV s.data.toList = n ∧ rdE s.data.toList = e0) :
    Calls Try.prog 41 #[.string s] w fun e w' => e = .returned (.tuple #[.int .u64 n, .int .i64 e0]) ∧ w = w' := by
  obtain ⟨rfl, rfl⟩ := h; exact rreadHex_s s w hs
theorem hx_of {h : ByteArray} {z : Int} (e : rdE h.data.toList = z) : hxB h = (z == 0) := by subst e; rfl
set_option maxHeartbeats 4000000 in
theorem rmake_k (p a h : ByteArray) (r z x : Int) (b : ByteArray) (w : World) (hp : p.size ≤ 1000000) (ha : a.size ≤ 1000000) (h0 : -9223372036854775808 ≤ r) (h1 : r ≤ 9223372036854775807) (hv : mkV p a r = (b, x, h)) (he : mkE p a r = z) :
    Calls Try.prog 11 #[.string p, .string a, .int .i64 r] w fun e w' => e = .returned (.tuple #[.agg #[.string b, .int .i64 x, .string h], .int .i64 z]) ∧ Below w.heap.size w w' := by
  have HM := Lib.hid (kbc_new w (vfO ⟨#[]⟩ 0 ⟨#[]⟩))
  have HB := Lib.hid (box_below w (vfO ⟨#[]⟩ 0 ⟨#[]⟩))
  unfold vfO at HM HB
  have g0 := HM.out.cell (i := 0) rfl
  have g1 := HM.out.cell (i := 1) rfl
  have g2 := HM.out.cell (i := 2) rfl
  have gf : ∀ j, (w.alloc (.cells #[.string ⟨#[]⟩, .int .i64 0, .string ⟨#[]⟩] 25)).frozen? ⟨w.heap.size, j, none⟩ = false := fun j => HM.out.frz
  have bad : usB a r = false → (b = ⟨#[]⟩ ∧ x = 0 ∧ h = ⟨#[]⟩ ∧ z = 2) := fun hu => by
    obtain ⟨q1, q2⟩ := mk_no1 (p := p) hu
    rw [hv] at q1
    rw [he] at q2
    injection q1 with q1 q3
    injection q3 with q3 q4
    exact ⟨q1, q3, q4, q2⟩
  cases hw : wordB a
  · obtain ⟨rfl, rfl, rfl, rfl⟩ := bad (usB_no1 r hw)
    clear bad hv he
    go_enter Try.func11, Try.ntmps11
    go_wp2_with fail
    refine (rword_k a false _ (by omega) hw).mono ?_
    rintro e w' ⟨rfl, rfl⟩
    go_wp2_with fail
    exact bodyPost_ret (rmake_results _ _ _ _ _ rfl (kbc_new _ _) rfl) rfl ⟨rfl, box_below _ _⟩
  · by_cases h2 : r < 1
    · obtain ⟨rfl, rfl, rfl, rfl⟩ := bad (usB_no2 a (by omega))
      clear bad hv he
      go_enter Try.func11, Try.ntmps11
      go_wp2_with fail
      refine (rword_k a true _ (by omega) hw).mono ?_
      rintro e w' ⟨rfl, rfl⟩
      go_wp2_with fail
      exact bodyPost_ret (rmake_results _ _ _ _ _ rfl (kbc_new _ _) rfl) rfl ⟨rfl, box_below _ _⟩
    · by_cases h3 : 64 < r
      · obtain ⟨rfl, rfl, rfl, rfl⟩ := bad (usB_no3 a (by omega))
        clear bad hv he
        go_enter Try.func11, Try.ntmps11
        go_wp2_with fail
        refine (rword_k a true _ (by omega) hw).mono ?_
        rintro e w' ⟨rfl, rfl⟩
        go_wp2_with fail
        exact bodyPost_ret (rmake_results _ _ _ _ _ rfl (kbc_new _ _) rfl) rfl ⟨rfl, box_below _ _⟩
      · have hu := usB_yes hw (by omega : 1 ≤ r) (by omega : r ≤ 64)
        clear bad
        cases hq : pwB p
        · have HF := Lib.hid (mk_no2 hu hq)
          rw [hv, he] at HF
          obtain ⟨f1, f2⟩ := HF.out
          cases f1
          subst f2
          clear HF hu hv he
          go_enter Try.func11, Try.ntmps11
          go_wp2_with fail
          refine (rword_k a true _ (by omega) hw).mono ?_
          rintro e w' ⟨rfl, rfl⟩
          go_wp2_with fail
          refine (rPw_k p false _ (by omega) hq).mono ?_
          rintro e w' ⟨rfl, rfl⟩
          go_wp2_with fail
          exact bodyPost_ret (rmake_results _ _ _ _ _ rfl (kbc_new _ _) rfl) rfl ⟨rfl, box_below _ _⟩
        · have HF := Lib.hid (mk_yes hu hq)
          rw [hv, he] at HF
          obtain ⟨f1, f2⟩ := HF.out
          injection f1 with f1 f3
          injection f3 with f3 f4
          subst f1 f2 f3
          have HI := Lib.hid f4.symm
          clear HF f4 hu hv he
          go_enter Try.func11, Try.ntmps11
          go_wp2_with fail
          refine (rword_k b true _ (by omega) hw).mono ?_
          rintro e w' ⟨rfl, rfl⟩
          go_wp2_with fail
          refine (rPw_k p true _ (by omega) hq).mono ?_
          rintro e w' ⟨rfl, rfl⟩
          go_wp2_with fail
          refine (riter_k b p h x _ ha hp h0 h1 HI.out).mono ?_
          rintro e w' ⟨rfl, rfl⟩
          go_wp2_with fail
          exact bodyPost_ret (rmake_results _ _ _ _ _ rfl (kbc_new _ _) rfl) rfl ⟨rfl, box_below _ _⟩
set_option maxHeartbeats 4000000 in
theorem valid_k (a h : ByteArray) (r : Int) (x : Bool) (w : World) (ha : a.size ≤ 1000000) (hh : h.size ≤ 1000000) (hx : valB (a, r, h) = x) :
    Calls Try.prog 12 #[.agg #[.string a, .int .i64 r, .string h]] w fun e w' => e = .returned (.bool x) ∧ Below w.heap.size w w' := by
  have HM := Lib.hid (kbc_new w (vfO a r h))
  have HB := Lib.hid (box_below w (vfO a r h))
  unfold vfO at HM HB
  have g0 := HM.out.cell (i := 0) rfl
  have g1 := HM.out.cell (i := 1) rfl
  have g2 := HM.out.cell (i := 2) rfl
  obtain ⟨n, hn⟩ : ∃ n, rdV h.data.toList = n := ⟨_, rfl⟩
  obtain ⟨z, hz⟩ : ∃ z, rdE h.data.toList = z := ⟨_, rfl⟩
  have HX : Hid (x = (usB a r && (z == 0))) := Lib.hid (by rw [← hx]; unfold valB; rw [hx_of hz])
  have HR := Lib.hid (And.intro hn hz)
  clear hn hz hx
  cases hu : usB a r
  · go_enter Try.func12, Try.ntmps12
    go_wp2_with fail
    refine (readHex_k h n z _ (by omega) HR.out).mono ?_
    rintro e w' ⟨rfl, rfl⟩
    go_wp2_with fail
    refine (usable_k a h r false _ (by omega) hu).mono ?_
    rintro e w1 ⟨rfl, hb⟩
    have HB := Lib.hid (HB.out.trans (hb.mono HB.out.size))
    clear hb g0 g1 g2
    go_wp2_with fail
    go_ret
    exact ⟨by rw [HX.out, hu]; rfl, HB.out⟩
  · go_enter Try.func12, Try.ntmps12
    go_wp2_with fail
    refine (readHex_k h n z _ (by omega) HR.out).mono ?_
    rintro e w' ⟨rfl, rfl⟩
    go_wp2_with fail
    refine (usable_k a h r true _ (by omega) hu).mono ?_
    rintro e w1 ⟨rfl, hb⟩
    have HB := Lib.hid (HB.out.trans (hb.mono HB.out.size))
    clear hb g0 g1 g2
    go_wp2_with fail
    go_ret
    exact ⟨by rw [HX.out, hu]; rfl, HB.out⟩
set_option maxHeartbeats 4000000 in
theorem rvalid_k (a h : ByteArray) (r : Int) (x : Bool) (w : World) (ha : a.size ≤ 1000000) (hh : h.size ≤ 1000000) (hx : valB (a, r, h) = x) :
    Calls Try.prog 13 #[.agg #[.string a, .int .i64 r, .string h]] w fun e w' => e = .returned (.bool x) ∧ Below w.heap.size w w' := by
  have HM := Lib.hid (kbc_new w (vfO a r h))
  have HB := Lib.hid (box_below w (vfO a r h))
  unfold vfO at HM HB
  have g0 := HM.out.cell (i := 0) rfl
  have g1 := HM.out.cell (i := 1) rfl
  have g2 := HM.out.cell (i := 2) rfl
  obtain ⟨n, hn⟩ : ∃ n, rdV h.data.toList = n := ⟨_, rfl⟩
  obtain ⟨z, hz⟩ : ∃ z, rdE h.data.toList = z := ⟨_, rfl⟩
  have HX : Hid (x = (usB a r && (z == 0))) := Lib.hid (by rw [← hx]; unfold valB; rw [hx_of hz])
  have HR := Lib.hid (And.intro hn hz)
  clear hn hz hx
  cases hw : wordB a
  · have HU := Lib.hid (usB_no1 r hw)
    go_enter Try.func13, Try.ntmps13
    go_wp2_with fail
    refine (rreadHex_k h n z _ (by omega) HR.out).mono ?_
    rintro e w' ⟨rfl, rfl⟩
    go_wp2_with fail
    refine (rword_k a false _ (by omega) hw).mono ?_
    rintro e w' ⟨rfl, rfl⟩
    go_wp2_with fail
    go_ret
    exact ⟨by rw [HX.out, HU.out]; rfl, HB.out⟩
  · by_cases h2 : 1 ≤ r
    · by_cases h3 : r ≤ 64
      · have HU := Lib.hid (usB_yes hw h2 h3)
        go_enter Try.func13, Try.ntmps13
        go_wp2_with fail
        refine (rreadHex_k h n z _ (by omega) HR.out).mono ?_
        rintro e w' ⟨rfl, rfl⟩
        go_wp2_with fail
        refine (rword_k a true _ (by omega) hw).mono ?_
        rintro e w' ⟨rfl, rfl⟩
        go_wp2_with fail
        go_ret
        exact ⟨by rw [HX.out, HU.out]; rfl, HB.out⟩
      · have HU := Lib.hid (usB_no3 a h3)
        go_enter Try.func13, Try.ntmps13
        go_wp2_with fail
        refine (rreadHex_k h n z _ (by omega) HR.out).mono ?_
        rintro e w' ⟨rfl, rfl⟩
        go_wp2_with fail
        refine (rword_k a true _ (by omega) hw).mono ?_
        rintro e w' ⟨rfl, rfl⟩
        go_wp2_with fail
        go_ret
        exact ⟨by rw [HX.out, HU.out]; rfl, HB.out⟩
    · have HU := Lib.hid (usB_no2 a h2)
      go_enter Try.func13, Try.ntmps13
      go_wp2_with fail
      refine (rreadHex_k h n z _ (by omega) HR.out).mono ?_
      rintro e w' ⟨rfl, rfl⟩
      go_wp2_with fail
      refine (rword_k a true _ (by omega) hw).mono ?_
      rintro e w' ⟨rfl, rfl⟩
      go_wp2_with fail
      go_ret
      exact ⟨by rw [HX.out, HU.out]; rfl, HB.out⟩

end Go.Proofs.Ytnmcncnphfgpiaa
