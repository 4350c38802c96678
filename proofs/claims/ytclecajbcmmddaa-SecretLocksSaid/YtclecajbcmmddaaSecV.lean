/-
  Contracts of the specification's Make, and of Valid in the program and in the specification. Condition: at most 1000000 bytes.
-/
import Derived.Test.YtclecajbcmmddaaSecQ
set_option maxRecDepth 100000
set_option maxRecDepth 100000
set_option linter.unusedVariables false
set_option linter.unusedSimpArgs false
set_option linter.unnecessarySimpa false
namespace Go.Proofs.Ytclecajbcmmddaa
open Go.RowKit Go.PlainAid

theorem readHex_k (s : ByteArray) (n : Nat) (e0 : Int) (w : World) (hs : s.size ≤ 1000000000) (h : rdV s.data.toList = n ∧ rdE s.data.toList = e0) :
    Calls Try.prog 36 #[.string s] w fun e w' => e = .returned (.tuple #[.int .u64 n, .int .i64 e0]) ∧ w = w' := by
  obtain ⟨rfl, rfl⟩ := h; exact readHex_s s w hs
theorem hx_of {h : ByteArray} {z : Int} (e : rdE h.data.toList = z) : hxB h = (z == 0) := by subst e; rfl
set_option maxHeartbeats 4000000 in
theorem valid_k (a h : ByteArray) (r : Int) (x : Bool) (w : World) (ha : a.size ≤ 1000000) (hh : h.size ≤ 1000000) (hx : valB (a, r, h) = x) :
    Calls Try.prog 19 #[.agg #[.string a, .int .i64 r, .string h]] w fun e w' => e = .returned (.bool x) ∧ Below w.heap.size w w' := by
  have HM := Lib.hid (kbc_new w (vfO a r h))
  have HB := Lib.hid (box_below w (vfO a r h))
  unfold vfO at HM HB
  have g0 := HM.out.cell (i := 0) rfl
  have g1 := HM.out.cell (i := 1) rfl
  have g2 := HM.out.cell (i := 2) rfl
  obtain ⟨n, hn⟩ : ∃ n, rdV h.data.toList = n := ⟨_, rfl⟩
  obtain ⟨z, hz⟩ : ∃ z, rdE h.data.toList = z := ⟨_, rfl⟩
  have HX : Hid (x = (usB a r && (z == 0))) := Lib.hid (by rw [← hx]; unfold valB; rw [hx_of hz])
  have HR := Lib.hid (And.intro hn hz)
  clear hn hz hx
  cases hu : usB a r
  · go_enter Try.func19, Try.ntmps19
    go_wp2_with fail
    refine (readHex_k h n z _ (by omega) HR.out).mono ?_
    rintro e w' ⟨rfl, rfl⟩
    go_wp2_with fail
    refine (usable_k a h r false _ (by omega) hu).mono ?_
    rintro e w1 ⟨rfl, hb⟩
    have HB := Lib.hid (HB.out.trans (hb.mono HB.out.size))
    clear hb g0 g1 g2
    go_wp2_with fail
    go_ret
    exact ⟨by rw [HX.out, hu]; rfl, HB.out⟩
  · go_enter Try.func19, Try.ntmps19
    go_wp2_with fail
    refine (readHex_k h n z _ (by omega) HR.out).mono ?_
    rintro e w' ⟨rfl, rfl⟩
    go_wp2_with fail
    refine (usable_k a h r true _ (by omega) hu).mono ?_
    rintro e w1 ⟨rfl, hb⟩
    have HB := Lib.hid (HB.out.trans (hb.mono HB.out.size))
    clear hb g0 g1 g2
    go_wp2_with fail
    go_ret
    exact ⟨by rw [HX.out, hu]; rfl, HB.out⟩
end Go.Proofs.Ytclecajbcmmddaa
