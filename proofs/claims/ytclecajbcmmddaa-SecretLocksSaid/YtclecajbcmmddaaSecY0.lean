/-
  Pure facts of the law's examples: a digest reads as a number, what Make makes is accepted, the answers at the chapter's examples. No condition.
-/
import Derived.Test.YtclecajbcmmddaaSecX
set_option maxRecDepth 100000
set_option maxRecDepth 100000
set_option linter.unusedVariables false
set_option linter.unusedSimpArgs false
set_option linter.unnecessarySimpa false
namespace Go.Proofs.Ytclecajbcmmddaa
open Go.RowKit Go.PlainAid

theorem hx_txt (s : ByteArray) : hxB (txtS s) = true := by
  unfold hxB
  have : rdO (txtS s).data.toList = some (sumN s.data.toList) := by
    show rdO (hexN (sumN s.data.toList)) = _
    exact rdO_hexN _ (sumN_lt _)
  rw [(rdV_of this).2]; rfl
theorem hx_it (salt s : ByteArray) : ∀ k, hxB (itS salt (txtS s) k) = true
  | 0 => hx_txt _
  | k + 1 => hx_txt _
theorem hx_iter (salt s : ByteArray) (r : Int) : hxB (iterS salt s r) = true := hx_it _ _ _
theorem iter_size (salt s : ByteArray) (r : Int) : (iterS salt s r).size = 16 := itS_size _ _ (txtS_size _) _
theorem val_of {a p : ByteArray} {r : Int} (h : usB a r = true) : valB (a, r, iterS a p r) = true := by
  unfold valB
  rw [h, hx_iter]; rfl
theorem mk_chk {a p : ByteArray} {r : Int} (h : usB a r = true) (hp : pwB p = true) : chkB (a, r, iterS a p r) p = true := by
  unfold chkB
  rw [val_of h, hp]; simp
def sSalt : ByteArray := ⟨#[115, 97, 108, 116]⟩
def sPw : ByteArray := ⟨#[65, 98, 99, 100, 101, 102, 103, 49]⟩
def sSec : ByteArray := ⟨#[115, 101, 99, 114, 101, 116]⟩
def sAnn : ByteArray := ⟨#[97, 110, 110]⟩
def sBob : ByteArray := ⟨#[98, 111, 98]⟩
def sX : ByteArray := ⟨#[120, 65, 110, 110, 45, 49, 50, 51, 52]⟩
def sLow : ByteArray := ⟨#[97, 98, 99, 100, 101, 102, 103, 104]⟩
theorem us_salt : usB sSalt 2 = true := by decide +kernel
theorem pw_pw : pwB sPw = true := by decide +kernel
theorem pw_sec : pwB sSec = false := by decide +kernel
theorem qu_pw : quE sPw sAnn = 0 := by decide +kernel
theorem qu_x : quE sX sAnn = 11 := by decide +kernel
theorem qu_low : quE sLow sAnn = 11 := by decide +kernel
def us1 : Us := [(sAnn, ([5], 0))]
def us2 : Us := [(sAnn, ([5, 9], 109))]
def us3 : Us := [(sAnn, ([5, 9], 109)), (sBob, ([5], 0))]
def us4 : Us := [(sAnn, ([5, 9], 109)), (sBob, ([5, 15], 0))]
theorem fa1 : failA 2 10 100 [] sAnn 5 = us1 := by decide +kernel
theorem fa2 : failA 2 10 100 us1 sAnn 9 = us2 := by decide +kernel
theorem fa3 : failA 2 10 100 us2 sBob 5 = us3 := by decide +kernel
theorem fa4 : failA 2 10 100 us3 sBob 15 = us4 := by decide +kernel
theorem lo1 : lockedA us1 sAnn 5 = false := by decide +kernel
theorem lo2 : lockedA us4 sAnn 108 = true := by decide +kernel
theorem lo3 : lockedA us4 sAnn 109 = false := by decide +kernel
theorem lo4 : lockedA us4 sBob 15 = false := by decide +kernel
theorem fl4 : failsA 10 us4 sAnn 9 = 2 := by decide +kernel
theorem lk_bad : lkOk 0 10 10 = false := by decide +kernel
theorem lk_ok : LkN 2 10 100 := ⟨by decide, by decide, by decide, by decide, by decide, by decide⟩
theorem reu_one {a p h : ByteArray} {r : Int} (hc : chkB (a, r, h) p = true) : reuB [(a, r, h)] p = true := by unfold reuB; simp [hc]

end Go.Proofs.Ytclecajbcmmddaa
