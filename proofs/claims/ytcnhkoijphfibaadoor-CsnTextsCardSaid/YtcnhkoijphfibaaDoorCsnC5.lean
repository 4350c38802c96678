/-
  Contracts of slices.Concat at two slices of numbers, csn.Join and Note. Condition: at most 400000 numbers in each slice.
-/
import Derived.Test.YtcnhkoijphfibaaDoorCsnC4
set_option maxRecDepth 100000
set_option linter.unusedVariables false
set_option linter.unusedSimpArgs false
set_option linter.unnecessarySimpa false
namespace Go.Proofs.YtcnhkoijphfibaaDoor
open Go.RowKit Go.PlainAid

def twO (ao : Option Addr) (n cap : Nat) (bo : Option Addr) (m dap : Nat) : Obj := .cells #[.slice ao n cap, .slice bo m dap] 39
set_option maxHeartbeats 8000000 in
theorem concat_s (g : Nat) (ao bo : Option Addr) (n m cap dap : Nat) (l k : List Cn) (w : World) (hg : KbC w g (twO ao n cap bo m dap)) (h : CnsAt w ao n cap l) (hk : CnsAt w bo m dap k) (hn : n ≤ 400000) (hm : m ≤ 400000) :
    Calls Tryd.prog 51 #[.slice (some ⟨g, 0, none⟩) 2 2] w fun e w' => ∃ xo q xc, e = .returned (.slice xo q xc) ∧ CnsAt w' xo q xc (l ++ k) ∧ Below w.heap.size w w' := by
  have H := Lib.hid h
  have HK := Lib.hid hk
  have HG := Lib.hid hg
  clear h hk
  have c0 : w.cell? ⟨g, 0, none⟩ = some (.slice ao n cap) := hg.cell rfl
  have c1 : w.cell? ⟨g, 1, none⟩ = some (.slice bo m dap) := hg.cell rfl
  clear hg
  have e0 : ¬ (n : Int) < 0 := by omega
  have e1 : ¬ (n : Int) + (m : Int) < 0 := by omega
  have HGr := Lib.hid (fun (v : Int) (hv : v = ((n + m : Nat) : Int)) => show Calls Tryd.prog 60 #[.slice none 0 0, .int .i64 v] w _ from hv ▸ grow_s (n + m) w (by omega))
  go_enter Tryd.func51, Tryd.ntmps51
  go_wp2_with fail
  refine wp_loop_rounds 3 ?_
  rw [rounds_succ]
  go_wp2_with fail
  rw [rounds_succ]
  go_wp2_with fail
  rw [rounds_succ]
  go_wp2_with fail
  refine (HGr.out _ (by first | rfl | omega)).mono ?_
  rintro e w1 ⟨v, rfl, hown, hb⟩
  have HB1 := Lib.hid hb
  have HA1 := Lib.hid (H.out.below hb)
  have HK1 := Lib.hid (HK.out.below hb)
  have HG1 := Lib.hid (HG.out.step hb)
  have HO1 := Lib.hid hown
  clear hb hown c0 c1
  have c0 : w1.cell? ⟨g, 0, none⟩ = some (.slice ao n cap) := HG1.out.cell rfl
  have c1 : w1.cell? ⟨g, 1, none⟩ = some (.slice bo m dap) := HG1.out.cell rfl
  go_wp2_with fail
  refine wp_loop_rounds 3 ?_
  rw [rounds_succ]
  go_wp2_with (at_builtin; refine app_cns w1 HO1.out (.tmp 31) (.tmp 32) ao n cap l ?_ ?_ ?_ ?_ ?_ ?_ ?_ ?_; exact rfl; exact rfl; exact rfl; exact rfl; exact HA1.out; omega; exact HB1.out.size; intro v2 w2 hown2 hb2)
  have HB2 := Lib.hid (HB1.out.trans hb2)
  have HO2 := Lib.hid hown2
  have HK2 := Lib.hid (HK.out.below HB2.out)
  have HG2 := Lib.hid (HG.out.step HB2.out)
  clear hb2 hown2 c0 c1
  have c1 : w2.cell? ⟨g, 1, none⟩ = some (.slice bo m dap) := HG2.out.cell rfl
  rw [rounds_succ]
  go_wp2_with (at_builtin; refine app_cns w2 HO2.out (.tmp 31) (.tmp 32) bo m dap k ?_ ?_ ?_ ?_ ?_ ?_ ?_ ?_; exact rfl; exact rfl; exact rfl; exact rfl; exact HK2.out; omega; exact HB2.out.size; intro v3 w3 hown3 hb3)
  have HB3 := Lib.hid (HB2.out.trans hb3)
  rw [List.nil_append, ← ccells_app] at hown3
  obtain ⟨xo, xc, hv3, hat⟩ := cns_of_owns hown3
  rw [hv3]
  have HA3 := Lib.hid hat
  clear hb3 hown3 hat c1 hv3
  rw [rounds_succ]
  go_wp2_with fail
  go_ret
  exact ⟨xo, _, xc, rfl, HA3.out, HB3.out⟩
end Go.Proofs.YtcnhkoijphfibaaDoor
