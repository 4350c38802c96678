/-
  The contract of identitylaw01's alive: true, whatever the world, as long as the library's own variable MaxLen holds a number.
-/
import Derived.Test.YtelddbgnhfhkiaaDoorFoldMatch
import Derived.Test.YtelddbgnhfhkiaaDoorFoldName
import Derived.Test.YtelddbgnhfhkiaaDoorFoldWord
import Derived.Test.YtelddbgnhfhkiaaDoorFoldCmp
set_option linter.unusedVariables false
set_option linter.unusedSimpArgs false
set_option linter.unnecessarySimpa false
namespace Go.Proofs.YtelddbgnhfhkiaaDoor
open Go.RowKit Go.PlainAid

theorem const1 : foldS ⟨#[32, 32, 65, 110, 110, 32, 32, 32, 76, 69, 69, 32]⟩ = ⟨#[97, 110, 110, 32, 108, 101, 101]⟩ := by decide +kernel
theorem const2 : lowS ⟨#[65, 110, 110]⟩ = ⟨#[97, 110, 110]⟩ := by decide +kernel
theorem const3 : trimS ⟨#[32, 32, 97, 32, 98, 32]⟩ = ⟨#[97, 32, 98]⟩ := by decide +kernel
theorem const4 : cleanB ⟨#[97, 32, 32, 98]⟩ = true := by decide +kernel
theorem const5 : cleanB ⟨#[97, 32]⟩ = false := by decide +kernel
theorem const6 : nameB ⟨#[120, 45, 49]⟩ = true := by decide +kernel
theorem const7 : nameB ⟨#[49, 120]⟩ = false := by decide +kernel
theorem const8 : wordB ⟨#[49, 120, 58, 97, 46, 98]⟩ = true := by decide +kernel
theorem const9 : compS ⟨#[65, 110, 110]⟩ ⟨#[98, 111, 98]⟩ = -1 := by decide +kernel
theorem const10 : compS ⟨#[97, 110, 110]⟩ ⟨#[65, 110, 110]⟩ = 1 := by decide +kernel
theorem const11 : matchB ⟨#[65, 110, 110, 32, 76, 101, 101]⟩ [⟨#[97]⟩, ⟨#[110, 32, 108]⟩, ⟨#[101]⟩] = true := by decide +kernel
theorem const12 : matchB ⟨#[97, 98]⟩ [⟨#[97, 98]⟩, ⟨#[98]⟩] = false := by decide +kernel

theorem strs_new3 (w : World) (a b c : ByteArray) : IsStrs (w.alloc (.cells #[.string a, .string b, .string c] 9)) w.heap.size 0 [a, b, c] :=
  ⟨by simp, fun j hj => by
    rw [World.cell?_alloc_at _ _ _ _ rfl, Nat.zero_add]
    match j, hj with
    | 0, _ => rfl
    | 1, _ => rfl
    | 2, _ => rfl⟩
theorem strs_new2 (w : World) (a b : ByteArray) : IsStrs (w.alloc (.cells #[.string a, .string b] 9)) w.heap.size 0 [a, b] :=
  ⟨by simp, fun j hj => by
    rw [World.cell?_alloc_at _ _ _ _ rfl, Nat.zero_add]
    match j, hj with
    | 0, _ => rfl
    | 1, _ => rfl⟩

theorem match_n (s : ByteArray) (b off cap n : Nat) (ps : List ByteArray) (w : World) (hl : ps.length = n) (hst : IsStrs w b off ps) (hs : s.size ≤ 1000000000) (hp : ∀ p ∈ ps, p.size ≤ 1000000000) (hn : n ≤ 1000000) (hcap : n ≤ cap)
    (h2 : 2 ≤ n) (hm : MaxOk w) :
    Calls Tryd.prog 31 #[.string s, .slice (some ⟨b, off, none⟩) n cap] w fun e w' => e = .returned (.bool (matchB s ps)) ∧ Below w.heap.size w w' := by
  subst hl
  exact match_s s b off cap ps w hs hp hn hcap h2 hst hm

set_option maxRecDepth 100000 in
set_option maxHeartbeats 2000000 in
theorem alive_s (w : World) (hm : MaxOk w) :
    Calls Tryd.prog 15 #[] w fun e w' => e = .returned (.bool true) ∧ Below w.heap.size w w' := by
  have hB := Below.refl w.heap.size w
  have k1 := const1; have k2 := const2; have k3 := const3; have k4 := const4; have k5 := const5; have k6 := const6; have k7 := const7; have k8 := const8; have k9 := const9; have k10 := const10
  go_enter Tryd.func15, Tryd.ntmps15
  go_wp2_with (first
    | (go_at_call 20; refine (fold_s _ _ ?_).mono ?_; (decide +kernel); rintro e w1 ⟨rfl, hb⟩; have hB := hB.trans (hb.mono hB.size); clear hb)
    | (go_at_call 16; refine (lower_s _ _ ?_).mono ?_; (decide +kernel); rintro e w2 ⟨rfl, hb⟩; have hB := hB.trans (hb.mono hB.size); clear hb)
    | (go_at_call 18; refine (trim_s _ _ ?_).mono ?_; (decide +kernel); rintro e w3 ⟨rfl, hb⟩; have hB := hB.trans (hb.mono hB.size); clear hb)
    | (go_at_call 22; refine (clean_s _ _ ?_).mono ?_; (decide +kernel); rintro e w' ⟨rfl, rfl⟩)
    | (go_at_call 24; refine (name_s _ _ ?_).mono ?_; (decide +kernel); rintro e w' ⟨rfl, rfl⟩)
    | (go_at_call 26; refine (word_s _ _ ?_).mono ?_; (decide +kernel); rintro e w' ⟨rfl, rfl⟩)
    | (go_at_call 28; refine (compare_s _ _ _ ?_ ?_).mono ?_; (decide +kernel); (decide +kernel); rintro e w4 ⟨rfl, hb⟩; have hB := hB.trans (hb.mono hB.size); clear hb))
  refine (match_n _ _ _ _ _ _ _ rfl (strs_new3 w4 _ _ _) (by decide +kernel) (by decide +kernel) (by decide) (by decide) (by decide) (hm.below (hB.alloc hB.size _) hm.lt)).mono ?_
  rintro e w5 ⟨rfl, hb⟩
  have hB5 : Below w.heap.size w w5 := (hB.alloc hB.size _).trans (hb.mono (by simp; have := hB.size; omega))
  clear hb
  have k11 := const11
  go_wp2_with fail
  refine (match_n _ _ _ _ _ _ _ rfl (strs_new2 w5 _ _) (by decide +kernel) (by decide +kernel) (by decide) (by decide) (by decide) (hm.below (hB5.alloc hB5.size _) hm.lt)).mono ?_
  rintro e w6 ⟨rfl, hb⟩
  have hB6 : Below w.heap.size w w6 := (hB5.alloc hB5.size _).trans (hb.mono (by simp; have := hB5.size; omega))
  clear hb
  have k12 := const12
  go_wp2
  go_ret
  exact ⟨rfl, hB6⟩

end Go.Proofs.YtelddbgnhfhkiaaDoor
