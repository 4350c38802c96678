/-
  Contract of the locks' Fail, the walk. Condition: the locks lie in memory as SecM says; names of at most 1000000000 bytes.
-/
import Derived.Test.YtclecajbcmmddaaSecT
set_option maxRecDepth 100000
set_option maxRecDepth 100000
set_option linter.unusedVariables false
set_option linter.unusedSimpArgs false
set_option linter.unnecessarySimpa false
namespace Go.Proofs.Ytclecajbcmmddaa
open Go.RowKit Go.PlainAid

theorem LK.grow {S : Nat → Prop} {w w' : World} {b : Nat} {most win lock : Int} {A : Us} (h : LK w S b most win lock A) (hb : Below w.heap.size w w') : LK w' (nw S w w') b most win lock A :=
  (h.step hb).mono fun i hi => .inl hi
set_option maxHeartbeats 4000000 in
theorem fail_noword (S : Nat → Prop) (b : Nat) (most win lock : Int) (A : Us) (u : ByteArray) (now : Int) (w : World) (h : LK w S b most win lock A) (hu : u.size ≤ 1000000000) (hw : wordB u = false) :
    Calls Try.prog 8 #[.pointer (some ⟨b, 0, none⟩), .string u, .int .i64 now] w fun e w' => e = .returned (.tuple #[]) ∧ LK w' (nw S w w') b most win lock (failA most win lock A u now) ∧ Fo S w w' := by
  have HE := Lib.hid (show failA most win lock A u now = A by unfold failA; rw [hw]; rfl)
  rw [HE.out]
  have H := Lib.hid (h.grow (Below.refl _ _))
  obtain ⟨g, ρ, h⟩ := h
  have HM := Lib.hid (made_s b g most win lock w h.blk)
  clear h
  go_enter Try.func8, Try.ntmps8
  go_wp2_with fail
  refine HM.out.mono ?_
  rintro e w' ⟨rfl, rfl⟩
  go_wp2_with fail
  refine (word_k u false _ hu hw).mono ?_
  rintro e w' ⟨rfl, rfl⟩
  go_wp2_with fail
  refine bodyPost_ret (results_none rfl _ _ _) rfl ?_
  exact ⟨rfl, H.out, Fo.refl _ _⟩
set_option maxHeartbeats 4000000 in
theorem fail_full (S : Nat → Prop) (b : Nat) (most win lock : Int) (A : Us) (u : ByteArray) (now : Int) (w : World) (h : LK w S b most win lock A) (hu : u.size ≤ 1000000000) (hw : wordB u = true) (hk : usO A u = none) (hl : 256 ≤ A.length) :
    Calls Try.prog 8 #[.pointer (some ⟨b, 0, none⟩), .string u, .int .i64 now] w fun e w' => e = .returned (.tuple #[]) ∧ LK w' (nw S w w') b most win lock (failA most win lock A u now) ∧ Fo S w w' := by
  have HE := Lib.hid (show failA most win lock A u now = A by unfold failA; rw [hw, hk]; simp [hl])
  rw [HE.out]
  have HBx := Lib.hid (box_below w (.cells #[.slice none 0 0, .int .i64 0] 59))
  have H := Lib.hid (h.grow HBx.out)
  obtain ⟨g, ρ, h⟩ := h
  have HM := Lib.hid (made_s b g most win lock w h.blk)
  have HLook : (Instr.lookup 50 (.map (some g)) (.string u) true).run Try.prog w = .ok (.tuple #[.agg #[.slice none 0 0, .int .i64 0], .bool false]) w := by
    have := h.look_ok u hu
    rw [show usF A ρ u = none by unfold usF; rw [hk]; rfl, hk] at this
    exact this
  have c4 := h.flat.2.2.2.2
  have c5 := (h.step HBx.out).flat.2.2.2.2
  have HMap := Lib.hid (h.step HBx.out).map
  have hlen := h.ok.len
  have d1 : (256 : Int) ≤ (A.length : Int) := by omega
  have hlm := fun ty => HMap.out.len (e := 59) Try.underlying50 ty
  clear h hk
  go_enter Try.func8, Try.ntmps8
  go_wp2_with fail
  refine HM.out.mono ?_
  rintro e w' ⟨rfl, rfl⟩
  go_wp2_with fail
  refine (word_k u true _ hu hw).mono ?_
  rintro e w' ⟨rfl, rfl⟩
  go_wp2_with fail
  refine bodyPost_ret (results_none rfl _ _ _) rfl ?_
  exact ⟨rfl, H.out, Fo.of_below HBx.out⟩

end Go.Proofs.Ytclecajbcmmddaa
