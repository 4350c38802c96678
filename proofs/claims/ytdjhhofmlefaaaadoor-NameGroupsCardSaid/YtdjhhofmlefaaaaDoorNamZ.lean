/-
  Contracts of Child and Rebase in the program and in the specification. Condition: at most 1000000 bytes.
-/
import Derived.Test.YtdjhhofmlefaaaaDoorNamY
set_option linter.unusedVariables false
set_option linter.unusedSimpArgs false
set_option linter.unnecessarySimpa false
namespace Go.Proofs.YtdjhhofmlefaaaaDoor
open Go.RowKit Go.PlainAid

theorem own_none {w : World} {base n cap size : Nat} {e : TypeId} {ao : Option Addr} {xs : List Value} (h : w.ownsRow base e size (.slice ao n cap) n xs) : ao = none → cap = 0 := fun e0 => by
  subst e0
  rcases h.2 with ⟨h1, _⟩ | ⟨g, c2, cur, h1, _⟩
  · injection h1
  · injection h1 with a; cases a
theorem small_cons {l : List Pr} {p : Pr} (h : Small l) (h8 : l.length ≤ 8) (h1 : p.1.size ≤ 1000000) (h2 : p.2.size ≤ 1000000) : Small (p :: l) := small_of _ (by simp; omega) fun q hq => by
  rcases List.mem_cons.1 hq with rfl | hq
  · exact ⟨h1, h2⟩
  · exact h.mem q hq
theorem small_app {l m : List Pr} (h : Small l) (k : Small m) (hn : l.length + m.length ≤ 1000) : Small (l ++ m) := small_of _ (by simp; omega) fun q hq => by
  rcases List.mem_append.1 hq with hq | hq
  · exact h.mem q hq
  · exact k.mem q hq

set_option maxRecDepth 100000 in
set_option maxHeartbeats 4000000 in
theorem child_s (s : ByteArray) (p : Pr) (w : World) (hs : s.size ≤ 1000000) (h1 : p.1.size ≤ 1000000) (h2 : p.2.size ≤ 1000000) :
    Calls Tryd.prog 27 #[.string s, .agg #[.string p.1, .string p.2]] w fun e w' => e = .returned (.tuple #[.string (childV s p), .int .i64 (childE s p)]) ∧ Below w.heap.size w w' := by
  have h8 := compsV_few s
  have HSM := Lib.hid (small_cons (p := p) (small_comps s) h8 h1 h2)
  have HC := Lib.hid (show (normB s = true → childE s p = fmtE (p :: compsV s) ∧ childV s p = fmtV (p :: compsV s)) ∧ (normB s = false → childE s p = 4 ∧ childV s p = ByteArray.empty) by
    unfold childE childV; refine ⟨fun h => ?_, fun h => ?_⟩ <;> (rw [h]; exact ⟨rfl, rfl⟩))
  go_enter Tryd.func27, Tryd.ntmps27
  go_wp2_with fail
  refine (components_s s _ hs).mono ?_
  rintro e w1 ⟨v, rfl, hown, hb1⟩
  have B1 := (pbox_new w p).below hb1
  have L1 := below_next (below_new _) hb1
  obtain ⟨ao, cap, rfl⟩ := own_slice hown
  have HL := Lib.hid (show (compsV s).length = (compsV s).length from rfl)
  obtain ⟨l, hl⟩ : ∃ l, compsV s = l := ⟨_, rfl⟩
  rw [hl] at hown HSM HC h8 ⊢
  clear HL hl
  cases c : normB s
  · have HF := Lib.hid (HC.out.2 c)
    clear c
    go_wp2
    go_ret2
    exact ⟨by rw [HF.out.1, HF.out.2]; rfl, L1⟩
  · have HF := Lib.hid (HC.out.1 c)
    clear c
    obtain ⟨c0, c1⟩ := B1.cells
    have HP := Lib.hid (pbox_new w1 p)
    have hown1 := hown.alloc (.cells #[.string p.1, .string p.2] 36)
    have hgn : ∀ g, ao = some ⟨g, 0, none⟩ → g ≠ w1.heap.size := fun g e => by
      subst e
      have := (hown.lt g rfl).2; omega
    have hbs : (w.alloc (.cells #[.string p.1, .string p.2] 36)).heap.size ≤ (w1.alloc (.cells #[.string p.1, .string p.2] 36)).heap.size := by
      have := hb1.size; rw [World.size_alloc w1]; omega
    have HB := Lib.hid hbs
    have HW := Lib.hid hb1
    clear hown
    go_wp2_with fail
    refine (insert_s _ _ l.length cap ao l p w1.heap.size hown1 HP.out hgn rfl (by omega) HB.out).mono ?_
    rintro e w2 ⟨xo, dap, rfl, hat, hb2⟩
    have L2 := below_next (below_new _) (HW.out.trans (Below.trans ((below_new _).mono HW.out.size) hb2))
    go_wp2_with fail
    refine (format_s xo _ dap (p :: l) _ hat HSM.out).mono ?_
    rintro e w3 ⟨rfl, hb3⟩
    go_wp2
    go_ret2
    exact ⟨by rw [HF.out.1, HF.out.2]; rfl, below_next L2 hb3⟩

set_option maxRecDepth 100000 in
set_option maxHeartbeats 4000000 in
theorem rchild_s (s : ByteArray) (p : Pr) (w : World) (hs : s.size ≤ 1000000) (h1 : p.1.size ≤ 1000000) (h2 : p.2.size ≤ 1000000) :
    Calls Tryd.prog 28 #[.string s, .agg #[.string p.1, .string p.2]] w fun e w' => e = .returned (.tuple #[.string (childV s p), .int .i64 (childE s p)]) ∧ Below w.heap.size w w' := by
  have h8 := compsV_few s
  have HSM := Lib.hid (small_cons (p := p) (small_comps s) h8 h1 h2)
  have HC := Lib.hid (show (normB s = true → childE s p = fmtE (p :: compsV s) ∧ childV s p = fmtV (p :: compsV s)) ∧ (normB s = false → childE s p = 4 ∧ childV s p = ByteArray.empty) by
    unfold childE childV; refine ⟨fun h => ?_, fun h => ?_⟩ <;> (rw [h]; exact ⟨rfl, rfl⟩))
  go_enter Tryd.func28, Tryd.ntmps28
  go_wp2_with fail
  refine (rparts_s s _ hs).mono ?_
  rintro e w1 ⟨v, rfl, hown, hb1⟩
  have B1 := (pbox_new w p).below hb1
  have L1 := below_next (below_new _) hb1
  obtain ⟨ao, cap, rfl, hat0⟩ := pairs_own hown rfl
  have hnc := own_none hown
  obtain ⟨l, hl⟩ : ∃ l, compsV s = l := ⟨_, rfl⟩
  rw [hl] at hat0 HSM HC h8 ⊢
  clear hl hown
  cases c : normB s
  · have HF := Lib.hid (HC.out.2 c)
    clear c
    go_wp2
    go_ret2
    exact ⟨by rw [HF.out.1, HF.out.2]; rfl, L1⟩
  · have HF := Lib.hid (HC.out.1 c)
    clear c
    obtain ⟨c0, c1⟩ := B1.cells
    have hown1 := own_new1 w1 p
    have HA := Lib.hid (hat0.below (below_new (w := w1) (.cells #[.string p.1, .string p.2] 36)))
    have hbs : w1.heap.size ≤ (w1.alloc (.cells #[.string p.1, .string p.2] 36)).heap.size := by rw [World.size_alloc]; omega
    have HB := Lib.hid hbs
    clear hat0
    go_wp2_with (at_builtin; refine app_pairs _ hown1 (.tmp 16) (.tmp 17) ao l.length cap l ?_ ?_ ?_ ?_ ?_ ?_ ?_ ?_ ?_; exact rfl; exact rfl; exact rfl; exact rfl; exact HA.out; exact hnc; omega; exact HB.out; intro v2 w2 own2 hb2)
    obtain ⟨xo, dap, rfl, hat⟩ := pairs_own (l := p :: l) (by rw [pcells_cons]; exact own2) (by simp; omega)
    have L2 := L1.trans (Below.trans ((below_new _).mono L1.size) (hb2.mono L1.size))
    go_wp2_with fail
    refine (rformat_s xo _ dap (p :: l) _ hat HSM.out).mono ?_
    rintro e w3 ⟨rfl, hb3⟩
    go_wp2
    go_ret2
    exact ⟨by rw [HF.out.1, HF.out.2]; rfl, below_next L2 hb3⟩

end Go.Proofs.YtdjhhofmlefaaaaDoor
