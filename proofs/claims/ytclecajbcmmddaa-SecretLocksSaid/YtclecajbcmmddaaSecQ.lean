/-
  Contracts of secret's Make and Valid, and of the specification's. Condition: at most 1000000 bytes.
-/
import Derived.Test.YtclecajbcmmddaaSecP
import Derived.WalkMore
set_option maxRecDepth 100000
set_option maxRecDepth 100000
set_option linter.unusedVariables false
set_option linter.unusedSimpArgs false
set_option linter.unnecessarySimpa false
namespace Go.Proofs.Ytclecajbcmmddaa
open Go.RowKit Go.PlainAid

def vfO (a : ByteArray) (r : Int) (h : ByteArray) : Obj := .cells #[.string a, .int .i64 r, .string h] 40
theorem KbC.set3 {W : World} {b : Nat} {x y z u v q : Value} {t : TypeId} (h : KbC W b (.cells #[x, y, z] t)) : KbC (((W.setCell ⟨b, 0, none⟩ u).setCell ⟨b, 1, none⟩ v).setCell ⟨b, 2, none⟩ q) b (.cells #[u, v, q] t) := ((h.set u).set v).set q
theorem below_set3 {B : Nat} {w W : World} (h : Below B w W) {b : Nat} (hB : B ≤ b) (u v q : Value) : Below B w (((W.setCell ⟨b, 0, none⟩ u).setCell ⟨b, 1, none⟩ v).setCell ⟨b, 2, none⟩ q) :=
  ((h.setCell (p := ⟨b, 0, none⟩) hB u).setCell (p := ⟨b, 1, none⟩) hB v).setCell (p := ⟨b, 2, none⟩) hB q
theorem make_results (tmps : Array Value) (b : Nat) (cs : Array Value) (t : TypeId) (W : World) (hp : tmps.getD 6 undef = .pointer (some ⟨b, 0, none⟩)) (h : KbC W b (.cells cs t)) (h8 : cs.size = 3) :
    (results Try.f16 tmps).run Try.prog W = .ok (.tuple #[.agg cs, tmps.getD 7 undef]) W := by
  rw [results_cell_tmp rfl, hp]
  have hl := run_loadVar_row (P := Try.prog) W b t 40 cs (0, 0) _ h (by rfl) (by rfl) (by rw [h8]; rfl)
  simp [asAddr, Result.andThen, hl]
/-- the boxes of Make: its result, its verifier -/
structure MkB (w : World) (a : ByteArray) (r : Int) (W : World) : Prop where
  low : Below w.heap.size w W
  res : KbC W w.heap.size (vfO ⟨#[]⟩ 0 ⟨#[]⟩)
  box : KbC W (w.heap.size + 1) (vfO a r ⟨#[]⟩)
theorem MkB.step {w W V : World} {a : ByteArray} {r : Int} (h : MkB w a r W) (hb : Below W.heap.size W V) : MkB w a r V := ⟨h.low.trans (hb.mono h.low.size), h.res.step hb, h.box.step hb⟩
theorem mkB_new (w : World) (a : ByteArray) (r : Int) : MkB w a r ((w.alloc (vfO ⟨#[]⟩ 0 ⟨#[]⟩)).alloc (vfO a r ⟨#[]⟩)) :=
  ⟨(box_below w _).trans ((box_below _ _).mono (by simp)), (kbc_new w _).step (box_below _ _), by
    have := kbc_new (w.alloc (vfO ⟨#[]⟩ 0 ⟨#[]⟩)) (vfO a r ⟨#[]⟩)
    rwa [World.size_alloc] at this⟩
theorem mk_no1 {p a : ByteArray} {r : Int} (h : usB a r = false) : mkV p a r = (⟨#[]⟩, 0, ⟨#[]⟩) ∧ mkE p a r = 2 := by unfold mkV mkE; rw [h]; exact ⟨rfl, rfl⟩
theorem mk_no2 {p a : ByteArray} {r : Int} (h : usB a r = true) (h2 : pwB p = false) : mkV p a r = (⟨#[]⟩, 0, ⟨#[]⟩) ∧ mkE p a r = 4 := by unfold mkV mkE; rw [h, h2]; exact ⟨rfl, rfl⟩
theorem mk_yes {p a : ByteArray} {r : Int} (h : usB a r = true) (h2 : pwB p = true) : mkV p a r = (a, r, iterS a p r) ∧ mkE p a r = 0 := by unfold mkV mkE; rw [h, h2]; exact ⟨rfl, rfl⟩
theorem isPw_k (s : ByteArray) (x : Bool) (w : World) (hs : s.size ≤ 1000000000) (hx : pwB s = x) :
    Calls Try.prog 33 #[.string s] w fun e w' => e = .returned (.bool x) ∧ w = w' := hx ▸ isPw_s s w hs
theorem word_k (s : ByteArray) (x : Bool) (w : World) (hs : s.size ≤ 1000000000) (hx : wordB s = x) :
    Calls Try.prog 25 #[.string s] w fun e w' => e = .returned (.bool x) ∧ w = w' := hx ▸ word_s s w hs
theorem rword_k (s : ByteArray) (x : Bool) (w : World) (hs : s.size ≤ 1000000000) (hx : wordB s = x) :
    Calls Try.prog 29 #[.string s] w fun e w' => e = .returned (.bool x) ∧ w = w' := hx ▸ rWord_s s w hs
set_option maxHeartbeats 4000000 in
theorem make_k (p a h : ByteArray) (r z x : Int) (b : ByteArray) (w : World) (hp : p.size ≤ 1000000) (ha : a.size ≤ 1000000) (h0 : -9223372036854775808 ≤ r) (h1 : r ≤ 9223372036854775807) (hv : mkV p a r = (b, x, h)) (he : mkE p a r = z) :
    Calls Try.prog 16 #[.string p, .string a, .int .i64 r] w fun e w' => e = .returned (.tuple #[.agg #[.string b, .int .i64 x, .string h], .int .i64 z]) ∧ Below w.heap.size w w' := by
  have HM := Lib.hid (mkB_new w a r)
  unfold vfO at HM
  have l0 := HM.out.box.cell (i := 0) rfl
  have l1 := HM.out.box.cell (i := 1) rfl
  have l2 := HM.out.box.cell (i := 2) rfl
  cases hu : usB a r
  · have HF := Lib.hid (mk_no1 (p := p) hu)
    rw [hv, he] at HF
    obtain ⟨f1, f2⟩ := HF.out
    cases f1
    subst f2
    clear HF
    go_enter Try.func16, Try.ntmps16
    go_wp2_with fail
    refine (usable_k a ⟨#[]⟩ r false _ (by omega) hu).mono ?_
    rintro e w1 ⟨rfl, hb⟩
    have HM := Lib.hid (HM.out.step hb)
    clear hb l0 l1 l2
    have g0 := HM.out.res.cell (i := 0) rfl
    have g1 := HM.out.res.cell (i := 1) rfl
    have g2 := HM.out.res.cell (i := 2) rfl
    have gf : ∀ j, w1.frozen? ⟨w.heap.size, j, none⟩ = false := fun j => HM.out.res.frz
    go_wp2_with fail
    exact bodyPost_ret (make_results _ _ _ _ _ rfl (KbC.set3 HM.out.res) rfl) rfl ⟨rfl, below_set3 HM.out.low (Nat.le_refl _) _ _ _⟩
  · cases hq : pwB p
    · have HF := Lib.hid (mk_no2 hu hq)
      rw [hv, he] at HF
      obtain ⟨f1, f2⟩ := HF.out
      cases f1
      subst f2
      clear HF
      go_enter Try.func16, Try.ntmps16
      go_wp2_with fail
      refine (usable_k a ⟨#[]⟩ r true _ (by omega) hu).mono ?_
      rintro e w1 ⟨rfl, hb⟩
      have HM := Lib.hid (HM.out.step hb)
      clear hb l0 l1 l2
      have g0 := HM.out.res.cell (i := 0) rfl
      have g1 := HM.out.res.cell (i := 1) rfl
      have g2 := HM.out.res.cell (i := 2) rfl
      have gf : ∀ j, w1.frozen? ⟨w.heap.size, j, none⟩ = false := fun j => HM.out.res.frz
      go_wp2_with fail
      refine (isPw_k p false _ (by omega) hq).mono ?_
      rintro e w' ⟨rfl, rfl⟩
      go_wp2_with fail
      exact bodyPost_ret (make_results _ _ _ _ _ rfl (KbC.set3 HM.out.res) rfl) rfl ⟨rfl, below_set3 HM.out.low (Nat.le_refl _) _ _ _⟩
    · have HF := Lib.hid (mk_yes hu hq)
      rw [hv, he] at HF
      obtain ⟨f1, f2⟩ := HF.out
      injection f1 with f1 f3
      injection f3 with f3 f4
      subst f1 f2 f3
      have HI := Lib.hid f4.symm
      clear HF f4
      go_enter Try.func16, Try.ntmps16
      go_wp2_with fail
      refine (usable_k b ⟨#[]⟩ x true _ (by omega) hu).mono ?_
      rintro e w1 ⟨rfl, hb⟩
      have HM := Lib.hid (HM.out.step hb)
      clear hb l0 l1 l2
      have l0 := HM.out.box.cell (i := 0) rfl
      have l1 := HM.out.box.cell (i := 1) rfl
      have l2 := HM.out.box.cell (i := 2) rfl
      go_wp2_with fail
      refine (isPw_k p true _ (by omega) hq).mono ?_
      rintro e w' ⟨rfl, rfl⟩
      go_wp2_with fail
      refine (hash_s b ⟨#[]⟩ p h x _ ha hp h0 h1 HI.out).mono ?_
      rintro e w2 ⟨rfl, hb⟩
      have HM := Lib.hid (HM.out.step hb)
      clear hb l0 l1 l2
      have hbx : KbC (w2.setCell ⟨w.heap.size + 1, 2, none⟩ (.string h)) (w.heap.size + 1) (.cells #[.string b, .int .i64 x, .string h] 40) := HM.out.box.set (i := 2) (.string h)
      have k0 := hbx.cell (i := 0) rfl
      have k1 := hbx.cell (i := 1) rfl
      have k2 := hbx.cell (i := 2) rfl
      have hrs : KbC (w2.setCell ⟨w.heap.size + 1, 2, none⟩ (.string h)) w.heap.size (.cells #[.string ⟨#[]⟩, .int .i64 0, .string ⟨#[]⟩] 40) :=
        (Below.heap_setCell w2 ⟨w.heap.size + 1, 2, none⟩ _ w.heap.size (by show w.heap.size ≠ w.heap.size + 1; omega)).trans HM.out.res
      have HL := Lib.hid (HM.out.low.setCell (p := ⟨w.heap.size + 1, 2, none⟩) (Nat.le_succ _) (.string h))
      have c2 := HM.out.box.cell (i := 2) rfl
      have cf : w2.frozen? ⟨w.heap.size + 1, 2, none⟩ = false := HM.out.box.frz
      have g0 := hrs.cell (i := 0) rfl
      have g1 := hrs.cell (i := 1) rfl
      have g2 := hrs.cell (i := 2) rfl
      have gf : ∀ j, (w2.setCell ⟨w.heap.size + 1, 2, none⟩ (.string h)).frozen? ⟨w.heap.size, j, none⟩ = false := fun j => hrs.frz
      have HR := Lib.hid hrs
      clear hbx hrs
      go_wp2_with fail
      exact bodyPost_ret (make_results _ _ _ _ _ rfl (KbC.set3 HR.out) rfl) rfl ⟨rfl, below_set3 HL.out (Nat.le_refl _) _ _ _⟩

end Go.Proofs.Ytclecajbcmmddaa
