/-
  Contracts of slices.ContainsFunc at numbers, csn.Covers, Within and its closure. Condition: none beyond that a slice fits its capacity.
-/
import Derived.Test.YtcnhkoijphfibaaDoorCsnC2
set_option maxRecDepth 100000
set_option linter.unusedVariables false
set_option linter.unusedSimpArgs false
set_option linter.unnecessarySimpa false
namespace Go.Proofs.YtcnhkoijphfibaaDoor
open Go.RowKit Go.PlainAid Go.Shelf

set_option maxHeartbeats 2000000 in
theorem idx_none (ao : Option Addr) (cap : Nat) (fv : Value) (w : World) :
    Calls Tryd.prog 58 #[.slice ao 0 cap, fv] w fun e w' => e = .returned (.int .i64 (-1)) ∧ w = w' := by
  go_enter Tryd.func58, Tryd.ntmps58
  go_wp2
  refine wp_loop_rounds 1 ?_
  rw [rounds_succ]
  go_wp2
  go_ret
  exact ⟨rfl, rfl⟩
theorem has_none (ao : Option Addr) (cap : Nat) (fv : Value) (w : World) :
    Calls Tryd.prog 46 #[.slice ao 0 cap, fv] w fun e w' => e = .returned (.bool false) ∧ w = w' := by
  go_enter Tryd.func46, Tryd.ntmps46
  go_wp2_with fail
  refine (idx_none _ _ _ _).mono ?_
  rintro e w' ⟨rfl, rfl⟩
  go_wp2
  go_ret
  exact ⟨rfl, rfl⟩
theorem has_s (ao : Option Addr) (n cap : Nat) (l : List Cn) (p : Cn → Bool) (g : Nat) (lb : Array Value) (w : World) (h : CnsAt w ao n cap l)
    (eg : ∀ args w, (callFunc g args).run Tryd.prog w = .ok (.enter g args) w) (hp : PredBelow Tryd.prog g lb (fun x => .agg (encC x).toArray) p w) :
    Calls Tryd.prog 46 #[.slice ao n cap, .func (.func g) #[] lb] w fun e w' => e = .returned (.bool (l.any p)) ∧ Below w.heap.size w w' := by
  obtain ⟨h1, h2, h3, h4, h5⟩ := h
  subst h1
  unfold maxLen at h3
  by_cases h0 : 0 < l.length
  · obtain ⟨b, off, rfl, hb, hs⟩ := h4 h0
    have := AnyQ.slices_ContainsFunc Tryd.layH8 3 Tryd.isAgg23 Tryd.sizeOf23 encC (fun _ => rfl) p g lb eg b off l.length cap l w hp (Nat.le_refl _) (by omega) hb (fun j hj i v hi => by
      have hk := hs j hj
      rw [get_cn] at hi
      match i, hi with
      | 0, hi => simp [encC] at hi; rw [← hi]; exact hk.1
      | 1, hi => simp [encC] at hi; rw [← hi]; exact hk.2.1
      | 2, hi => simp [encC] at hi; rw [← hi]; exact hk.2.2
      | i + 3, hi => simp [encC] at hi)
    rw [List.take_length] at this
    exact this
  · have e0 : l = [] := List.length_eq_zero_iff.1 (by omega)
    subst e0
    exact (has_none ao cap _ w).mono fun e w' h => ⟨h.1, by rw [← h.2]; exact Below.refl _ _⟩
theorem cov1_pred (b : Nat) (c : Cn) (w : World) (hk : KbC w b (cnB c)) : PredBelow Tryd.prog 48 #[.pointer (some ⟨b, 0, none⟩)] (fun x => .agg (encC x).toArray) (cvP c) w := fun W x hb =>
  (cov1_s b c x W (hk.step hb)).mono fun e w' h => ⟨h.1, hb.trans (h.2.mono hb.size)⟩
theorem cov1_enter : ∀ args w, (callFunc 48 args).run Tryd.prog w = .ok (.enter 48 args) w := enters_of Tryd.func48 (by kernel_rfl) rfl
set_option maxHeartbeats 4000000 in
theorem covers_s (ao : Option Addr) (n cap : Nat) (l : List Cn) (c : Cn) (w : World) (h : CnsAt w ao n cap l) :
    Calls Tryd.prog 28 #[.slice ao n cap, cnV c] w fun e w' => e = .returned (.bool (covC l c)) ∧ Below w.heap.size w w' := by
  have H := Lib.hid h
  clear h
  have HCv := Lib.hid (show covC l c = (decide (Vld c) && (vecO l).any (cvP c)) from rfl)
  have HBx := Lib.hid (KbC.step (kbc_new w (cnB c)) (box_below (w.alloc (cnB c)) (cnB c)))
  have HB := Lib.hid (below_allocs [cnB c, cnB c] _ _ _ (Below.refl w.heap.size w) (Nat.le_refl _))
  have HPr := Lib.hid (fun V (hb : KbC V w.heap.size (cnB c)) => cov1_pred w.heap.size c V hb)
  obtain ⟨t, s, r⟩ := c
  show Calls _ _ #[.slice ao n cap, .agg #[.int .i64 t, .int .i64 s, .int .i64 r]] w _
  have hv1 := vld_k (t, s, r)
  dsimp only at hv1
  unfold cnB at HB
  dsimp only [List.foldl] at HB
  cases hv : vldC (t, s, r)
  · have HF := Lib.hid (show covC l (t, s, r) = false by rw [HCv.out, show decide (Vld (t, s, r)) = false from hv]; rfl)
    go_enter Tryd.func28, Tryd.ntmps28
    go_wp2_with fail
    refine (hv1 _ _ hv).mono ?_
    rintro e w' ⟨rfl, rfl⟩
    go_wp2_with fail
    go_ret
    exact ⟨by rw [HF.out]; rfl, HB.out⟩
  · have HF := Lib.hid (show covC l (t, s, r) = (vecO l).any (cvP (t, s, r)) by rw [HCv.out, show decide (Vld (t, s, r)) = true from hv]; rfl)
    go_enter Tryd.func28, Tryd.ntmps28
    go_wp2_with fail
    refine (hv1 _ _ hv).mono ?_
    rintro e w' ⟨rfl, rfl⟩
    go_wp2_with fail
    refine (vector_s ao n cap l _ (H.out.below HB.out)).mono ?_
    rintro e w1 ⟨bo, m, dap, rfl, hvo, hb⟩
    have HW := Lib.hid (HB.out.trans (hb.mono HB.out.size))
    have HK := Lib.hid (HBx.out.step hb)
    have HVo := Lib.hid hvo
    have HCl := Lib.hid (has_s bo m dap (vecO l) (cvP (t, s, r)) 48 #[.pointer (some ⟨w.heap.size, 0, none⟩)] w1 hvo cov1_enter (HPr.out _ HK.out))
    clear hvo hb
    go_wp2_with fail
    refine HCl.out.mono ?_
    rintro e w2 ⟨rfl, hb⟩
    go_wp2_with fail
    go_ret
    exact ⟨by rw [HF.out]; rfl, HW.out.trans (hb.mono HW.out.size)⟩

/-! ### Within -/
def wnO (ao : Option Addr) (n cap : Nat) : Obj := .cells #[.slice ao n cap] 39
theorem wit1_s (b : Nat) (ao : Option Addr) (n cap : Nat) (l : List Cn) (c : Cn) (w : World) (hk : KbC w b (wnO ao n cap)) (h : CnsAt w ao n cap l) :
    Calls Tryd.prog 52 #[cnV c, .pointer (some ⟨b, 0, none⟩)] w fun x w' => x = .returned (.bool (!covC l c)) ∧ Below w.heap.size w w' := by
  have H := Lib.hid h
  clear h
  have hne : b ≠ w.heap.size := by have := hk.big; omega
  have HCv := Lib.hid (fun W (h : CnsAt W ao n cap l) => covers_s ao n cap l c W h)
  have HB := Lib.hid (box_below w (cnB c))
  obtain ⟨z, hz⟩ : ∃ z, covC l c = z := ⟨_, rfl⟩
  rw [hz] at HCv ⊢
  obtain ⟨t, s, r⟩ := c
  have z0 : w.cell? ⟨b, 0, none⟩ = some (.slice ao n cap) := hk.cell rfl
  have z1 : (w.alloc (cnB (t, s, r))).cell? ⟨b, 0, none⟩ = some (.slice ao n cap) := (hk.step (box_below w (cnB (t, s, r)))).cell rfl
  unfold cnB at HB z1
  dsimp only at HB z1
  show Calls _ _ #[.agg #[.int .i64 t, .int .i64 s, .int .i64 r], .pointer (some ⟨b, 0, none⟩)] w _
  go_enter Tryd.func52, Tryd.ntmps52
  go_wp2_with fail
  refine (HCv.out _ (H.out.below HB.out)).mono ?_
  rintro e w' ⟨rfl, hb⟩
  go_wp2_with fail
  go_ret
  exact ⟨rfl, HB.out.trans (hb.mono HB.out.size)⟩
theorem wit1_enter : ∀ args w, (callFunc 52 args).run Tryd.prog w = .ok (.enter 52 args) w := enters_of Tryd.func52 (by kernel_rfl) rfl
theorem any_not (p : Cn → Bool) : ∀ l : List Cn, (!l.any fun c => !p c) = l.all p
  | [] => rfl
  | c :: l => by
    have := any_not p l
    rw [List.any_cons, List.all_cons, ← this]
    cases p c <;> simp
set_option maxHeartbeats 4000000 in
theorem within_s (ao bo : Option Addr) (n m cap dap : Nat) (l k : List Cn) (w : World) (h : CnsAt w ao n cap l) (hk : CnsAt w bo m dap k) :
    Calls Tryd.prog 34 #[.slice ao n cap, .slice bo m dap] w fun e w' => e = .returned (.bool (witC l k)) ∧ Below w.heap.size w w' := by
  have H := Lib.hid h
  have HK := Lib.hid hk
  clear h hk
  have HF := Lib.hid (show (!(vecO l).any fun c => !covC k c) = witC l k from any_not _ _)
  have HBx := Lib.hid (kbc_new w (wnO bo m dap))
  have HB := Lib.hid (box_below w (wnO bo m dap))
  unfold wnO at HB
  go_enter Tryd.func34, Tryd.ntmps34
  go_wp2_with fail
  refine (vector_s ao n cap l _ (H.out.below HB.out)).mono ?_
  rintro e w1 ⟨xo, q, xc, rfl, hvo, hb⟩
  have HW := Lib.hid (HB.out.trans (hb.mono HB.out.size))
  have HKb := Lib.hid (HBx.out.step hb)
  have HCl := Lib.hid (has_s xo q xc (vecO l) (fun c => !covC k c) 52 #[.pointer (some ⟨w.heap.size, 0, none⟩)] w1 hvo wit1_enter (fun W x hbW =>
    (wit1_s w.heap.size bo m dap k x W (HKb.out.step hbW) ((HK.out.below HW.out).below hbW)).mono fun e w' h => ⟨h.1, hbW.trans (h.2.mono hbW.size)⟩))
  clear hvo hb
  go_wp2_with fail
  refine HCl.out.mono ?_
  rintro e w2 ⟨rfl, hb⟩
  go_wp2_with fail
  go_ret
  exact ⟨by rw [← HF.out]; rfl, HW.out.trans (hb.mono HW.out.size)⟩

end Go.Proofs.YtcnhkoijphfibaaDoor
