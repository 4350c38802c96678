/-
  Contract of the locks' Fail, whole, and of nil locks. Condition: the locks lie in memory as SecM says; names of at most 1000000000 bytes.
-/
import Derived.Test.YtclecajbcmmddaaSecW
set_option maxRecDepth 100000
set_option maxRecDepth 100000
set_option linter.unusedVariables false
set_option linter.unusedSimpArgs false
set_option linter.unnecessarySimpa false
namespace Go.Proofs.Ytclecajbcmmddaa
open Go.RowKit Go.PlainAid

theorem fail_s (S : Nat → Prop) (b : Nat) (most win lock : Int) (A : Us) (u : ByteArray) (now : Int) (w : World) (h : LK w S b most win lock A) (hu : u.size ≤ 1000000000) :
    Calls Try.prog 8 #[.pointer (some ⟨b, 0, none⟩), .string u, .int .i64 now] w fun e w' => e = .returned (.tuple #[]) ∧ LK w' (nw S w w') b most win lock (failA most win lock A u now) ∧ Fo S w w' := by
  cases hw : wordB u
  · exact fail_noword S b most win lock A u now w h hu hw
  · cases hk : usO A u with
    | none =>
      rcases Nat.lt_or_ge A.length 256 with hl | hl
      · exact fail_main S b most win lock A u now w h hu hw (.inr hl)
      · exact fail_full S b most win lock A u now w h hu hw hk hl
    | some r => exact fail_main S b most win lock A u now w h hu hw (.inl (by rw [hk]; rfl))
theorem fail_k (S : Nat → Prop) (b : Nat) (most win lock : Int) (A A' : Us) (u : ByteArray) (now : Int) (w : World) (h : LK w S b most win lock A) (hu : u.size ≤ 1000000000) (hA : failA most win lock A u now = A') :
    Calls Try.prog 8 #[.pointer (some ⟨b, 0, none⟩), .string u, .int .i64 now] w fun e w' => e = .returned (.tuple #[]) ∧ LK w' (nw S w w') b most win lock A' ∧ Fo S w w' := hA ▸ fail_s S b most win lock A u now w h hu
theorem clear_k (S : Nat → Prop) (b : Nat) (most win lock : Int) (A A' : Us) (u : ByteArray) (w : World) (h : LK w S b most win lock A) (hu : u.size ≤ 1000000000) (hA : clearA A u = A') :
    Calls Try.prog 10 #[.pointer (some ⟨b, 0, none⟩), .string u] w fun e w' => e = .returned (.tuple #[]) ∧ LK w' S b most win lock A' ∧ Fo S w w' := hA ▸ clear_s S b most win lock A u w h hu
/-- locks of the call's own: what they have changed lies above W -/
structure LO (W : World) (b : Nat) (most win lock : Int) (A : Us) (w : World) : Prop where
  lk : LK w (fun i => W.heap.size ≤ i ∧ i < w.heap.size) b most win lock A
  low : Below W.heap.size W w
section
variable {W w w' : World} {b : Nat} {most win lock : Int} {A A' : Us}
theorem LO.step (h : LO W b most win lock A w) (hb : Below w.heap.size w w') : LO W b most win lock A w' :=
  ⟨(h.lk.step hb).mono fun i hi => ⟨hi.1, Nat.lt_of_lt_of_le hi.2 hb.size⟩, h.low.trans (hb.mono h.low.size)⟩
theorem LO.move {S : Nat → Prop} (h : LO W b most win lock A w) (hl : LK w' S b most win lock A') (hS : ∀ i, S i → (W.heap.size ≤ i ∧ i < w.heap.size) ∨ (w.heap.size ≤ i ∧ i < w'.heap.size)) (hf : Fo (fun i => W.heap.size ≤ i ∧ i < w.heap.size) w w') : LO W b most win lock A' w' :=
  ⟨hl.mono fun i hi => by
    have h1 := hf.size
    have h2 := h.low.size
    rcases hS i hi with k | k <;> omega, h.low.trans (hf.below (fun i hi => hi.1) h.low.size)⟩
theorem LO.fail (h : LO W b most win lock A w) (hl : LK w' (nw (fun i => W.heap.size ≤ i ∧ i < w.heap.size) w w') b most win lock A') (hf : Fo (fun i => W.heap.size ≤ i ∧ i < w.heap.size) w w') : LO W b most win lock A' w' := h.move hl (fun i hi => hi) hf
theorem LO.clear (h : LO W b most win lock A w) (hl : LK w' (fun i => W.heap.size ≤ i ∧ i < w.heap.size) b most win lock A') (hf : Fo (fun i => W.heap.size ≤ i ∧ i < w.heap.size) w w') : LO W b most win lock A' w' := h.move hl (fun i hi => .inl hi) hf
end
theorem newLocks_k (most win lock x y : Int) (w : World) (hx : limI win = x) (hy : limI lock = y) (h : LkN most x y) :
    Calls Try.prog 6 #[.int .i64 most, .int .i64 win, .int .i64 lock] w fun e w' => ∃ b, e = .returned (.tuple #[.pointer (some ⟨b, 0, none⟩), .int .i64 0]) ∧ LO w b most x y [] w' :=
  (newLocks_s most win lock x y w hx hy h).mono fun e w' ⟨b, he, hl, hb⟩ => ⟨b, he, hl, hb⟩
/-! ### at nil locks -/
theorem nfail (u : ByteArray) (n : Int) (w : World) :
    Calls Try.prog 8 #[.pointer none, .string u, .int .i64 n] w fun e w' => e = .returned (.tuple #[]) ∧ w = w' := by
  go_enter Try.func8, Try.ntmps8
  go_wp2_with fail
  refine (made_nil _).mono ?_
  rintro e w' ⟨rfl, rfl⟩
  go_wp2_with fail
  refine bodyPost_ret (results_none rfl _ _ _) rfl ?_
  exact ⟨rfl, rfl⟩
theorem nclear (u : ByteArray) (w : World) :
    Calls Try.prog 10 #[.pointer none, .string u] w fun e w' => e = .returned (.tuple #[]) ∧ w = w' := by
  go_enter Try.func10, Try.ntmps10
  go_wp2_with fail
  refine (made_nil _).mono ?_
  rintro e w' ⟨rfl, rfl⟩
  go_wp2_with fail
  go_end0
  exact ⟨rfl, rfl⟩
theorem nfails (u : ByteArray) (n : Int) (w : World) :
    Calls Try.prog 14 #[.pointer none, .string u, .int .i64 n] w fun e w' => e = .returned (.int .i64 0) ∧ w = w' := by
  go_enter Try.func14, Try.ntmps14
  go_wp2_with fail
  refine (made_nil _).mono ?_
  rintro e w' ⟨rfl, rfl⟩
  go_wp2_with fail
  go_ret
  exact ⟨rfl, rfl⟩

end Go.Proofs.Ytclecajbcmmddaa
