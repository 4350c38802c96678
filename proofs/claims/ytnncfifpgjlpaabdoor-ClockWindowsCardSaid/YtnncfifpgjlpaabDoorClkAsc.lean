/-
  Contracts of slices.Clone and slices.DeleteFunc at windows, as clock.ascending calls them. Condition: at most 1000 windows.
-/
import Derived.Test.YtnncfifpgjlpaabDoorClkIns0
import Derived.Test.YtnncfifpgjlpaabDoorShelfF
import Derived.Lib.SliceRun
import Derived.Lib.SlBy
set_option linter.unusedVariables false
set_option linter.unusedSimpArgs false
set_option linter.unnecessarySimpa false
namespace Go.Proofs.YtnncfifpgjlpaabDoor
open Go.RowKit Go.PlainAid Go.Shelf

def encW (x : Wn) : List Value := [.int .i64 x.1, .int .i64 x.2]
def emptyB (x : Wn) : Bool := decide (x.2 ≤ x.1)
def keepB (x : Wn) : Bool := !emptyB x
theorem get_wn (l : List Wn) (j : Nat) : l[j]! = wnAt l j := by
  unfold wnAt
  rw [List.getD_eq_getElem?_getD, List.getElem!_eq_getElem?_getD]
  rfl
theorem first_hit (p : Nat → Bool) : ∀ n, (∀ j, j < n → p j = false) ∨ ∃ k, k < n ∧ p k = true ∧ ∀ j, j < k → p j = false
  | 0 => .inl fun j hj => absurd hj (Nat.not_lt_zero _)
  | n + 1 => by
    rcases first_hit p n with h | ⟨k, h1, h2, h3⟩
    · cases hn : p n with
      | true => exact .inr ⟨n, by omega, hn, h⟩
      | false => exact .inl fun j hj => if e : j = n then by rw [e]; exact hn else h j (by omega)
    · exact .inr ⟨k, by omega, h2, h3⟩

set_option maxHeartbeats 2000000 in
theorem clone_s (ao : Option Addr) (n cap : Nat) (ps : List Wn) (w : World) (h : WinsAt w ao n cap ps) (hn : n ≤ 1000) (h0 : ao = none → n = 0 ∧ cap = 0) :
    Calls Tryd.prog 46 #[.slice ao n cap] w fun e w' => ∃ v, e = .returned v ∧ w'.ownsRow w.heap.size 27 2 v n (wcells ps) ∧ Below w.heap.size w w' := by
  have q22 : ∀ (w : World) (a : Option Addr) (n c n' c' : Nat), (binOp .eql 32 (.slice a n c) (.slice none n' c')).run Tryd.prog w = .ok (.bool a.isNone) w := fun w a n c n' c' => Lib.run_eql_slice_nil w _ _ a n c n' c' Tryd.underlying32
  cases ao with
  | none =>
    obtain ⟨rfl, rfl⟩ := h0 rfl
    have hp : ps = [] := List.length_eq_zero_iff.1 h.1
    subst hp
    have HO := Lib.hid (World.ownsRow_nil w w.heap.size 27 2)
    clear h h0
    go_enter Tryd.func46, Tryd.ntmps46
    go_wp2
    go_ret
    exact ⟨_, rfl, HO.out, Below.refl _ _⟩
  | some ad =>
    have H := Lib.hid h
    clear h h0
    have HO := Lib.hid (World.ownsRow_made (size := 2) (e := 27) (base := w.heap.size) w #[] 0 (Nat.le_refl _) (Nat.zero_le _) rfl)
    have HB := Lib.hid ((Below.refl w.heap.size w).alloc (Nat.le_refl _) (.cells #[] 27))
    go_enter Tryd.func46, Tryd.ntmps46
    go_wp2_with (at_builtin; refine app_wins (w.alloc _) HO.out (.tmp 5) (.tmp 6) (some ad) n cap ps ?_ ?_ ?_ ?_ ?_ ?_ ?_ ?_ ?_; exact rfl; exact rfl; exact rfl; exact rfl; exact (H.out.below HB.out); (intro e; cases e); exact (by omega); exact HB.out.size; intro v2 W2 hown2 hb2)
    go_ret
    rw [Nat.zero_add, List.nil_append] at hown2
    exact ⟨_, rfl, hown2, HB.out.trans hb2⟩

set_option maxHeartbeats 2000000 in
theorem index_nil (fv : Value) (w : World) :
    Calls Tryd.prog 58 #[.slice none 0 0, fv] w fun e w' => e = .returned (.int .i64 (-1)) ∧ w = w' := by
  go_enter Tryd.func58, Tryd.ntmps58
  go_wp2
  refine wp_loop_rounds 1 ?_
  rw [rounds_succ]
  go_wp2
  go_ret
  exact ⟨rfl, rfl⟩
set_option maxHeartbeats 2000000 in
theorem delete_nil (w : World) :
    Calls Tryd.prog 45 #[.slice none 0 0, .func (.func 33) #[] #[]] w fun e w' => e = .returned (.slice none 0 0) ∧ w = w' := by
  go_enter Tryd.func45, Tryd.ntmps45
  go_wp2_with fail
  refine (index_nil _ _).mono ?_
  rintro e w' ⟨rfl, rfl⟩
  go_wp2
  go_ret
  exact ⟨rfl, rfl⟩

theorem empty_pred (w : World) : PredBelow Tryd.prog 33 #[] (fun x => .agg (encW x).toArray) emptyB w := fun W x hb =>
  (empty_s x.1 x.2 W).mono fun e w' h => ⟨h.1, by rw [h.2]; exact hb.alloc hb.size _⟩
theorem index_own (w : World) (base g n cap : Nat) (zs : List Wn) (h : w.ownsRow base 27 2 (.slice (some ⟨g, 0, none⟩) n cap) n (wcells zs)) (hn : n ≤ 1000) :
    Calls Tryd.prog 58 #[.slice (some ⟨g, 0, none⟩) n cap, .func (.func 33) #[] #[]] w fun e w' => e = .returned (.int .i64 (Lib.idxBy (fun _ y => emptyB y) (zs.take n) default)) ∧ Below w.heap.size w w' := by
  have eg : ∀ args w, (callFunc 33 args).run Tryd.prog w = .ok (.enter 33 args) w := enters_of Tryd.func33 (by kernel_rfl) rfl
  have hl := own_len h
  have hg := (h.lt g rfl).2
  exact AnyQ.slices_IndexFunc Tryd.layH6 2 Tryd.isAgg27 Tryd.sizeOf27 encW (fun _ => rfl) emptyB 33 #[] eg g 0 n cap zs w (empty_pred w) (by omega) (by omega) hg (fun j hj i v hi => by
    have h1 := own_cellsAt h j (by omega)
    rw [get_wn] at hi
    match i, hi with
    | 0, hi =>
      simp [encW] at hi
      rw [← hi, show 0 + j * 2 + 0 = j * 2 by omega]; exact h1.1
    | 1, hi =>
      simp [encW] at hi
      rw [← hi, show 0 + j * 2 + 1 = j * 2 + 1 by omega]; exact h1.2
    | i + 2, hi => simp [encW] at hi)

end Go.Proofs.YtnncfifpgjlpaabDoor
