/-
  Verifiers as they lie in memory; contracts of Reused in the program and in the specification. Condition: at most 1000000 bytes.
-/
import Derived.Test.YtclecajbcmmddaaSecC
import Derived.Test.YtclecajbcmmddaaShelfF
import Derived.Lib.SliceRun
import Derived.Lib.SlBy
set_option maxRecDepth 100000
set_option maxRecDepth 100000
set_option linter.unusedVariables false
set_option linter.unusedSimpArgs false
set_option linter.unnecessarySimpa false
namespace Go.Proofs.Ytclecajbcmmddaa
open Go.RowKit Go.PlainAid Go.Shelf

def vA (l : List Vf) (j : Nat) : Vf := l.getD j vfZ
def IsVfs (w : World) (b off : Nat) (l : List Vf) : Prop :=
  b < w.heap.size ∧ ∀ j, j < l.length → w.cell? ⟨b, off + j * 3, none⟩ = some (.string (vA l j).1) ∧ w.cell? ⟨b, off + j * 3 + 1, none⟩ = some (.int .i64 (vA l j).2.1) ∧ w.cell? ⟨b, off + j * 3 + 2, none⟩ = some (.string (vA l j).2.2)
theorem IsVfs.below {w w' : World} {b off : Nat} {l : List Vf} (h : IsVfs w b off l) {B : Nat} (hb : Below B w w') (hB : b < B) : IsVfs w' b off l :=
  ⟨Nat.lt_of_lt_of_le h.1 hb.size, fun j hj => by
    rw [hb.cell (p := ⟨b, off + j * 3, none⟩) hB, hb.cell (p := ⟨b, off + j * 3 + 1, none⟩) hB, hb.cell (p := ⟨b, off + j * 3 + 2, none⟩) hB]; exact h.2 j hj⟩
def VfsAt (w : World) (ao : Option Addr) (n cap : Nat) (l : List Vf) : Prop :=
  l.length = n ∧ n ≤ cap ∧ cap ≤ maxLen ∧ (0 < n → ∃ b off, ao = some ⟨b, off, none⟩ ∧ IsVfs w b off l) ∧ (ao = none → cap = 0)
theorem VfsAt.below {w w' : World} {ao : Option Addr} {n cap : Nat} {l : List Vf} (h : VfsAt w ao n cap l) (hb : Below w.heap.size w w') : VfsAt w' ao n cap l :=
  ⟨h.1, h.2.1, h.2.2.1, fun hn => by
    obtain ⟨b, off, e, hi⟩ := h.2.2.2.1 hn
    exact ⟨b, off, e, hi.below hb hi.1⟩, h.2.2.2.2⟩
theorem vfs_nil (w : World) : VfsAt w none 0 0 [] := ⟨rfl, Nat.le_refl _, by unfold maxLen; omega, fun h => absurd h (Nat.lt_irrefl _), fun _ => rfl⟩
theorem vfs_one (w : World) (a h : ByteArray) (r : Int) : VfsAt (w.alloc (vfO a r h)) (some ⟨w.heap.size, 0, none⟩) 1 1 [(a, r, h)] :=
  ⟨rfl, Nat.le_refl _, by decide, fun _ => ⟨_, 0, rfl, by simp, fun j hj => by
    have hj' : j = 0 := by simp at hj; omega
    subst hj'
    exact ⟨(kbc_new w _).cell rfl, (kbc_new w _).cell rfl, (kbc_new w _).cell rfl⟩⟩, fun e => by cases e⟩
/-- verifiers of small strings -/
def SmV (v : Vf) : Prop := v.1.size ≤ 1000000 ∧ v.2.2.size ≤ 1000000
abbrev Vs := { v : Vf // SmV v }
instance : Inhabited Vs := ⟨⟨vfZ, by unfold SmV vfZ; exact ⟨by decide, by decide⟩⟩⟩
def encV (x : Vs) : List Value := [.string x.1.1, .int .i64 x.1.2.1, .string x.1.2.2]
theorem lift_vs : ∀ (l : List Vf), (∀ v ∈ l, SmV v) → ∃ k : List Vs, k.map Subtype.val = l
  | [], _ => ⟨[], rfl⟩
  | v :: l, h => by
    obtain ⟨k, hk⟩ := lift_vs l fun x hx => h x (by simp [hx])
    exact ⟨⟨v, h v (by simp)⟩ :: k, by rw [List.map_cons, hk]⟩
theorem get_vs {k : List Vs} {j : Nat} (h : j < k.length) : vA (k.map Subtype.val) j = (k[j]!).1 := by
  unfold vA
  rw [List.getD_eq_getElem?_getD, List.getElem?_map, List.getElem?_eq_getElem h, List.getElem!_eq_getElem?_getD, List.getElem?_eq_getElem h]
  rfl
set_option maxHeartbeats 2000000 in
theorem idx_none (ao : Option Addr) (cap : Nat) (fv : Value) (w : World) :
    Calls Try.prog 52 #[.slice ao 0 cap, fv] w fun e w' => e = .returned (.int .i64 (-1)) ∧ w = w' := by
  go_enter Try.func52, Try.ntmps52
  go_wp2
  refine wp_loop_rounds 1 ?_
  rw [rounds_succ]
  go_wp2
  go_ret
  exact ⟨rfl, rfl⟩
theorem has_none (ao : Option Addr) (cap : Nat) (fv : Value) (w : World) :
    Calls Try.prog 40 #[.slice ao 0 cap, fv] w fun e w' => e = .returned (.bool false) ∧ w = w' := by
  go_enter Try.func40, Try.ntmps40
  go_wp2_with fail
  refine (idx_none _ _ _ _).mono ?_
  rintro e w' ⟨rfl, rfl⟩
  go_wp2
  go_ret
  exact ⟨rfl, rfl⟩
theorem has_s (ao : Option Addr) (n cap : Nat) (l : List Vf) (p : Vf → Bool) (g : Nat) (lb : Array Value) (w : World) (h : VfsAt w ao n cap l) (hl : ∀ v ∈ l, SmV v)
    (eg : ∀ args w, (callFunc g args).run Try.prog w = .ok (.enter g args) w) (hp : PredBelow Try.prog g lb (fun x => .agg (encV x).toArray) (fun x => p x.1) w) :
    Calls Try.prog 40 #[.slice ao n cap, .func (.func g) #[] lb] w fun e w' => e = .returned (.bool (l.any p)) ∧ Below w.heap.size w w' := by
  obtain ⟨k, rfl⟩ := lift_vs l hl
  obtain ⟨h1, h2, h3, h4, h5⟩ := h
  rw [List.length_map] at h1
  subst h1
  unfold maxLen at h3
  by_cases h0 : 0 < k.length
  · obtain ⟨b, off, rfl, hb, hs⟩ := h4 h0
    have := AnyQ.slices_ContainsFunc Try.layH8 3 Try.isAgg40 Try.sizeOf40 encV (fun _ => rfl) (fun x => p x.1) g lb eg b off k.length cap k w hp (Nat.le_refl _) (by omega) hb (fun j hj i v hi => by
      have hk := hs j (by rw [List.length_map]; exact hj)
      rw [get_vs hj] at hk
      match i, hi with
      | 0, hi => obtain rfl := Option.some.inj (show some (Value.string (k[j]!).1.1) = some v from hi); exact hk.1
      | 1, hi => obtain rfl := Option.some.inj (show some (Value.int .i64 (k[j]!).1.2.1) = some v from hi); exact hk.2.1
      | 2, hi => obtain rfl := Option.some.inj (show some (Value.string (k[j]!).1.2.2) = some v from hi); exact hk.2.2
      | i + 3, hi => simp [encV] at hi)
    rw [List.take_length] at this
    rw [List.any_map]
    exact this
  · have e0 : k = [] := List.length_eq_zero_iff.1 (by omega)
    subst e0
    exact (has_none ao cap _ w).mono fun e w' h => ⟨h.1, by rw [← h.2]; exact Below.refl _ _⟩
set_option maxHeartbeats 4000000 in
theorem reu1_s (b : Nat) (p : ByteArray) (v : Vs) (w : World) (hp : p.size ≤ 1000000) (hk : KbC w b (.cells #[.string p] 9)) :
    Calls Try.prog 41 #[.agg (encV v).toArray, .pointer (some ⟨b, 0, none⟩)] w fun x w' => x = .returned (.bool (chkB v.1 p)) ∧ Below w.heap.size w w' := by
  obtain ⟨⟨a, r, h⟩, ha, hh⟩ := v
  dsimp only at ha hh
  show Calls _ _ #[.agg #[.string a, .int .i64 r, .string h], .pointer (some ⟨b, 0, none⟩)] w _
  have hne : b ≠ w.heap.size := by have := hk.big; omega
  have HB := Lib.hid (box_below w (vfO a r h))
  have hX := kbc_new w (vfO a r h)
  have hY := hk.step (box_below w (vfO a r h))
  unfold vfO at HB hX hY
  have g0 := hX.cell (i := 0) rfl
  have g1 := hX.cell (i := 1) rfl
  have g2 := hX.cell (i := 2) rfl
  have g3 := hY.cell (i := 0) rfl
  have z0 := hk.cell (i := 0) rfl
  obtain ⟨x, hx⟩ : ∃ x, chkB (a, r, h) p = x := ⟨_, rfl⟩
  dsimp only
  rw [hx]
  have HX := Lib.hid hx
  clear hx hX hY hk
  go_enter Try.func41, Try.ntmps41
  go_wp2_with fail
  refine (check_k a h p r x _ ha hh hp HX.out).mono ?_
  rintro e w1 ⟨rfl, hb⟩
  have HB := Lib.hid (HB.out.trans (hb.mono HB.out.size))
  clear hb g0 g1 g2 g3 z0
  go_wp2_with fail
  go_ret
  exact ⟨rfl, HB.out⟩
theorem reu1_pred (b : Nat) (p : ByteArray) (w : World) (hp : p.size ≤ 1000000) (hk : KbC w b (.cells #[.string p] 9)) : PredBelow Try.prog 41 #[.pointer (some ⟨b, 0, none⟩)] (fun x => .agg (encV x).toArray) (fun x : Vs => chkB x.1 p) w := fun W x hb =>
  (reu1_s b p x W hp (hk.step hb)).mono fun e w' h => ⟨h.1, hb.trans (h.2.mono hb.size)⟩
theorem reu1_enter : ∀ args w, (callFunc 41 args).run Try.prog w = .ok (.enter 41 args) w := enters_of Try.func41 (by kernel_rfl) rfl
set_option maxHeartbeats 4000000 in
theorem reused_k (ao : Option Addr) (n cap : Nat) (l : List Vf) (p : ByteArray) (x : Bool) (w : World) (hp : p.size ≤ 1000000) (h : VfsAt w ao n cap l) (hl : ∀ v ∈ l, SmV v) (hx : reuB l p = x) :
    Calls Try.prog 21 #[.slice ao n cap, .string p] w fun e w' => e = .returned (.bool x) ∧ Below w.heap.size w w' := by
  have HB := Lib.hid (box_below w (.cells #[.string p] 9))
  have HC := Lib.hid (has_s ao n cap l (fun v => chkB v p) 41 #[.pointer (some ⟨w.heap.size, 0, none⟩)] _ (h.below (box_below w (.cells #[.string p] 9))) hl reu1_enter (reu1_pred w.heap.size p _ hp (kbc_new w _)))
  rw [show l.any (fun v => chkB v p) = x from hx] at HC
  clear h hl hx
  go_enter Try.func21, Try.ntmps21
  go_wp2_with fail
  refine HC.out.mono ?_
  rintro e w2 ⟨rfl, hb⟩
  go_wp2_with fail
  go_ret
  exact ⟨rfl, HB.out.trans (hb.mono HB.out.size)⟩
theorem reu_hit {l : List Vf} {p : ByteArray} {i : Nat} (hi : i < l.length) (h : chkB (vA l i) p = true) : reuB l p = true := by
  unfold reuB
  refine List.any_eq_true.2 ⟨vA l i, ?_, h⟩
  unfold vA
  rw [List.getD_eq_getElem?_getD, List.getElem?_eq_getElem hi]
  exact List.getElem_mem hi
theorem reu_no {l : List Vf} {p : ByteArray} (h : ∀ i, i < l.length → chkB (vA l i) p = false) : reuB l p = false := by
  unfold reuB
  rw [List.any_eq_false]
  intro v hv
  obtain ⟨i, hi, rfl⟩ := List.mem_iff_getElem.1 hv
  have := h i hi
  unfold vA at this
  rw [List.getD_eq_getElem?_getD, List.getElem?_eq_getElem hi] at this
  simp only [Option.getD_some] at this
  rw [this]; decide
theorem vA_small {l : List Vf} (hl : ∀ v ∈ l, SmV v) (i : Nat) (hi : i < l.length) : SmV (vA l i) := by
  refine hl _ ?_
  unfold vA
  rw [List.getD_eq_getElem?_getD, List.getElem?_eq_getElem hi]
  exact List.getElem_mem hi
end Go.Proofs.Ytclecajbcmmddaa
