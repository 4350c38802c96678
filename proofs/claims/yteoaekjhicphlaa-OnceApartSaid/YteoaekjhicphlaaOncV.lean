/-
  Both sides' registers together; what the laws share. Condition: at most 256 items.
-/
import Derived.Test.YteoaekjhicphlaaOncU
import Derived.HandedShaped
import Derived.WalkKit
import Derived.ProofKit
import Derived.OpenShut
import Derived.Deep.DeepHandedRow
import Derived.Shelf.Vars
import Derived.Lib.SmallJoins
import Derived.Deep.Slices
import Derived.Deep.Strs
set_option linter.unusedVariables false
set_option linter.unusedSimpArgs false
set_option linter.unnecessarySimpa false
namespace Go.Proofs.Yteoaekjhicphlaa
open Go.ChangeShapes Go.WideShapes Go.ChangeAt Go.RowKit Go.PlainAid

theorem own : ownKnob Try.prog.godebug = none := by kernel_rfl
theorem laidOut : laidOutB Try.prog = true := by kernel_rfl
/-- arguments that are only read read behind the call as before it -/
theorem trodAll_below {H : Type} {enc : TypeId × Value → H} {W W' : World} (hb : Below W.heap.size W W') : ∀ (ts : List TypeId) (vs : List Value) (ds : List (DataW H)) (ps : List MemPlace),
    (∀ t ∈ ts, Try.prog.readableRec t = true ∧ t < Try.prog.types.size) → DataW.TrodAll enc Try.prog W 0 (fun _ => true) true ts vs ds ps → (∀ x ∈ ps, x.block < W.heap.size) →
    DataW.TrodAll enc Try.prog W' 0 (fun b => decide (b < W.heap.size)) true ts vs ds ps
  | [], vs, ds, ps, _, h, _ => by
    obtain ⟨rfl, rfl, rfl⟩ := trodAll_nil h
    exact trodAll_mk0
  | t :: ts, vs, ds, ps, hr, h, hl => by
    obtain ⟨v, vs', d, ds', p, q, rfl, rfl, rfl, h0, r0⟩ := trodAll_cons h
    exact trodAll_cons_mk (Below.trod laidOut (hr t (by simp)).1 (hr t (by simp)).2 h0 hb (fun x hx => hl x (by simp [hx])))
      (trodAll_below hb ts vs' ds' q (fun t ht => hr t (by simp [ht])) r0 (fun x hx => hl x (by simp [hx])))
theorem int_range {n : Int} (h : (Lit.int .i64 n).wf = true) : -9223372036854775808 ≤ n ∧ n ≤ 9223372036854775807 := by
  unfold Lit.wf at h
  rw [Bool.and_eq_true, decide_eq_true_iff, decide_eq_true_iff] at h
  exact h
theorem u8_range {n : Int} (h : (Lit.int .u8 n).wf = true) : 0 ≤ n ∧ n ≤ 255 := by
  unfold Lit.wf at h
  rw [Bool.and_eq_true, decide_eq_true_iff, decide_eq_true_iff] at h
  exact h
theorem u16_range {n : Int} (h : (Lit.int .u16 n).wf = true) : 0 ≤ n ∧ n ≤ 65535 := by
  unfold Lit.wf at h
  rw [Bool.and_eq_true, decide_eq_true_iff, decide_eq_true_iff] at h
  exact h
def ocO (q : Int) (u : ByteArray) (x m : Int) : Obj := .cells #[.int .i64 q, .string u, .int .i64 x, .int .i64 m] 33
theorem KbC.oc {V : World} {k : Nat} {q x m : Int} {u : ByteArray} (h : KbC V k (ocO q u x m)) : V.cell? ⟨k, 0, none⟩ = some (.int .i64 q) ∧ V.cell? ⟨k, 1, none⟩ = some (.string u) ∧ V.cell? ⟨k, 2, none⟩ = some (.int .i64 x) ∧ V.cell? ⟨k, 3, none⟩ = some (.int .i64 m) := by
  unfold ocO at h
  exact ⟨h.cell rfl, h.cell rfl, h.cell rfl, h.cell rfl⟩
/-- boxes of calls above lo stay -/
def KO (lo : Nat) (w w' : World) : Prop := ∀ (k : Nat) (q x m : Int) (u : ByteArray), lo ≤ k → KbC w k (ocO q u x m) → KbC w' k (ocO q u x m)
theorem ko_below {lo : Nat} {w w' : World} (h : Below w.heap.size w w') : KO lo w w' := fun k q x m u _ hk => hk.step h
theorem ko_grown {lo g : Nat} {w w' : World} (h : w.grownBy w' (some g)) (hg : g < lo) : KO lo w w' := fun k q x m u hl hk => (h.block k hk.big (fun e => by injection e with e; omega)).trans hk
theorem ko_bo {lo : Nat} {w w' : World} (h : Bo lo w w') : KO lo w w' := fun k q x m u _ hk => h.tk k _ hk
/-- the program's register holds A, the specification's holds B -/
structure Dl (W : World) (b g c lo : Nat) (most : Int) (A B : Ol) (w : World) : Prop where
  pl : Pl W b g most A w
  rl : RL w lo c most B
  bl : b < lo
  gl : g < lo
  lw : W.heap.size ≤ lo
  hi : lo ≤ w.heap.size
  ok : OlOk most B
section
variable {W w V : World} {b g c lo : Nat} {most : Int} {A B A' : Ol}
theorem Dl.step (h : Dl W b g c lo most A B w) (hb : Below w.heap.size w V) : Dl W b g c lo most A B V :=
  ⟨h.pl.step hb, h.rl.step hb, h.bl, h.gl, h.lw, Nat.le_trans h.hi hb.size, h.ok⟩
theorem Dl.left (h : Dl W b g c lo most A B w) (hp : Pl W b g most A' V) (hg : w.grownBy V (some g)) : Dl W b g c lo most A' B V ∧ KO lo w V :=
  ⟨⟨hp, h.rl.keep fun i h1 h2 => hg.block i h2 (fun e => by have := h.gl; injection e with e; omega), h.bl, h.gl, h.lw, Nat.le_trans h.hi hg.size, h.ok⟩, ko_grown hg h.gl⟩
theorem Dl.right (h : Dl W b g c lo most A B w) (hr : RL V lo c most A') (hb : Bo lo w V) (ok : OlOk most A') : Dl W b g c lo most A A' V ∧ KO lo w V :=
  ⟨⟨⟨h.pl.ox.keep (hb.bl.block b h.bl) (hb.bl.block g h.gl), h.pl.lb, h.pl.lg, h.pl.low.trans (hb.bl.mono h.lw)⟩, hr, h.bl, h.gl, h.lw, Nat.le_trans h.hi hb.bl.size, ok⟩, ko_bo hb⟩
end
theorem duse (W : World) (b g c lo : Nat) (most : Int) (A B A' : Ol) (u : ByteArray) (x now r : Int) (w : World) (h : Dl W b g c lo most A B w) (hu : u.size ≤ 1000000000) (hr : useP most A u (limI x) (limI now) = (r, A')) :
    Calls Try.prog 13 #[.pointer (some ⟨b, 0, none⟩), .string u, .int .i64 x, .int .i64 now] w fun e w' => e = .returned (.int .i64 r) ∧ Dl W b g c lo most A' B w' ∧ KO lo w w' :=
  (puse W b g most A A' u x now r w h.pl hu hr).mono fun e w' ⟨he, hp, hg⟩ => ⟨he, h.left hp hg⟩
theorem druse (W : World) (b g c lo : Nat) (most : Int) (A B A' : Ol) (u : ByteArray) (x now r : Int) (w : World) (h : Dl W b g c lo most A B w) (hu : u.size ≤ 1000000000) (hr : useP most B u (limI x) (limI now) = (r, A')) :
    Calls Try.prog 14 #[.pointer (some ⟨c, 0, none⟩), .string u, .int .i64 x, .int .i64 now] w fun e w' => e = .returned (.int .i64 r) ∧ Dl W b g c lo most A A' w' ∧ KO lo w w' :=
  (ruse_k lo c most B A' u x now _ _ r w h.rl h.hi h.ok h.pl.ox.m0 h.pl.ox.m1 hu rfl rfl hr).mono fun e w' ⟨he, hp, hg⟩ => ⟨he, h.right hp hg (by
    have := h.ok.use u (t := limI x) (n := limI now) (limI_bd now).1 (limI_bd x).2
    rw [hr] at this; exact this)⟩
theorem dseen (W : World) (b g c lo : Nat) (most : Int) (A B : Ol) (u : ByteArray) (now : Int) (x : Bool) (w : World) (h : Dl W b g c lo most A B w) (hu : u.size ≤ 1000000000) (hx : decide (limI now < atA A u) = x) :
    Calls Try.prog 15 #[.pointer (some ⟨b, 0, none⟩), .string u, .int .i64 now] w fun e w' => e = .returned (.bool x) ∧ Dl W b g c lo most A B w' ∧ KO lo w w' :=
  (pseen W b g most A u now x w h.pl hu hx).mono fun e w' ⟨he, _, hb⟩ => ⟨he, h.step hb, ko_below hb⟩
theorem drseen (W : World) (b g c lo : Nat) (most : Int) (A B : Ol) (u : ByteArray) (now : Int) (x : Bool) (w : World) (h : Dl W b g c lo most A B w) (hx : decide (limI now < atA B u) = x) :
    Calls Try.prog 16 #[.pointer (some ⟨c, 0, none⟩), .string u, .int .i64 now] w fun e w' => e = .returned (.bool x) ∧ Dl W b g c lo most A B w' ∧ KO lo w w' :=
  (rseen_k lo c most B u now _ x w h.rl rfl hx).mono fun e w' ⟨he, hb⟩ => ⟨he, h.step hb, ko_below hb⟩
theorem dpurge (W : World) (b g c lo : Nat) (most : Int) (A B A' : Ol) (now k : Int) (w : World) (h : Dl W b g c lo most A B w) (hB : purA A (limI now) = A') (hk : (A.length : Int) - (A'.length : Int) = k) :
    Calls Try.prog 17 #[.pointer (some ⟨b, 0, none⟩), .int .i64 now] w fun e w' => e = .returned (.int .i64 k) ∧ Dl W b g c lo most A' B w' ∧ KO lo w w' :=
  (ppurge W b g most A A' now k w h.pl hB hk).mono fun e w' ⟨he, hp, hg⟩ => ⟨he, h.left hp hg⟩
theorem drpurge (W : World) (b g c lo : Nat) (most : Int) (A B A' : Ol) (now k : Int) (w : World) (h : Dl W b g c lo most A B w) (hB : purA B (limI now) = A') (hk : (B.length : Int) - (A'.length : Int) = k) :
    Calls Try.prog 18 #[.pointer (some ⟨c, 0, none⟩), .int .i64 now] w fun e w' => e = .returned (.int .i64 k) ∧ Dl W b g c lo most A A' w' ∧ KO lo w w' :=
  (rpurge_k lo c most B A' now _ k w h.rl h.hi (by have := h.ok.len; have := h.pl.ox.m1; omega) rfl hB hk).mono fun e w' ⟨he, hp, hg⟩ => ⟨he, h.right hp hg (by rw [← hB]; exact h.ok.pur _)⟩
theorem dlen (W : World) (b g c lo : Nat) (most : Int) (A B : Ol) (n : Nat) (w : World) (h : Dl W b g c lo most A B w) (hn : A.length = n) :
    Calls Try.prog 19 #[.pointer (some ⟨b, 0, none⟩)] w fun e w' => e = .returned (.int .i64 n) ∧ w = w' := len_s b g most A n w h.pl.ox hn
theorem drlen (W : World) (b g c lo : Nat) (most : Int) (A B : Ol) (n : Nat) (w : World) (h : Dl W b g c lo most A B w) (hn : B.length = n) :
    Calls Try.prog 20 #[.pointer (some ⟨c, 0, none⟩)] w fun e w' => e = .returned (.int .i64 n) ∧ w = w' := rlen_k lo c most B n w h.rl hn
/-- both sides made anew -/
theorem dl_new {W w w' : World} {b g : Nat} {most : Int} (hp : Pl W b g most [] w) (hr : RL w' w.heap.size w.heap.size most []) (hb : Below w.heap.size w w') : Dl W b g w.heap.size w.heap.size most [] [] w' :=
  ⟨hp.step hb, hr, hp.ox.big.1, hp.ox.big.2, hp.low.size, hb.size, olOk_nil (by have := hp.ox.m0; omega)⟩
end Go.Proofs.Yteoaekjhicphlaa
