/-
  Contract of the specification's Fail. Condition: at most 256 users, of each at most 256 failures; names of at most 1000000000 bytes.
-/
import Derived.Test.YtclecajbcmmddaaSlkE
import Derived.Test.YtclecajbcmmddaaSecW
import Derived.Deep.AppendLies
import Derived.Deep.DeepCutAuto
set_option maxRecDepth 100000
set_option linter.unusedVariables false
set_option linter.unusedSimpArgs false
set_option linter.unnecessarySimpa false
namespace Go.Proofs.Ytclecajbcmmddaa
open Go.RowKit Go.PlainAid

theorem box_bl (w : World) (o : Obj) : Below w.heap.size w (w.alloc o) := (Below.refl w.heap.size w).alloc (Nat.le_refl _) o
/-- 'records = append(records, record{user: u})' -/
theorem push_rr {ops : Array Oper} {rest : List Oper} {o : Oper} {a : Act} {Q : Exit → Act → World → Prop} (wr : World) {v : Value} {n : Nat} {xs : List Value} (hown : wr.ownsRow 0 65 3 v n xs) (s x : Operand) (u : ByteArray) (hgd : o.guard = none)
    (ho : o.op = .call { callee := .builtin .append, args := #[s, x], argTypes := #[53, 53] })
    (hs : a.eval s = v) (hx : a.eval x = .slice (some ⟨wr.heap.size, 0, none⟩) 1 1) (hn : n + 1 ≤ 1000000000)
    (h : ∀ q cp w', w'.ownsRow 0 65 3 (.slice (some ⟨q, 0, none⟩) (n + 1) cp) (n + 1) (xs ++ [.string u, .slice none 0 0, .int .i64 0]) → (wr.alloc (.cells #[.string u, .slice none 0 0, .int .i64 0] 65)).grownBy w' v.ownBlock → (v.ownBlock = some q ∨ wr.heap.size ≤ q) → wpList Try.prog ops Q rest (a.put o.dst (.slice (some ⟨q, 0, none⟩) (n + 1) cp)) w') :
    wpList Try.prog ops Q (o :: rest) a (wr.alloc (.cells #[.string u, .slice none 0 0, .int .i64 0] 65)) := by
  obtain ⟨i0, hi, hz0, hz1, hz2⟩ := rr_parts info_rr
  refine wpList_append_lies _ hgd s x 53 ho 0 65 i0 (.agg #[.string ⟨#[]⟩, .slice none 0 0, .int .i64 0]) 3 48 Try.underlying53 hi hz0 hz1 hz2 rfl (by decide) v n xs hs (hown.alloc _) ⟨wr.heap.size, 0, none⟩ 1 1 [.string u, .slice none 0 0, .int .i64 0] hx rfl
    (fun j z hj => ?_) (by intro z hz; simp at hz; rcases hz with rfl | rfl | rfl <;> rfl) (by decide) (by unfold maxLen; omega) (by omega) (Nat.zero_le _) (wr.heap.size + 1) (World.size_alloc _ _) ?_
  · rw [Go.WideShapes.add_plain, Nat.zero_add]
    exact (kbc_new wr (.cells #[.string u, .slice none 0 0, .int .i64 0] 65)).cell (by rw [← Array.getElem?_toList]; exact hj)
  intro q cp w' h1 h2 h3 _
  exact h q cp w' h1 h2 (h3.imp id fun e => by omega)
section
variable {S : Nat → Prop} {W V : World} {b g cap k n1 : Nat} {most win lock : Int} {L : List Rr}
theorem RX.setT' (h : RX W S b most win lock L (.slice (some ⟨g, 0, none⟩) n1 cap)) (hn : L.length = n1) (hb : Below W.heap.size W V) (hk : k < n1) (x : Value) (t : List Int) (hir : IR V x t) (hfr : ∀ i, x.ownBlock = some i → W.heap.size ≤ i) {u : ByteArray} {tv : Value} {ts : List Int} {un : Int} (hr : rA L k = ⟨u, tv, ts, un⟩) :
    RX (V.setCell ⟨g, k * 3 + 1, none⟩ x) (nw S W (V.setCell ⟨g, k * 3 + 1, none⟩ x)) b most win lock (L.set k ⟨u, x, t, un⟩) (.slice (some ⟨g, 0, none⟩) n1 cap) ∧ Fo S W (V.setCell ⟨g, k * 3 + 1, none⟩ x) := by
  subst hn
  have := h.setT hb hk x t hir hfr
  rw [hr] at this
  exact ⟨this, fo_set hb (h.ownS g rfl).1 _ _⟩
theorem RX.setU' (h : RX W S b most win lock L (.slice (some ⟨g, 0, none⟩) n1 cap)) (hn : L.length = n1) (hb : Below W.heap.size W V) (hk : k < n1) (n : Int) {u : ByteArray} {tv : Value} {ts : List Int} {un : Int} (hr : rA L k = ⟨u, tv, ts, un⟩) :
    RX (V.setCell ⟨g, k * 3 + 2, none⟩ (.int .i64 n)) (nw S W (V.setCell ⟨g, k * 3 + 2, none⟩ (.int .i64 n))) b most win lock (L.set k ⟨u, tv, ts, n⟩) (.slice (some ⟨g, 0, none⟩) n1 cap) ∧ Fo S W (V.setCell ⟨g, k * 3 + 2, none⟩ (.int .i64 n)) := by
  subst hn
  have := h.setU hb hk n
  rw [hr] at this
  exact ⟨this, fo_set hb (h.ownS g rfl).1 _ _⟩
theorem RX.cells' (h : RX W S b most win lock L (.slice (some ⟨g, 0, none⟩) n1 cap)) (hn : L.length = n1) (hk : k < n1) {u : ByteArray} {tv : Value} {ts : List Int} {un : Int} (hr : rA L k = ⟨u, tv, ts, un⟩) : W.cell? ⟨g, k * 3 + 1, none⟩ = some tv ∧ W.cell? ⟨g, k * 3 + 2, none⟩ = some (.int .i64 un) ∧ g ≠ b ∧ n1 ≤ cap ∧ cap ≤ maxLen ∧ IR W tv ts ∧ g < W.heap.size ∧ ∀ j, W.frozen? ⟨g, j, none⟩ = false := by
  subst hn
  obtain ⟨ao, cp, e, s1, s2, s3⟩ := h.shape
  cases e
  obtain ⟨g', e', hgb, hc⟩ := s3 (by omega)
  cases e'
  obtain ⟨_, d1, d2⟩ := hc k hk
  have ht := h.tm _ (rA_mem hk)
  rw [hr] at d1 d2 ht
  refine ⟨d1, d2, hgb, s1, s2, ht, (h.own.lt g rfl).2, fun j => ?_⟩
  obtain ⟨_, ⟨e, _⟩ | ⟨g2, cp2, cur, e, _, h4, _⟩⟩ := h.own
  · cases e
  · cases e
    exact KbC.frz (show KbC W g (.cells cur 65) from h4)
end
theorem set_rA {L : List Rr} {k n1 : Nat} (hn : L.length = n1) (hk : k < n1) (r : Rr) : rA (L.set k r) k = r := by
  rw [rA_get (by rw [List.length_set]; omega), List.getElem_set]; simp
theorem set_set {L : List Rr} {k : Nat} (r q : Rr) : (L.set k r).set k q = L.set k q := List.set_set ..
theorem limI_lim' (t : Int) : limI (limI t) = limI t := by unfold limI; omega
theorem fR_yes {most win lock un y z mx : Int} {ts T : List Int} {q : Nat} (hT : lastN (ts ++ [y]) = T) (hQ : cntF win (lastN (ts ++ [y])) y = q) (hc : most ≤ (q : Int) ∨ y < un) (hz : addI y lock = z) (hm : max un z = mx) : failR most win lock (ts, un) y = (T, mx) := by
  have h := failR_yes (most := most) (win := win) (lock := lock) (r := (ts, un)) (n := y) (k := q) hQ hc hz
  rw [h]
  show (lastN (ts ++ [y]), max un z) = (T, mx)
  rw [hT, hm]
theorem fR_no {most win lock un y : Int} {ts T : List Int} {q : Nat} (hT : lastN (ts ++ [y]) = T) (hQ : cntF win (lastN (ts ++ [y])) y = q) (hc : ¬ (most ≤ (q : Int) ∨ y < un)) : failR most win lock (ts, un) y = (T, un) := by
  have h := failR_no (most := most) (win := win) (lock := lock) (r := (ts, un)) (n := y) (k := q) hQ hc
  rw [h]
  show (lastN (ts ++ [y]), un) = (T, un)
  rw [hT]
theorem radd_k (t d x : Int) (w : World) (hx : addI t d = x) : Calls Try.prog 31 #[.int .i64 t, .int .i64 d] w fun e w' => e = .returned (.int .i64 x) ∧ w = w' := by
  subst hx; exact radd_s t d w
end Go.Proofs.Ytclecajbcmmddaa
