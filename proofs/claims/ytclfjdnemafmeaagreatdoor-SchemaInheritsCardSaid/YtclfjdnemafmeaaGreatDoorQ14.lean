/-
  Texts of the schema layer and of those beneath it, joined: NamO, NamT, NamD, SchStrs, SchMem, SchL, SchIx, SchG. Conditions stand at each contract.
-/
import Derived.WalkLawsBesides
import Derived.Lib.SliceRun
import Derived.StillTailTactics
import Derived.BigRegion
import Derived.Deep.RegionHeld3
import Derived.Deep.AppendLies
import Derived.Lib.SmallJoins
import Derived.Test.YtclfjdnemafmeaaGreatDoorQ03
import Derived.Test.YtclfjdnemafmeaaGreatDoorQ13
set_option linter.unusedVariables false
set_option linter.unusedSimpArgs false
set_option linter.unnecessarySimpa false

section
/-
  Contracts of cmp.Or at two numbers, name.comparePairs, slices.Reverse and slices.CompareFunc at pairs, and the specification's bytes. Condition: at most 1000 pairs.
-/
set_option maxRecDepth 100000
namespace Go.Proofs.YtclfjdnemafmeaaGreatDoor
namespace Nam
open Go.RowKit Go.PlainAid
theorem compare_lib (a b : ByteArray) (w : World) :
    Calls Tryz.prog 97 #[.string a, .string b] w fun e w' => e = .returned (.int .i64 (cmpS a b)) ∧ w = w' :=
  (Tryz.strings_Compare a b w).mono fun _ _ h => ⟨h.1, h.2.symm⟩
theorem compare_q (a b : ByteArray) (w : World) :
    Calls Tryz.prog 97 #[.string a, .string b] w fun e w' => e = .returned (.int .i64 (cmpS a b)) ∧ w' = w := Tryz.strings_Compare a b w
theorem ints_new (w : World) (x y : Int) : (w.alloc (.cells #[.int .i64 x, .int .i64 y] 3)).cell? ⟨w.heap.size, 0, none⟩ = some (.int .i64 x) ∧ (w.alloc (.cells #[.int .i64 x, .int .i64 y] 3)).cell? ⟨w.heap.size, 1, none⟩ = some (.int .i64 y) := by
  have h : (w.alloc (.cells #[.int .i64 x, .int .i64 y] 3)).heap[w.heap.size]? = some (.cells #[.int .i64 x, .int .i64 y] 3) := heap_alloc_new w _
  exact ⟨by rw [Lib.cell_of_heap h]; rfl, by rw [Lib.cell_of_heap h]; rfl⟩
def orI (x y : Int) : Int := if x = 0 then y else x
set_option maxRecDepth 100000 in
set_option maxHeartbeats 2000000 in
theorem or_s (x y : Int) (w : World) :
    Calls Tryz.prog 165 #[.slice (some ⟨w.heap.size, 0, none⟩) 2 2] (w.alloc (.cells #[.int .i64 x, .int .i64 y] 3)) fun e w' => e = .returned (.int .i64 (orI x y)) ∧ (w.alloc (.cells #[.int .i64 x, .int .i64 y] 3)) = w' := by
  obtain ⟨c0, c1⟩ := ints_new w x y
  by_cases hx : x = 0
  · have HE := Lib.hid (show orI x y = y from if_pos hx)
    have q0 : (x != 0) = false := by rw [hx]; rfl
    clear hx
    by_cases hy : y = 0
    · subst hy
      go_enter Tryz.func165, Tryz.ntmps165
      go_wp2
      refine wp_loop_rounds 3 ?_
      rw [rounds_succ]
      go_wp2
      rw [rounds_succ]
      go_wp2
      rw [rounds_succ]
      go_wp2
      go_ret
      exact ⟨by rw [HE.out]; rfl, rfl⟩
    · have q1 : (y != 0) = true := by simpa using hy
      clear hy
      go_enter Tryz.func165, Tryz.ntmps165
      go_wp2
      refine wp_loop_rounds 3 ?_
      rw [rounds_succ]
      go_wp2
      rw [rounds_succ]
      go_wp2
      go_ret
      exact ⟨by rw [HE.out]; rfl, rfl⟩
  · have HE := Lib.hid (show orI x y = x from if_neg hx)
    have q0 : (x != 0) = true := by simpa using hx
    clear hx
    go_enter Tryz.func165, Tryz.ntmps165
    go_wp2
    refine wp_loop_rounds 3 ?_
    rw [rounds_succ]
    go_wp2
    go_ret
    exact ⟨by rw [HE.out]; rfl, rfl⟩
theorem orI_pair (p q : Pr) : orI (cmpS p.1 q.1) (cmpS p.2 q.2) = cmpP p q := rfl
set_option maxRecDepth 100000 in
set_option maxHeartbeats 4000000 in
theorem comparePairs_s (p q : Pr) (w : World) :
    Calls Tryz.prog 134 #[.agg #[.string p.1, .string p.2], .agg #[.string q.1, .string q.2]] w fun e w' => e = .returned (.int .i64 (cmpP p q)) ∧ Below w.heap.size w w' := by
  obtain ⟨p1, p2⟩ := p
  obtain ⟨q1, q2⟩ := q
  have HE := Lib.hid (orI_pair (p1, p2) (q1, q2))
  have X1 := (pbox_new w (p1, p2)).alloc (.cells #[.string q1, .string q2] 131)
  have X2 := pbox_new (w.alloc (.cells #[.string p1, .string p2] 131)) (q1, q2)
  obtain ⟨c0, c1⟩ := X1.cells
  obtain ⟨d0, d1⟩ := X2.cells
  rw [World.size_alloc] at d0 d1
  have L0 := Lib.hid (show Below w.heap.size w ((w.alloc (.cells #[.string p1, .string p2] 131)).alloc (.cells #[.string q1, .string q2] 131)) from below_next (below_new _) (below_new _))
  clear X1 X2
  go_enter Tryz.func134, Tryz.ntmps134
  go_wp2_with fail
  generalize (w.alloc (.cells #[.string p1, .string p2] 131)).alloc (.cells #[.string q1, .string q2] 131) = W0 at c0 c1 d0 d1 L0 ⊢
  refine wp_region_still_tail 10 (by kernel_rfl) (by kernel_rfl) ?_
  simp only [List.take_succ_cons, List.take_zero, List.drop_succ_cons, List.drop_zero]
  change wpStill _ _ (World.drew W0) _ _ _
  still_step
  still_step
  still_step
  still_step
  still_call (compare_q p1 q1 _)
  still_step
  still_step
  still_step
  still_step
  still_call (compare_q p2 q2 _)
  refine wpStill_nil ?_
  change wpList _ _ _ _ _ (World.drew W0)
  go_wp2_with (go_at_call 165; refine (or_s _ _ (World.drew W0)).mono ?_; rintro e w' ⟨rfl, rfl⟩)
  go_ret
  exact ⟨by rw [← HE.out]; rfl, (L0.out.drew).alloc (by have := L0.out.size; exact this) _⟩
end Nam
end Go.Proofs.YtclfjdnemafmeaaGreatDoor
end

section
/-
  Contracts of slices.Reverse and slices.CompareFunc at pairs, and of Compare in the program. Condition: at most 1000000 bytes.
-/
set_option maxRecDepth 100000
namespace Go.Proofs.YtclfjdnemafmeaaGreatDoor
namespace Nam
open Go.RowKit Go.PlainAid Go.Shelf
open Go.Sort (HoldsK putRowK flatK size_flatK get_flatK holdsK_putRowK)
def encP (p : Pr) : List Value := [.string p.1, .string p.2]
instance : Inhabited Pr := ⟨(ByteArray.empty, ByteArray.empty)⟩
theorem get_pr (l : List Pr) (j : Nat) : l[j]! = prAt l j := by
  unfold prAt; rw [List.getElem!_eq_getElem?_getD, List.getD_eq_getElem?_getD]; rfl
theorem holds_pairs {w : World} {base g n cap : Nat} {l : List Pr} (h : w.ownsRow base 131 2 (.slice (some ⟨g, 0, none⟩) n cap) n (pcells l)) (hl : l.length = n) : HoldsK encP 2 w g 0 l.toArray := by
  intro j hj
  obtain ⟨_, _, _, _, _, hfz, _⟩ := own_heap h
  obtain ⟨xo, dap, he, hat⟩ := pairs_own h hl
  cases he
  have hj2 : j < l.toArray.size * 2 := by rw [size_flatK] at hj; exact hj
  have hs : l.toArray.size = l.length := by simp
  obtain ⟨b, off, e, hp⟩ := hat.2.2.2 (by omega)
  cases e
  have hk := hp.2 (j / 2) (by omega)
  rw [get_flatK _ _ _ _ hj2]
  have e : (l.toArray)[j / 2]! = prAt l (j / 2) := by rw [← get_pr]; simp
  rw [e]
  refine ⟨?_, hfz _⟩
  rcases Nat.mod_two_eq_zero_or_one j with e2 | e2
  · rw [e2, show 0 + j = 0 + j / 2 * 2 by omega, hk.1]; rfl
  · rw [e2, show 0 + j = 0 + j / 2 * 2 + 1 by omega, hk.2]; rfl
theorem pairs_holds {w : World} {g cap : Nat} {d : Array Pr} (h : HoldsK encP 2 w g 0 d) (hg : g < w.heap.size) (h1 : d.size ≤ cap) (h2 : cap ≤ maxLen) : PairsAt w (some ⟨g, 0, none⟩) d.size cap d.toList := by
  refine ⟨by simp, h1, h2, fun _ => ⟨g, 0, rfl, hg, fun j hj => ?_⟩⟩
  have hj2 : j < d.size := by simpa using hj
  have e : prAt d.toList j = d[j]! := by
    rw [← get_pr, getElem!_pos d j hj2, getElem!_pos d.toList j hj]; simp
  have c0 := (h.cell hj2 (c := 0) (by omega)).1
  have c1 := (h.cell hj2 (c := 1) (by omega)).1
  rw [e]
  exact ⟨c0, c1⟩
/-- what a call keeps that writes into one block alone -/
def BlockKeep (ao : Option Addr) (w w' : World) : Prop := w.heap.size ≤ w'.heap.size ∧ ∀ k, k < w.heap.size → (∀ g, ao = some ⟨g, 0, none⟩ → k ≠ g) → w'.heap[k]? = w.heap[k]?
theorem reverse_s (w : World) (base n cap : Nat) (ao : Option Addr) (l : List Pr) (h : w.ownsRow base 131 2 (.slice ao n cap) n (pcells l)) (hl : l.length = n) (hn : n ≤ 1000) :
    Calls Tryz.prog 132 #[.slice ao n cap] w fun e w' => e = .returned (.tuple #[]) ∧ PairsAt w' ao n cap l.reverse ∧ Below base w w' ∧ BlockKeep ao w w' := by
  rcases Nat.eq_zero_or_pos n with h0 | h0
  · subst h0
    have e1 : l = [] := List.length_eq_zero_iff.1 hl
    subst e1
    have hat : PairsAt w ao 0 cap [] := by obtain ⟨xo, dap, e, hat⟩ := pairs_own h rfl; cases e; exact hat
    refine (AnyQ.slices_Reverse_empty Tryz.layE35 ao cap w).mono fun e w' k => ?_
    obtain ⟨he, rfl⟩ := k
    exact ⟨he, hat, Below.refl _ _, Nat.le_refl _, fun _ _ _ => rfl⟩
  · have hcap : 0 < cap := by have := own_fit h; omega
    obtain ⟨g, rfl⟩ := own_some h hcap
    obtain ⟨hbg, hgw, hnc, hcm, _, _, _⟩ := own_heap h
    have hsz : l.toArray.size = n := by simpa using hl
    have hcon := AnyQ.slices_Reverse Tryz.layE35 2 Tryz.isAgg131 Tryz.sizeOf131 encP (fun _ => rfl) (fun x v hv => by simp [encP] at hv; rcases hv with rfl | rfl <;> rfl) g 0 cap l.toArray w (holds_pairs h hl) (by rw [hsz]; omega)
    rw [hsz] at hcon
    refine hcon.mono fun e w' k => ?_
    obtain ⟨he, q, rfl⟩ := k
    have hH := holdsK_putRowK (enc := encP) (k := 2) (Go.Sort.ahead w q) g 0 l.toArray l.toArray.reverse (holds_pairs h hl) (by simp)
    have hz : (putRowK encP 2 (Go.Sort.ahead w q) g 0 l.toArray.reverse).heap.size = w.heap.size := by show (w.heap.modify g _).size = _; simp
    have hoth : ∀ k, k ≠ g → (putRowK encP 2 (Go.Sort.ahead w q) g 0 l.toArray.reverse).heap[k]? = w.heap[k]? := fun k hk => by
      show (w.heap.modify g _)[k]? = _
      rw [Array.getElem?_modify, if_neg (fun e => hk e.symm)]
    have hat := pairs_holds hH (by rw [hz]; exact hgw) (show l.toArray.reverse.size ≤ cap by simp; omega) hcm
    have e1 : l.toArray.reverse.size = n := by simpa using hl
    have e2 : l.toArray.reverse.toList = l.reverse := by simp
    rw [e1, e2] at hat
    refine ⟨he, hat, ⟨rfl, rfl, rfl, by rw [hz]; exact Nat.le_refl _, fun k hk => hoth k (by omega)⟩, by rw [hz]; exact Nat.le_refl _, fun k _ hk => hoth k (hk g rfl)⟩
theorem cmpL_step (l q : List Pr) (k : Nat) (h1 : k < l.length) (h2 : k < q.length) : cmpL (l.drop k) (q.drop k) = if cmpP (prAt l k) (prAt q k) = 0 then cmpL (l.drop (k + 1)) (q.drop (k + 1)) else cmpP (prAt l k) (prAt q k) := by
  have hd : ∀ (x : List Pr), k < x.length → x.drop k = prAt x k :: x.drop (k + 1) := fun x hx => by
    unfold prAt; rw [List.getD_eq_getElem?_getD, List.getElem?_eq_getElem hx]; exact List.drop_eq_getElem_cons hx
  rw [hd l h1, hd q h2]; rfl
theorem cmpL_left (l q : List Pr) (k : Nat) (h1 : k < l.length) (h2 : q.length ≤ k) : cmpL (l.drop k) (q.drop k) = 1 := by
  rw [List.drop_eq_nil_of_le h2, List.drop_eq_getElem_cons h1]; rfl
theorem cmpL_right (l q : List Pr) (k : Nat) (h1 : l.length ≤ k) : cmpL (l.drop k) (q.drop k) = if k < q.length then -1 else 0 := by
  rw [List.drop_eq_nil_of_le h1]
  by_cases h2 : k < q.length
  · rw [if_pos h2, List.drop_eq_getElem_cons h2]; rfl
  · rw [if_neg h2, List.drop_eq_nil_of_le (by omega)]; rfl
set_option maxRecDepth 100000 in
set_option maxHeartbeats 4000000 in
theorem compareFunc_s (ao bo : Option Addr) (n cap m dap : Nat) (l q : List Pr) (w : World) (hl : PairsAt w ao n cap l) (hq : PairsAt w bo m dap q) (hn : n ≤ 1000) (hm : m ≤ 1000) :
    Calls Tryz.prog 133 #[.slice ao n cap, .slice bo m dap, .func (.func 134) #[] #[]] w fun e w' => e = .returned (.int .i64 (cmpL l q)) ∧ Below w.heap.size w w' := by
  have HA := Lib.hid hl
  have HQ := Lib.hid hq
  have hl1 := hl.1
  have hq1 := hq.1
  have hl2 : n = l.length := hl1.symm
  have hq2 : m = q.length := hq1.symm
  clear hl hq hl1 hq1
  subst hl2 hq2
  go_enter Tryz.func133, Tryz.ntmps133
  go_wp2
  go_loopw [13] (fun i wr => ∃ k : Nat, k ≤ l.length ∧ k ≤ q.length ∧ i = .int .i64 k ∧ Hid (cmpL l q = cmpL (l.drop k) (q.drop k)) ∧ Below w.heap.size w wr) (fun i _ => l.length - (intOf i).toNat)
  case atStart => exact ⟨0, Nat.zero_le _, Nat.zero_le _, rfl, Lib.hid rfl, Below.refl _ _⟩
  case round =>
    obtain ⟨k, hk, hkq, rfl, HC, hbel⟩ := hrel
    by_cases hlt : k < l.length
    · obtain ⟨b, off, rfl, hs⟩ := HA.out.2.2.2 (by omega)
      obtain ⟨hc1, hc2⟩ := (hs.below hbel hs.1).2 k hlt
      obtain ⟨⟨p1, p2⟩, hpe⟩ : ∃ p, p = prAt l k := ⟨_, rfl⟩
      by_cases hltq : k < q.length
      · obtain ⟨b2, off2, rfl, hs2⟩ := HQ.out.2.2.2 (by omega)
        have HST := Lib.hid (cmpL_step l q k hlt hltq)
        obtain ⟨⟨q1, q2⟩, hqe⟩ : ∃ p, p = prAt q k := ⟨_, rfl⟩
        rw [← hpe, ← hqe] at HST
        rw [← hpe] at hc1 hc2
        have hbx := below_new (w := wr) (.cells #[.string p1, .string p2] 131)
        obtain ⟨hd1, hd2⟩ := (hs2.below (hbel.trans (hbx.mono hbel.size)) hs2.1).2 k hltq
        rw [← hqe] at hd1 hd2
        simp only [] at hc1 hc2 hd1 hd2
        have X1 := (pbox_new wr (p1, p2)).alloc (.cells #[.string q1, .string q2] 131)
        have X2 := pbox_new (wr.alloc (.cells #[.string p1, .string p2] 131)) (q1, q2)
        obtain ⟨x0, x1⟩ := X1.cells
        obtain ⟨y0, y1⟩ := X2.cells
        rw [World.size_alloc] at y0 y1
        have L1 := below_next (hbx) (below_new (.cells #[.string q1, .string q2] 131))
        have HL1 := Lib.hid (hbel.trans (L1.mono hbel.size))
        have hd : decide ((q.length : Int) ≤ (k : Int)) = false := decide_eq_false (by omega)
        clear hs hs2 hpe hqe hbx X1 X2 L1
        go_wp2_with fail
        refine (comparePairs_s (p1, p2) (q1, q2) _).mono ?_
        rintro e w2 ⟨rfl, hb2⟩
        have HL2 := Lib.hid (HL1.out.trans (hb2.mono HL1.out.size))
        generalize hcv : cmpP (p1, p2) (q1, q2) = c at HST ⊢
        clear hc1 hc2 hd1 hd2 x0 x1 y0 y1 hb2
        by_cases h0 : c = 0
        · rw [if_pos h0] at HST
          have q0 : (c != 0) = false := by rw [h0]; rfl
          have HN := Lib.hid (show cmpL l q = cmpL (l.drop (k + 1)) (q.drop (k + 1)) by rw [HC.out, HST.out])
          clear h0 hcv
          go_wp2
          go_roundw
          case rel => exact ⟨k + 1, by omega, by omega, by go_num, HN, HL2.out⟩
          case measure => simp [intOf]; omega
        · rw [if_neg h0] at HST
          have q0 : (c != 0) = true := by simpa using h0
          have HN := Lib.hid (show cmpL l q = c by rw [HC.out, HST.out])
          clear h0 hcv
          go_wp2
          go_ret
          exact ⟨by rw [HN.out]; rfl, HL2.out⟩
      · have HN := Lib.hid (show cmpL l q = 1 by rw [HC.out, cmpL_left l q k hlt (by omega)])
        have hd : decide ((q.length : Int) ≤ (k : Int)) = true := decide_eq_true (by omega)
        rw [← hpe] at hc1 hc2
        simp only [] at hc1 hc2
        clear hs hpe
        have HL1 := Lib.hid (hbel.trans ((below_new (w := wr) (.cells #[.string p1, .string p2] 131)).mono hbel.size))
        go_wp2
        go_ret
        exact ⟨by rw [HN.out]; rfl, HL1.out⟩
    · have HN := Lib.hid (show cmpL l q = if l.length < q.length then -1 else 0 by rw [HC.out, cmpL_right l q k (by omega), show k = l.length by omega])
      by_cases hltq : l.length < q.length
      · rw [if_pos hltq] at HN
        have hd : decide ((l.length : Int) < (q.length : Int)) = true := decide_eq_true (by omega)
        go_wp2
        go_ret
        exact ⟨by rw [HN.out]; rfl, hbel⟩
      · rw [if_neg hltq] at HN
        have hd : decide ((l.length : Int) < (q.length : Int)) = false := decide_eq_false (by omega)
        go_wp2
        go_ret
        exact ⟨by rw [HN.out]; rfl, hbel⟩
end Nam
end Go.Proofs.YtclfjdnemafmeaaGreatDoor
end

section
/-
  Contracts of Compare in the program and in the specification. Condition: at most 1000000 bytes.
-/
set_option maxRecDepth 100000
namespace Go.Proofs.YtclfjdnemafmeaaGreatDoor
namespace Nam
open Go.RowKit Go.PlainAid
theorem own_keep {w w' : World} {base n size : Nat} {e : TypeId} {v : Value} {xs : List Value} {ao : Option Addr} (h : w.ownsRow base e size v n xs) (hk : BlockKeep ao w w') (hd : ∀ g, ao = some ⟨g, 0, none⟩ → g < base) : w'.ownsRow base e size v n xs := by
  refine ⟨h.1, ?_⟩
  rcases h.2 with h2 | ⟨g, cap, cur, h2, h3, h4, h5⟩
  · exact .inl h2
  · refine .inr ⟨g, cap, cur, h2, h3, ?_, h5⟩
    rw [hk.2 g (by
      rcases Nat.lt_or_ge g w.heap.size with h' | h'
      · exact h'
      · simp [Array.getElem?_eq_none h'] at h4) (fun g' e => by have := hd g' e; omega)]
    exact h4
theorem pairs_keep {w w' : World} {B n cap : Nat} {ao : Option Addr} {l : List Pr} (h : PairsAt w ao n cap l) (hb : Below B w w') (hd : ∀ g off, ao = some ⟨g, off, none⟩ → g < B) : PairsAt w' ao n cap l :=
  ⟨h.1, h.2.1, h.2.2.1, fun hn => by
    obtain ⟨b, off, e, hi⟩ := h.2.2.2 hn
    exact ⟨b, off, e, hi.below hb (hd b off e)⟩⟩
set_option maxRecDepth 100000 in
set_option maxHeartbeats 4000000 in
theorem compare_s (a b : ByteArray) (w : World) (ha : a.size ≤ 1000000) (hb : b.size ≤ 1000000) :
    Calls Tryz.prog 96 #[.string a, .string b] w fun e w' => e = .returned (.int .i64 (cmpN a b)) ∧ Below w.heap.size w w' := by
  have h8 := compsV_few a
  have h9 := compsV_few b
  have HN := Lib.hid (show cmpN a b = if normB a then (if normB b then cmpL (compsV a).reverse (compsV b).reverse else -1) else (if normB b then 1 else cmpS a b) from rfl)
  go_enter Tryz.func96, Tryz.ntmps96
  go_wp2_with fail
  refine (components_s a _ ha).mono ?_
  rintro e w1 ⟨v, rfl, hown, hb1⟩
  obtain ⟨ao, cap, rfl⟩ := own_slice hown
  go_wp2_with fail
  refine (components_s b _ hb).mono ?_
  rintro e w2 ⟨v, rfl, hown2, hb2⟩
  obtain ⟨bo, dap, rfl⟩ := own_slice hown2
  have L2 := below_next hb1 hb2
  have hal : ∀ g, ao = some ⟨g, 0, none⟩ → g < w1.heap.size := fun g e => by subst e; exact (hown.lt g rfl).2
  have HO := Lib.hid (own_below hown hb2)
  have HO2 := Lib.hid hown2
  have HP := Lib.hid (own_plain hown)
  have HAL := Lib.hid hal
  have HB1 := Lib.hid hb1
  clear hown hown2 hal
  obtain ⟨l, hl⟩ : ∃ l, compsV a = l := ⟨_, rfl⟩
  obtain ⟨m, hm⟩ : ∃ m, compsV b = m := ⟨_, rfl⟩
  rw [hl] at h8 HN HO ⊢
  rw [hm] at h9 HN HO2 ⊢
  clear hl hm
  cases c1 : normB a
  · cases c2 : normB b
    · rw [c1, c2] at HN
      have HF := Lib.hid (show cmpN a b = cmpS a b from HN.out)
      clear c1 c2
      go_wp2_with (go_at_call 97; refine (compare_lib a b _).mono ?_; rintro e w' ⟨rfl, rfl⟩)
      go_ret
      exact ⟨by rw [HF.out]; rfl, L2⟩
    · rw [c1, c2] at HN
      have HF := Lib.hid (show cmpN a b = 1 from HN.out)
      clear c1 c2
      go_wp2
      go_ret
      exact ⟨by rw [HF.out]; rfl, L2⟩
  · cases c2 : normB b
    · rw [c1, c2] at HN
      have HF := Lib.hid (show cmpN a b = -1 from HN.out)
      clear c1 c2
      go_wp2
      go_ret
      exact ⟨by rw [HF.out]; rfl, L2⟩
    · rw [c1, c2] at HN
      have HF := Lib.hid (show cmpN a b = cmpL l.reverse m.reverse from HN.out)
      clear c1 c2
      go_wp2_with fail
      refine (reverse_s _ _ _ cap ao l HO.out rfl (by omega)).mono ?_
      rintro e w3 ⟨rfl, hat3, hb3, hk3⟩
      have HO3 := Lib.hid (own_keep HO2.out hk3 HAL.out)
      have L3 := L2.trans hb3
      have HA3 := Lib.hid hat3
      clear hat3 hk3 hb3
      go_wp2_with fail
      refine (reverse_s _ _ _ dap bo m HO3.out rfl (by omega)).mono ?_
      rintro e w4 ⟨rfl, hat4, hb4, hk4⟩
      have HA4 := Lib.hid (pairs_keep HA3.out hb4 (fun g off e => by
        rcases Nat.eq_zero_or_pos cap with hc | hc
        · have := HO.out.2
          rcases this with ⟨h, _⟩ | ⟨g2, c2, cur, h, h3, h4, h5, h6, h7, h8⟩
          · injection h with q; subst q; cases e
          · injection h with q1 q2 q3; subst q1; cases e; exact HAL.out _ rfl
        · obtain ⟨g2, rfl⟩ := own_some HO.out hc
          cases e; exact HAL.out _ rfl))
      have HB4 := Lib.hid hat4
      have L4 := L3.trans (hb4.mono HB1.out.size)
      clear hat4 hk4 hb4
      go_wp2_with fail
      refine (compareFunc_s ao bo _ cap _ dap l.reverse m.reverse _ HA4.out HB4.out (by omega) (by omega)).mono ?_
      rintro e w5 ⟨rfl, hb5⟩
      go_wp2
      go_ret
      exact ⟨by rw [HF.out]; rfl, below_next L4 hb5⟩
end Nam
end Go.Proofs.YtclfjdnemafmeaaGreatDoor
end

section
/-
  Slices of strings that the call has made or that came in, and the contract of the specification's Same. No condition beyond sizes.
-/
set_option maxRecDepth 100000
namespace Go.Proofs.YtclfjdnemafmeaaGreatDoor
open Go.RowKit Go.PlainAid
set_option maxRecDepth 100000 in
set_option maxHeartbeats 2000000 in
theorem lists_s (ao bo : Option Addr) (n m cap dap : Nat) (ps qs : List ByteArray) (w : World) (h : StrsAt w ao n cap ps) (k : StrsAt w bo m dap qs) :
    Calls Tryz.prog 17 #[.slice ao n cap, .slice bo m dap] w fun e w' => e = .returned (.bool (decide (ps = qs))) ∧ Below w.heap.size w w' := by
  obtain ⟨h1, h2, h3, h4⟩ := h
  obtain ⟨k1, k2, k3, k4⟩ := k
  subst h1
  subst k1
  unfold maxLen at h3 k3
  have H4 := Lib.hid h4; clear h4
  have K4 := Lib.hid k4; clear k4
  by_cases hne : ps.length = qs.length
  · have hn1 : ((ps.length : Int) != (qs.length : Int)) = false := by simp; omega
    go_enter Tryz.func17, Tryz.ntmps17
    go_wp2
    go_loopw [5] (fun i wr => ∃ k : Nat, k ≤ ps.length ∧ i = .int .i64 k ∧ Hid (∀ j, j < k → partAt ps j = partAt qs j) ∧ Below w.heap.size w wr) (fun i _ => ps.length - (intOf i).toNat)
    case atStart => exact ⟨0, Nat.zero_le _, rfl, Lib.hid (fun j hj => absurd hj (Nat.not_lt_zero _)), Below.refl _ _⟩
    case round =>
      obtain ⟨k, hk, rfl, HA, hbel⟩ := hrel
      by_cases hlt : k < ps.length
      · obtain ⟨b, off, rfl, hs⟩ := H4.out (by omega)
        obtain ⟨c, off2, rfl, hs2⟩ := K4.out (by omega)
        have hcell := (hs.below hbel hs.1).2 k hlt
        have hcell2 := (hs2.below hbel hs2.1).2 k (by omega)
        clear hs hs2
        obtain ⟨p, hpe⟩ : ∃ p, p = partAt ps k := ⟨_, rfl⟩
        obtain ⟨q, hqe⟩ : ∃ q, q = partAt qs k := ⟨_, rfl⟩
        rw [← hpe] at hcell
        rw [← hqe] at hcell2
        have HP := Lib.hid hpe; clear hpe
        have HQ := Lib.hid hqe; clear hqe
        have k1 : (0 : Int) ≤ (k : Int) := by omega
        have k2 : (k : Int) < (ps.length : Int) := by omega
        have k3 : (k : Int) < (qs.length : Int) := by omega
        by_cases hpq : p = q
        · have hq : (p.toList == q.toList) = true := by rw [hpq]; exact beq_self_eq_true _
          have HPQ := Lib.hid hpq; clear hpq
          go_wp2_with fail
          go_region_held3 (fun w' => w'.cell? ⟨b, off + k, none⟩ = some (.string p) ∧ w'.cell? ⟨c, off2 + k, none⟩ = some (.string q)) (go_keep) (fail)
          go_wp2
          go_roundw
          case rel =>
            refine ⟨k + 1, by omega, by go_num, Lib.hid fun j hj => ?_, hbel.drew⟩
            by_cases e : j = k
            · rw [e, ← HP.out, ← HQ.out, HPQ.out]
            · exact HA.out j (by omega)
          case measure => simp [intOf]; omega
        · have HE := Lib.hid (show decide (ps = qs) = false from decide_eq_false fun e => hpq (by rw [HP.out, HQ.out, e]))
          have hq : (p.toList == q.toList) = false := by
            rw [Lib.toList_data, Lib.toList_data]
            exact beq_false_of_ne fun e => hpq (by rw [← Lib.mk_data p, ← Lib.mk_data q, e])
          clear hpq
          go_wp2_with fail
          go_region_held3 (fun w' => w'.cell? ⟨b, off + k, none⟩ = some (.string p) ∧ w'.cell? ⟨c, off2 + k, none⟩ = some (.string q)) (go_keep) (fail)
          go_wp2
          go_ret
          exact ⟨by rw [HE.out]; rfl, hbel.drew⟩
      · have HE := Lib.hid (show decide (ps = qs) = true from decide_eq_true (strs_ext hne fun j hj => HA.out j (by omega)))
        go_wp2
        go_ret
        exact ⟨by rw [HE.out]; rfl, hbel⟩
  · have HE := Lib.hid (show decide (ps = qs) = false from decide_eq_false fun e => hne (by rw [e]))
    have hn1 : ((ps.length : Int) != (qs.length : Int)) = true := by simp; omega
    go_enter Tryz.func17, Tryz.ntmps17
    go_wp2
    go_ret
    exact ⟨by rw [HE.out]; rfl, Below.refl _ _⟩
end Go.Proofs.YtclfjdnemafmeaaGreatDoor
end

section
/-
  Types and classes of a schema in memory: slices of structs of three and of four cells, and the schema that a law is given, read out of memory with the form's own reach. No condition.
-/
set_option maxRecDepth 100000
set_option maxRecDepth 100000
namespace Go.Proofs.YtclfjdnemafmeaaGreatDoor
open Go.ChangeShapes Go.WideShapes Go.ChangeAt Go.RowKit Go.PlainAid
/-! ### elements of three and of four one-cell fields -/
section
variable {H : Type} {enc : TypeId × Value → H} {P : Program} {w : World} {base : Nat} {spare : Nat → Bool} {held : Bool}
theorem elem3 {e : TypeId} {f0 f1 f2 : Field} {n : Nat} {a : Addr} {cs : List Value} {y : DataW H × List MemPlace} (he : P.underlying e = some (.struct #[f0, f1, f2])) (ce : P.cellsOf e = 3)
    (o0 : f0.offset = 0) (o1 : f1.offset = 1) (o2 : f2.offset = 2) (c0 : P.cellsOf f0.type = 1) (c1 : P.cellsOf f1.type = 1) (c2 : P.cellsOf f2.type = 1)
    (h1 : w.cells? base a (P.cellsOf e) = some cs) (h2 : DataW.trod enc P w base spare held n e cs = some y) :
    ∃ v0 v1 v2 y0 y1 y2 m, w.cell? a = some v0 ∧ w.cell? (a.add 1) = some v1 ∧ w.cell? (a.add 2) = some v2 ∧ DataW.trod enc P w base spare held m f0.type [v0] = some y0 ∧ DataW.trod enc P w base spare held m f1.type [v1] = some y1 ∧ DataW.trod enc P w base spare held m f2.type [v2] = some y2 ∧ y.1 = .agg [y0.1, y1.1, y2.1] := by
  rw [ce] at h1
  obtain ⟨_, hlen, hcell⟩ := World.cells?_some h1
  obtain ⟨xs, k, hk, hxy, _, hxl, hf⟩ := DataW.trod_struct he h2
  match xs, hxl, cs, hlen with
  | [y0, y1, y2], _, [v0, v1, v2], _ =>
    have g0 := hf 0 f0 rfl
    have g1 := hf 1 f1 rfl
    have g2 := hf 2 f2 rfl
    simp [o0, o1, o2, c0, c1, c2] at g0 g1 g2
    have e0 := hcell 0 (by omega)
    have e1 := hcell 1 (by omega)
    have e2 := hcell 2 (by omega)
    exact ⟨v0, v1, v2, y0, y1, y2, k, by simpa [Addr.add] using e0, by simpa using e1, by simpa using e2, g0, g1, g2, by rw [hxy]; simp⟩
theorem elem4 {e : TypeId} {f0 f1 f2 f3 : Field} {n : Nat} {a : Addr} {cs : List Value} {y : DataW H × List MemPlace} (he : P.underlying e = some (.struct #[f0, f1, f2, f3])) (ce : P.cellsOf e = 4)
    (o0 : f0.offset = 0) (o1 : f1.offset = 1) (o2 : f2.offset = 2) (o3 : f3.offset = 3) (c0 : P.cellsOf f0.type = 1) (c1 : P.cellsOf f1.type = 1) (c2 : P.cellsOf f2.type = 1) (c3 : P.cellsOf f3.type = 1)
    (h1 : w.cells? base a (P.cellsOf e) = some cs) (h2 : DataW.trod enc P w base spare held n e cs = some y) :
    ∃ v0 v1 v2 v3 y0 y1 y2 y3 m, w.cell? a = some v0 ∧ w.cell? (a.add 1) = some v1 ∧ w.cell? (a.add 2) = some v2 ∧ w.cell? (a.add 3) = some v3 ∧ DataW.trod enc P w base spare held m f0.type [v0] = some y0 ∧ DataW.trod enc P w base spare held m f1.type [v1] = some y1 ∧ DataW.trod enc P w base spare held m f2.type [v2] = some y2 ∧ DataW.trod enc P w base spare held m f3.type [v3] = some y3 ∧ y.1 = .agg [y0.1, y1.1, y2.1, y3.1] := by
  rw [ce] at h1
  obtain ⟨_, hlen, hcell⟩ := World.cells?_some h1
  obtain ⟨xs, k, hk, hxy, _, hxl, hf⟩ := DataW.trod_struct he h2
  match xs, hxl, cs, hlen with
  | [y0, y1, y2, y3], _, [v0, v1, v2, v3], _ =>
    have g0 := hf 0 f0 rfl
    have g1 := hf 1 f1 rfl
    have g2 := hf 2 f2 rfl
    have g3 := hf 3 f3 rfl
    simp [o0, o1, o2, o3, c0, c1, c2, c3] at g0 g1 g2 g3
    have e0 := hcell 0 (by omega)
    have e1 := hcell 1 (by omega)
    have e2 := hcell 2 (by omega)
    have e3 := hcell 3 (by omega)
    exact ⟨v0, v1, v2, v3, y0, y1, y2, y3, k, by simpa [Addr.add] using e0, by simpa using e1, by simpa using e2, by simpa using e3, g0, g1, g2, g3, by rw [hxy]; simp⟩
end
/-- as many things as wanted, each with its property -/
theorem choose_list {α : Type} {n : Nat} (d : α) {Q : Nat → α → Prop} (h : ∀ i, i < n → ∃ a, Q i a) : ∃ l : List α, l.length = n ∧ ∀ i, i < n → Q i (l.getD i d) := by
  induction n with
  | zero => exact ⟨[], rfl, fun i hi => absurd hi (Nat.not_lt_zero _)⟩
  | succ n ih =>
    obtain ⟨l, hl, hp⟩ := ih (fun i hi => h i (by omega))
    obtain ⟨a, ha⟩ := h n (by omega)
    refine ⟨l ++ [a], by simp [hl], fun i hi => ?_⟩
    by_cases e : i = n
    · subst e
      rw [List.getD_eq_getElem?_getD, List.getElem?_append_right (by omega), hl]
      simpa using ha
    · rw [List.getD_eq_getElem?_getD, List.getElem?_append_left (by omega), ← List.getD_eq_getElem?_getD]
      exact hp i (by omega)
/-! ### types -/
/-- a type: its name, its syntax, whether it has one value at most -/
structure Ty where
  name : ByteArray
  syn : Int
  single : Bool
/-- a class: its name, the one above it, the names that it wants, the names that it allows -/
structure Cl where
  name : ByteArray
  super : ByteArray
  must : List ByteArray
  may : List ByteArray
instance : Inhabited Ty := ⟨⟨⟨#[]⟩, 0, false⟩⟩
instance : Inhabited Cl := ⟨⟨⟨#[]⟩, ⟨#[]⟩, [], []⟩⟩
def tyAt (l : List Ty) (j : Nat) : Ty := l.getD j default
def clAt (l : List Cl) (j : Nat) : Cl := l.getD j default
theorem ty_mem (l : List Ty) (j : Nat) (h : j < l.length) : tyAt l j ∈ l := by
  unfold tyAt; rw [List.getD_eq_getElem?_getD, List.getElem?_eq_getElem h]; exact List.getElem_mem h
theorem cl_mem (l : List Cl) (j : Nat) (h : j < l.length) : clAt l j ∈ l := by
  unfold clAt; rw [List.getD_eq_getElem?_getD, List.getElem?_eq_getElem h]; exact List.getElem_mem h
theorem mem_ty {l : List Ty} {t : Ty} (h : t ∈ l) : ∃ j, j < l.length ∧ tyAt l j = t := by
  obtain ⟨j, hj, e⟩ := List.mem_iff_getElem.1 h
  exact ⟨j, hj, by unfold tyAt; rw [List.getD_eq_getElem?_getD, List.getElem?_eq_getElem hj]; exact e⟩
theorem mem_cl {l : List Cl} {t : Cl} (h : t ∈ l) : ∃ j, j < l.length ∧ clAt l j = t := by
  obtain ⟨j, hj, e⟩ := List.mem_iff_getElem.1 h
  exact ⟨j, hj, by unfold clAt; rw [List.getD_eq_getElem?_getD, List.getElem?_eq_getElem hj]; exact e⟩
/-- a type in memory -/
def TyAt (w : World) (b off : Nat) (t : Ty) : Prop :=
  w.cell? ⟨b, off, none⟩ = some (.string t.name) ∧ w.cell? ⟨b, off + 1, none⟩ = some (.int .i64 t.syn) ∧ w.cell? ⟨b, off + 2, none⟩ = some (.bool t.single)
theorem TyAt.below {w w' : World} {b off : Nat} {t : Ty} (h : TyAt w b off t) (hb : Below w.heap.size w w') : TyAt w' b off t :=
  ⟨cell_later hb h.1, cell_later hb h.2.1, cell_later hb h.2.2⟩
/-- a slice of types in memory -/
def TysAt (w : World) (ao : Option Addr) (n cap : Nat) (l : List Ty) : Prop :=
  l.length = n ∧ n ≤ cap ∧ cap ≤ maxLen ∧ (0 < n → ∃ b off, ao = some ⟨b, off, none⟩ ∧ b < w.heap.size ∧ ∀ j, j < n → TyAt w b (off + j * 3) (tyAt l j))
theorem TysAt.below {w w' : World} {ao : Option Addr} {n cap : Nat} {l : List Ty} (h : TysAt w ao n cap l) (hb : Below w.heap.size w w') : TysAt w' ao n cap l :=
  ⟨h.1, h.2.1, h.2.2.1, fun hn => by
    obtain ⟨b, off, e, hi, ha⟩ := h.2.2.2 hn
    exact ⟨b, off, e, Nat.lt_of_lt_of_le hi hb.size, fun j hj => (ha j hj).below hb⟩⟩
/-- a class in memory -/
def ClAt (w : World) (b off : Nat) (c : Cl) : Prop :=
  w.cell? ⟨b, off, none⟩ = some (.string c.name) ∧ w.cell? ⟨b, off + 1, none⟩ = some (.string c.super) ∧
    (∃ vo vn vc, w.cell? ⟨b, off + 2, none⟩ = some (.slice vo vn vc) ∧ StrsAt w vo vn vc c.must) ∧ ∃ vo vn vc, w.cell? ⟨b, off + 3, none⟩ = some (.slice vo vn vc) ∧ StrsAt w vo vn vc c.may
theorem ClAt.below {w w' : World} {b off : Nat} {c : Cl} (h : ClAt w b off c) (hb : Below w.heap.size w w') : ClAt w' b off c := by
  obtain ⟨h0, h1, ⟨vo, vn, vc, h2, h3⟩, uo, un, uc, h4, h5⟩ := h
  exact ⟨cell_later hb h0, cell_later hb h1, ⟨vo, vn, vc, cell_later hb h2, h3.below hb⟩, uo, un, uc, cell_later hb h4, h5.below hb⟩
/-- a slice of classes in memory -/
def ClsAt (w : World) (ao : Option Addr) (n cap : Nat) (l : List Cl) : Prop :=
  l.length = n ∧ n ≤ cap ∧ cap ≤ maxLen ∧ (0 < n → ∃ b off, ao = some ⟨b, off, none⟩ ∧ b < w.heap.size ∧ ∀ j, j < n → ClAt w b (off + j * 4) (clAt l j))
theorem ClsAt.below {w w' : World} {ao : Option Addr} {n cap : Nat} {l : List Cl} (h : ClsAt w ao n cap l) (hb : Below w.heap.size w w') : ClsAt w' ao n cap l :=
  ⟨h.1, h.2.1, h.2.2.1, fun hn => by
    obtain ⟨b, off, e, hi, ha⟩ := h.2.2.2 hn
    exact ⟨b, off, e, Nat.lt_of_lt_of_le hi hb.size, fun j hj => (ha j hj).below hb⟩⟩
def RTy (l : List Ty) : Prop := ∀ t ∈ l, t.name.size ≤ 140737488355328
def RCl (l : List Cl) : Prop := ∀ c ∈ l, c.name.size ≤ 140737488355328 ∧ c.super.size ≤ 140737488355328 ∧ RS c.must ∧ RS c.may
/-- a string's datum, its reach -/
theorem trod_strR {H : Type} {enc : TypeId × Value → H} {W : World} {v : Value} {y : DataW H × List MemPlace} {fuel : Nat}
    (hf : DataW.trod enc Tryz.prog W 0 (fun _ => true) true fuel 9 [v] = some y) (hz : ∀ n ∈ y.1.weights Tryz.prog 9, n ≤ reachBytes) : ∃ s, v = .string s ∧ s.size ≤ 140737488355328 := by
  obtain ⟨s0, e0, ed, _⟩ := DataW.trod_string Tryz.underlying9 hf
  simp only [List.cons.injEq, and_true] at e0
  refine ⟨s0, e0, ?_⟩
  rw [ed] at hz
  refine reach_le (hz _ ?_)
  simp only [DataW.weights, List.mem_singleton]
  exact (str_len s0).symm
theorem cells_ty : Tryz.prog.cellsOf 32 = 3 := by kernel_rfl
theorem cells_cl : Tryz.prog.cellsOf 57 = 4 := by kernel_rfl
theorem und_syntax : Tryz.prog.underlying 30 = some (.int .i64) := by kernel_rfl
set_option maxRecDepth 100000 in
theorem trod_tysR {H : Type} {enc : TypeId × Value → H} {W : World} {v : Value} {y : DataW H × List MemPlace} {fuel : Nat}
    (hf : DataW.trod enc Tryz.prog W 0 (fun _ => true) true fuel 22 [v] = some y) (hz : ∀ n ∈ y.1.weights Tryz.prog 22, n ≤ reachBytes) : ∃ ao n cap l, v = .slice ao n cap ∧ TysAt W ao n cap l ∧ RTy l := by
  rcases Go.Deep.open_slice Tryz.underlying22 hf with ⟨hcs, hx⟩ | ⟨a, len, cap, m, n, D, Pl, hcs, _, hl, hm, hmm, hx, hel⟩
  · simp only [List.cons.injEq, and_true] at hcs
    exact ⟨none, 0, 0, [], hcs, ⟨rfl, Nat.le_refl _, by unfold maxLen; omega, fun h => absurd h (by omega)⟩, fun a ha => (List.not_mem_nil ha).elim⟩
  · simp only [List.cons.injEq, and_true] at hcs
    simp only [if_true] at hmm
    rw [hmm] at hel hx
    have each : ∀ i, i < len → ∃ t : Ty, (W.cell? (a.add (i * 3)) = some (.string t.name) ∧ W.cell? ((a.add (i * 3)).add 1) = some (.int .i64 t.syn) ∧ W.cell? ((a.add (i * 3)).add 2) = some (.bool t.single)) ∧ t.name.size ≤ 140737488355328 := fun i hi => by
      obtain ⟨cs, h1, h2⟩ := hel i (by omega)
      obtain ⟨v0, v1, v2, y0, y1, y2, k, e0, e1, e2, g0, g1, g2, hd⟩ := elem3 Tryz.underlying32 cells_ty rfl rfl rfl (by kernel_rfl) (by kernel_rfl) (by kernel_rfl) h1 h2
      have hw : ∀ n, n ∈ (DataW.agg [y0.1, y1.1, y2.1]).weights Tryz.prog 32 → n ≤ reachBytes := fun n hn => hz n (by
        rw [hx]
        exact slice_mem Tryz.underlying22 (List.mem_map.2 ⟨i, List.mem_range.2 hi, hd⟩) hn)
      obtain ⟨s, rfl, hs⟩ := trod_strR g0 fun n hn => hw n (by
        simp only [DataW.weights, Tryz.underlying32, DataW.weightsEach, List.map_cons, List.map_nil, List.mem_append]
        exact .inl hn)
      obtain ⟨x, hx1, _⟩ := DataW.trod_int und_syntax g1
      obtain ⟨t, ht1, _⟩ := DataW.trod_bool Tryz.underlying4 g2
      simp only [List.cons.injEq, and_true] at hx1 ht1
      rw [hx1] at e1
      rw [ht1] at e2
      rw [cells_ty] at e0 e1 e2
      exact ⟨⟨s, x, t⟩, ⟨e0, e1, e2⟩, hs⟩
    obtain ⟨l, hll, hlp⟩ := choose_list (default : Ty) each
    refine ⟨_, len, cap, l, hcs, ⟨hll, hl, hm, fun hn => ?_⟩, fun t ht => ?_⟩
    · obtain ⟨b, off, spot⟩ := a
      have h1 := (hlp 0 hn).1.1
      have hspot : spot = none := by simpa [Addr.add] using World.cell?_spot h1
      subst hspot
      refine ⟨b, off, rfl, ?_, fun j hj => ?_⟩
      · rw [add_plain] at h1; exact World.block_lt_of_cell? W _ h1
      · obtain ⟨⟨k0, k1, k2⟩, _⟩ := hlp j hj
        rw [add_plain] at k0 k1 k2
        rw [add_plain] at k1 k2
        exact ⟨k0, k1, k2⟩
    · obtain ⟨j, hj, rfl⟩ := mem_ty ht
      exact (hlp j (by omega)).2
set_option maxRecDepth 100000 in
theorem trod_clsR {H : Type} {enc : TypeId × Value → H} {W : World} {v : Value} {y : DataW H × List MemPlace} {fuel : Nat}
    (hf : DataW.trod enc Tryz.prog W 0 (fun _ => true) true fuel 23 [v] = some y) (hz : ∀ n ∈ y.1.weights Tryz.prog 23, n ≤ reachBytes) : ∃ ao n cap l, v = .slice ao n cap ∧ ClsAt W ao n cap l ∧ RCl l := by
  rcases Go.Deep.open_slice Tryz.underlying23 hf with ⟨hcs, hx⟩ | ⟨a, len, cap, m, n, D, Pl, hcs, _, hl, hm, hmm, hx, hel⟩
  · simp only [List.cons.injEq, and_true] at hcs
    exact ⟨none, 0, 0, [], hcs, ⟨rfl, Nat.le_refl _, by unfold maxLen; omega, fun h => absurd h (by omega)⟩, fun a ha => (List.not_mem_nil ha).elim⟩
  · simp only [List.cons.injEq, and_true] at hcs
    simp only [if_true] at hmm
    rw [hmm] at hel hx
    have each : ∀ i, i < len → ∃ t : Cl, (W.cell? (a.add (i * 4)) = some (.string t.name) ∧ W.cell? ((a.add (i * 4)).add 1) = some (.string t.super) ∧ (∃ vo vn vc, W.cell? ((a.add (i * 4)).add 2) = some (.slice vo vn vc) ∧ StrsAt W vo vn vc t.must) ∧ ∃ vo vn vc, W.cell? ((a.add (i * 4)).add 3) = some (.slice vo vn vc) ∧ StrsAt W vo vn vc t.may) ∧
        t.name.size ≤ 140737488355328 ∧ t.super.size ≤ 140737488355328 ∧ RS t.must ∧ RS t.may := fun i hi => by
      obtain ⟨cs, h1, h2⟩ := hel i (by omega)
      obtain ⟨v0, v1, v2, v3, y0, y1, y2, y3, k, e0, e1, e2, e3, g0, g1, g2, g3, hd⟩ := elem4 Tryz.underlying57 cells_cl rfl rfl rfl rfl (by kernel_rfl) (by kernel_rfl) (by kernel_rfl) (by kernel_rfl) h1 h2
      have hw : ∀ n, n ∈ (DataW.agg [y0.1, y1.1, y2.1, y3.1]).weights Tryz.prog 57 → n ≤ reachBytes := fun n hn => hz n (by
        rw [hx]
        exact slice_mem Tryz.underlying23 (List.mem_map.2 ⟨i, List.mem_range.2 hi, hd⟩) hn)
      simp only [DataW.weights, Tryz.underlying57, DataW.weightsEach, List.map_cons, List.map_nil, List.mem_append] at hw
      obtain ⟨s, rfl, hs⟩ := trod_strR g0 fun n hn => hw n (.inl hn)
      obtain ⟨u, rfl, hu⟩ := trod_strR g1 fun n hn => hw n (.inr (.inl hn))
      obtain ⟨vo, vn, vc, ms, rfl, hms, rms⟩ := trod_strsR g2 fun n hn => hw n (.inr (.inr (.inl hn)))
      obtain ⟨uo, un, uc, ys, rfl, hys, rys⟩ := trod_strsR g3 fun n hn => hw n (.inr (.inr (.inr (.inl hn))))
      rw [cells_cl] at e0 e1 e2 e3
      exact ⟨⟨s, u, ms, ys⟩, ⟨e0, e1, ⟨vo, vn, vc, e2, hms⟩, uo, un, uc, e3, hys⟩, hs, hu, rms, rys⟩
    obtain ⟨l, hll, hlp⟩ := choose_list (default : Cl) each
    refine ⟨_, len, cap, l, hcs, ⟨hll, hl, hm, fun hn => ?_⟩, fun t ht => ?_⟩
    · obtain ⟨b, off, spot⟩ := a
      have h1 := (hlp 0 hn).1.1
      have hspot : spot = none := by simpa [Addr.add] using World.cell?_spot h1
      subst hspot
      refine ⟨b, off, rfl, ?_, fun j hj => ?_⟩
      · rw [add_plain] at h1; exact World.block_lt_of_cell? W _ h1
      · obtain ⟨⟨k0, k1, ⟨vo, vn, vc, k2, m2⟩, uo, un, uc, k3, m3⟩, _⟩ := hlp j hj
        rw [add_plain] at k0 k1 k2 k3
        rw [add_plain] at k1 k2 k3
        exact ⟨k0, k1, ⟨vo, vn, vc, k2, m2⟩, uo, un, uc, k3, m3⟩
    · obtain ⟨j, hj, rfl⟩ := mem_cl ht
      exact (hlp j (by omega)).2
/-- the schema that a law is given -/
theorem open_schemaR {H : Type} {enc : TypeId × Value → H} {W : World} {base : Nat} {v : Value} {d : DataW H} {p : List MemPlace} (hval : Value.okWide Tryz.prog W .any base 25 v)
    (h0 : DataW.Trod enc Tryz.prog W 0 (fun _ => true) true 25 v d p) (hz : ∀ n ∈ d.weights Tryz.prog 25, n ≤ reachBytes) :
    ∃ to tn tc ts co cn cc cs, v = .agg #[.slice to tn tc, .slice co cn cc] ∧ TysAt W to tn tc ts ∧ RTy ts ∧ ClsAt W co cn cc cs ∧ RCl cs := by
  obtain ⟨v0, v1, y0, y1, n, rfl, rfl, _, h1, h2⟩ := Go.Joins.open_agg2 Tryz.underlying25 (by kernel_rfl) (by kernel_rfl) hval h0
  simp only [DataW.weights, Tryz.underlying25, DataW.weightsEach, List.map_cons, List.map_nil, List.mem_append] at hz
  obtain ⟨to, tn, tc, ts, rfl, ht, rt⟩ := trod_tysR h1 fun n hn => hz n (.inl hn)
  obtain ⟨co, cn, cc, cs, rfl, hc, rc⟩ := trod_clsR h2 fun n hn => hz n (.inr (.inl hn))
  exact ⟨to, tn, tc, ts, co, cn, cc, cs, rfl, ht, rt, hc, rc⟩
end Go.Proofs.YtclfjdnemafmeaaGreatDoor
end

section
/-
  A schema as a pure value: the type and the class of a name, the first error, the lineage, what is wanted and allowed. No condition.
-/
set_option maxRecDepth 100000
set_option maxRecDepth 100000
namespace Go.Proofs.YtclfjdnemafmeaaGreatDoor
open Go.RowKit Go.PlainAid
/-- the type, the class of a name, whatever the letters' case -/
def tyOf (l : List Ty) (n : ByteArray) : Option Ty := l.find? fun t => decide (lowS t.name = lowS n)
def clOf (l : List Cl) (n : ByteArray) : Option Cl := l.find? fun c => decide (lowS c.name = lowS n)
theorem tyOf_low (l : List Ty) (n : ByteArray) : tyOf l (lowS n) = tyOf l n := by unfold tyOf; rw [lowS_low]
theorem clOf_low (l : List Cl) (n : ByteArray) : clOf l (lowS n) = clOf l n := by unfold clOf; rw [lowS_low]
theorem ty_take (l : List Ty) (k : Nat) (h : k < l.length) : l.take (k + 1) = l.take k ++ [tyAt l k] := by
  unfold tyAt; rw [List.getD_eq_getElem?_getD, List.getElem?_eq_getElem h]; exact List.take_succ_eq_append_getElem h
theorem cl_take (l : List Cl) (k : Nat) (h : k < l.length) : l.take (k + 1) = l.take k ++ [clAt l k] := by
  unfold clAt; rw [List.getD_eq_getElem?_getD, List.getElem?_eq_getElem h]; exact List.take_succ_eq_append_getElem h
theorem tyOf_snoc (l : List Ty) (t : Ty) (n : ByteArray) : tyOf (l ++ [t]) n = (tyOf l n).or (if lowS t.name = lowS n then some t else none) := by
  unfold tyOf
  rw [List.find?_append]
  by_cases h : lowS t.name = lowS n
  · rw [if_pos h, List.find?_cons_of_pos (by simpa using h)]
  · rw [if_neg h, List.find?_cons_of_neg (by simpa using h), List.find?_nil]
theorem clOf_snoc (l : List Cl) (t : Cl) (n : ByteArray) : clOf (l ++ [t]) n = (clOf l n).or (if lowS t.name = lowS n then some t else none) := by
  unfold clOf
  rw [List.find?_append]
  by_cases h : lowS t.name = lowS n
  · rw [if_pos h, List.find?_cons_of_pos (by simpa using h)]
  · rw [if_neg h, List.find?_cons_of_neg (by simpa using h), List.find?_nil]
/-- every name has a type -/
def typedB (ts : List Ty) (ns : List ByteArray) : Bool := ns.all fun n => (tyOf ts n).isSome
/-- the error of type j, of class k -/
def errT (ts : List Ty) (j : Nat) : Int :=
  if nameB (tyAt ts j).name = false then 5 else if (tyOf (ts.take j) (tyAt ts j).name).isSome = true then 7 else if (tyAt ts j).syn < 1 ∨ 5 < (tyAt ts j).syn then 8 else 0
def errC (ts : List Ty) (cs : List Cl) (k : Nat) : Int :=
  if nameB (clAt cs k).name = false then 5
  else if (clOf (cs.take k) (clAt cs k).name).isSome = true then 7
  else if (clAt cs k).super.size ≠ 0 ∧ (clOf (cs.take k) (clAt cs k).super).isSome = false then 6
  else if 64 < (clAt cs k).must.length ∨ 64 < (clAt cs k).may.length then 3
  else if typedB ts (clAt cs k).must = false ∨ typedB ts (clAt cs k).may = false then 6 else 0
/-- the name 'class' -/
def classN : ByteArray := ⟨#[99, 108, 97, 115, 115]⟩
/-- the first error of a schema -/
def chkS (ts : List Ty) (cs : List Cl) : Int :=
  if 64 < ts.length ∨ 32 < cs.length then 3
  else if firstE (errT ts) ts.length ≠ 0 then firstE (errT ts) ts.length
  else if firstE (errC ts cs) cs.length ≠ 0 then firstE (errC ts cs) cs.length
  else match tyOf ts classN with
    | none => 6
    | some t => if t.syn = 1 then 0 else 8
/-- the types, the classes of a schema that is accepted -/
def soundT (ts : List Ty) (cs : List Cl) : List Ty := if chkS ts cs = 0 then ts else []
def soundC (ts : List Ty) (cs : List Cl) : List Cl := if chkS ts cs = 0 then cs else []
/-- a class and those above it: the next one lies ahead of it in the list -/
def lineG (l : List Cl) : Nat → ByteArray → List Cl
  | 0, _ => []
  | k + 1, n => match clOf l n with
    | none => []
    | some c => c :: lineG l k c.super
def lineS (l : List Cl) (n : ByteArray) : List Cl := lineG l (l.length + 1) n
def mustS (l : List Cl) (n : ByteArray) : List ByteArray := sortU ((lineS l n).flatMap fun c => c.must.map lowS)
def mayS (l : List Cl) (n : ByteArray) : List ByteArray := sortU ((lineS l n).flatMap fun c => (c.must ++ c.may).map lowS)
end Go.Proofs.YtclfjdnemafmeaaGreatDoor
end

section
/-
  Contracts of the specification's same, typeAt and classAt. No condition.
-/
set_option maxRecDepth 100000
set_option maxRecDepth 100000
namespace Go.Proofs.YtclfjdnemafmeaaGreatDoor
open Go.RowKit Go.PlainAid
theorem ty_hit {l : List Ty} {n : ByteArray} {k : Nat} (h : k < l.length) (hn : tyOf (l.take k) n = none) (e : lowS (tyAt l k).name = lowS n) : tyOf l n = some (tyAt l k) := by
  have h1 : tyOf (l.take (k + 1)) n = some (tyAt l k) := by rw [ty_take l k h, tyOf_snoc, hn, if_pos e]; rfl
  have h2 : tyOf (l.take (k + 1) ++ l.drop (k + 1)) n = some (tyAt l k) := by
    unfold tyOf at h1 ⊢
    rw [List.find?_append, h1]; rfl
  rwa [List.take_append_drop] at h2
theorem ty_miss {l : List Ty} {n : ByteArray} {k : Nat} (h : k < l.length) (hn : tyOf (l.take k) n = none) (e : lowS (tyAt l k).name ≠ lowS n) : tyOf (l.take (k + 1)) n = none := by
  rw [ty_take l k h, tyOf_snoc, hn, if_neg e]; rfl
theorem cl_hit {l : List Cl} {n : ByteArray} {k : Nat} (h : k < l.length) (hn : clOf (l.take k) n = none) (e : lowS (clAt l k).name = lowS n) : clOf l n = some (clAt l k) := by
  have h1 : clOf (l.take (k + 1)) n = some (clAt l k) := by rw [cl_take l k h, clOf_snoc, hn, if_pos e]; rfl
  have h2 : clOf (l.take (k + 1) ++ l.drop (k + 1)) n = some (clAt l k) := by
    unfold clOf at h1 ⊢
    rw [List.find?_append, h1]; rfl
  rwa [List.take_append_drop] at h2
theorem cl_miss {l : List Cl} {n : ByteArray} {k : Nat} (h : k < l.length) (hn : clOf (l.take k) n = none) (e : lowS (clAt l k).name ≠ lowS n) : clOf (l.take (k + 1)) n = none := by
  rw [cl_take l k h, clOf_snoc, hn, if_neg e]; rfl
/-- an index of the type, of the class of a name, or -1 -/
def TyIx (l : List Ty) (n : ByteArray) (r : Int) : Prop := (∃ k : Nat, r = k ∧ k < l.length ∧ tyOf l n = some (tyAt l k)) ∨ (r = -1 ∧ tyOf l n = none)
def ClIx (l : List Cl) (n : ByteArray) (r : Int) : Prop := (∃ k : Nat, r = k ∧ k < l.length ∧ clOf l n = some (clAt l k)) ∨ (r = -1 ∧ clOf l n = none)
set_option maxHeartbeats 4000000 in
theorem same7_s (a b : ByteArray) (w : World) (ha : a.size ≤ 1000000000) (hb : b.size ≤ 1000000000) :
    Calls Tryz.prog 85 #[.string a, .string b] w fun e w' => e = .returned (.bool (decide (lowS a = lowS b))) ∧ Below w.heap.size w w' := by
  go_enter Tryz.func85, Tryz.ntmps85
  go_wp2_with fail
  refine (rLower_s a w ha).mono ?_
  rintro e w1 ⟨rfl, h1⟩
  have HB1 := Lib.hid h1
  clear h1
  go_wp2_with fail
  refine (rLower_s b w1 hb).mono ?_
  rintro e w2 ⟨rfl, h2⟩
  have HB2 := Lib.hid (HB1.out.trans (h2.mono HB1.out.size))
  clear h2
  go_wp2_with fail
  go_ret
  exact ⟨by rw [str_eq]; rfl, HB2.out⟩
set_option maxHeartbeats 4000000 in
theorem typeAt_s (ao : Option Addr) (n cap : Nat) (l : List Ty) (nam : ByteArray) (w : World) (h : TysAt w ao n cap l) (hS : ∀ t ∈ l, t.name.size ≤ 1000000000) (hn : nam.size ≤ 1000000000) :
    Calls Tryz.prog 44 #[.slice ao n cap, .string nam] w fun e w' => ∃ r, e = .returned (.int .i64 r) ∧ TyIx l nam r ∧ Below w.heap.size w w' := by
  obtain ⟨h1, h2, h3, h4⟩ := h
  subst h1
  unfold maxLen at h3
  have H4 := Lib.hid h4; clear h4
  have HS := Lib.hid hS; clear hS
  go_enter Tryz.func44, Tryz.ntmps44
  go_wp2_with fail
  go_loopw [5] (fun iv wr => ∃ k : Nat, k ≤ l.length ∧ iv = .int .i64 k ∧ Hid (tyOf (l.take k) nam = none) ∧ Hid (Below w.heap.size w wr)) (fun iv _ => l.length - (intOf iv).toNat)
  case atStart => exact ⟨0, Nat.zero_le _, rfl, Lib.hid (by rw [List.take_zero]; rfl), Lib.hid (Below.refl _ _)⟩
  case round =>
    obtain ⟨k, hk, rfl, HN, HB⟩ := hrel
    by_cases hlt : k < l.length
    · have d1 : decide ((k : Int) < (l.length : Int)) = true := decide_eq_true (by omega)
      have d3 : (k : Int) < (l.length : Int) := by omega
      obtain ⟨b, off, rfl, hbl, hs⟩ := H4.out (by omega)
      have hcell := ((hs k hlt).below HB.out).1
      clear hs
      have hps := HS.out _ (ty_mem l k hlt)
      have HE := Lib.hid (fun e => ty_hit (n := nam) hlt HN.out e)
      have HM := Lib.hid (fun e => ty_miss (n := nam) hlt HN.out e)
      obtain ⟨T, hT⟩ : ∃ x, tyAt l k = x := ⟨_, rfl⟩
      have HT := Lib.hid hT
      rw [hT] at hcell hps HE HM
      clear hT
      obtain ⟨p, hp⟩ : ∃ x, T.name = x := ⟨_, rfl⟩
      rw [hp] at hcell hps HE HM
      clear hp
      go_wp2_with fail
      refine (same7_s p nam _ hps hn).mono ?_
      rintro e w1 ⟨rfl, hb⟩
      have HB1 := Lib.hid (HB.out.trans (hb.mono HB.out.size))
      clear hb hcell
      by_cases hq : lowS p = lowS nam
      · rw [decide_eq_true hq]
        have HR := Lib.hid (HE.out hq)
        clear hq
        go_wp2_with fail
        go_ret
        exact ⟨k, rfl, .inl ⟨k, rfl, by omega, by rw [HT.out]; exact HR.out⟩, HB1.out⟩
      · rw [decide_eq_false hq]
        have HR := Lib.hid (HM.out hq)
        clear hq
        go_wp2_with fail
        go_roundw
        case rel => exact ⟨k + 1, by omega, by go_num, HR, HB1⟩
        case measure => simp [intOf]; omega
    · obtain rfl : l.length = k := by omega
      have d1 : decide ((l.length : Int) < (l.length : Int)) = false := decide_eq_false (by omega)
      have HR := Lib.hid (show tyOf l nam = none by have := HN.out; rwa [List.take_length] at this)
      go_wp2_with fail
      go_ret
      exact ⟨-1, rfl, .inr ⟨rfl, HR.out⟩, HB.out⟩
set_option maxHeartbeats 4000000 in
theorem classAt_s (ao : Option Addr) (n cap : Nat) (l : List Cl) (nam : ByteArray) (w : World) (h : ClsAt w ao n cap l) (hS : ∀ t ∈ l, t.name.size ≤ 1000000000) (hn : nam.size ≤ 1000000000) :
    Calls Tryz.prog 86 #[.slice ao n cap, .string nam] w fun e w' => ∃ r, e = .returned (.int .i64 r) ∧ ClIx l nam r ∧ Below w.heap.size w w' := by
  obtain ⟨h1, h2, h3, h4⟩ := h
  subst h1
  unfold maxLen at h3
  have H4 := Lib.hid h4; clear h4
  have HS := Lib.hid hS; clear hS
  go_enter Tryz.func86, Tryz.ntmps86
  go_wp2_with fail
  go_loopw [5] (fun iv wr => ∃ k : Nat, k ≤ l.length ∧ iv = .int .i64 k ∧ Hid (clOf (l.take k) nam = none) ∧ Hid (Below w.heap.size w wr)) (fun iv _ => l.length - (intOf iv).toNat)
  case atStart => exact ⟨0, Nat.zero_le _, rfl, Lib.hid (by rw [List.take_zero]; rfl), Lib.hid (Below.refl _ _)⟩
  case round =>
    obtain ⟨k, hk, rfl, HN, HB⟩ := hrel
    by_cases hlt : k < l.length
    · have d1 : decide ((k : Int) < (l.length : Int)) = true := decide_eq_true (by omega)
      have d3 : (k : Int) < (l.length : Int) := by omega
      obtain ⟨b, off, rfl, hbl, hs⟩ := H4.out (by omega)
      have hcell := ((hs k hlt).below HB.out).1
      clear hs
      have hps := HS.out _ (cl_mem l k hlt)
      have HE := Lib.hid (fun e => cl_hit (n := nam) hlt HN.out e)
      have HM := Lib.hid (fun e => cl_miss (n := nam) hlt HN.out e)
      obtain ⟨T, hT⟩ : ∃ x, clAt l k = x := ⟨_, rfl⟩
      have HT := Lib.hid hT
      rw [hT] at hcell hps HE HM
      clear hT
      obtain ⟨p, hp⟩ : ∃ x, T.name = x := ⟨_, rfl⟩
      rw [hp] at hcell hps HE HM
      clear hp
      go_wp2_with fail
      refine (same7_s p nam _ hps hn).mono ?_
      rintro e w1 ⟨rfl, hb⟩
      have HB1 := Lib.hid (HB.out.trans (hb.mono HB.out.size))
      clear hb hcell
      by_cases hq : lowS p = lowS nam
      · rw [decide_eq_true hq]
        have HR := Lib.hid (HE.out hq)
        clear hq
        go_wp2_with fail
        go_ret
        exact ⟨k, rfl, .inl ⟨k, rfl, by omega, by rw [HT.out]; exact HR.out⟩, HB1.out⟩
      · rw [decide_eq_false hq]
        have HR := Lib.hid (HM.out hq)
        clear hq
        go_wp2_with fail
        go_roundw
        case rel => exact ⟨k + 1, by omega, by go_num, HR, HB1⟩
        case measure => simp [intOf]; omega
    · obtain rfl : l.length = k := by omega
      have d1 : decide ((l.length : Int) < (l.length : Int)) = false := decide_eq_false (by omega)
      have HR := Lib.hid (show clOf l nam = none by have := HN.out; rwa [List.take_length] at this)
      go_wp2_with fail
      go_ret
      exact ⟨-1, rfl, .inr ⟨rfl, HR.out⟩, HB.out⟩
end Go.Proofs.YtclfjdnemafmeaaGreatDoor
end

section
/-
  Contract of the laws' guard short at schema. No condition.
-/
set_option maxRecDepth 100000
set_option maxRecDepth 100000
namespace Go.Proofs.YtclfjdnemafmeaaGreatDoor
open Go.RowKit Go.PlainAid
/-- what a guard answers: true only where G holds -/
structure Guards (G : Prop) (w : World) (e : Ending) (w' : World) : Prop where
  ans : ∃ b : Bool, e = .returned (.bool b) ∧ (b = true → G) ∧ w' = w
theorem guard_no {G : Prop} {w : World} : Guards G w (.returned (.bool false)) w := ⟨⟨false, rfl, (fun e => by cases e), rfl⟩⟩
theorem guard_yes {G : Prop} {w : World} (h : G) : Guards G w (.returned (.bool true)) w := ⟨⟨true, rfl, fun _ => h, rfl⟩⟩
/-- at most 70 strings of at most 70 bytes -/
structure Short7 (l : List ByteArray) : Prop where
  len : l.length ≤ 70
  each : ∀ v ∈ l, v.size ≤ 70
set_option maxHeartbeats 4000000 in
theorem short7_s (ao : Option Addr) (n cap : Nat) (l : List ByteArray) (w : World) (h : StrsAt w ao n cap l) (hR : RS l) :
    Calls Tryz.prog 40 #[.slice ao n cap] w fun e w' => Guards (Short7 l) w e w' := by
  obtain ⟨h1, h2, h3, h4⟩ := h
  subst h1
  unfold maxLen at h3
  have H4 := Lib.hid h4; clear h4
  have HR := Lib.hid hR; clear hR
  go_enter Tryz.func40, Tryz.ntmps40
  go_wp2
  go_loop [3] (fun i => ∃ k : Nat, k ≤ l.length ∧ i = .int .i64 k ∧ Hid (∀ v ∈ l.take k, v.size ≤ 70)) (fun i => l.length - (intOf i).toNat)
  case atStart => exact ⟨0, Nat.zero_le _, rfl, Lib.hid (fun v hv => by rw [List.take_zero] at hv; exact absurd hv List.not_mem_nil)⟩
  case round =>
    obtain ⟨k, hk, rfl, HV⟩ := hrel
    by_cases hlt : k < l.length
    · have d1 : decide ((k : Int) < (l.length : Int)) = true := decide_eq_true (by omega)
      obtain ⟨b, off, rfl, hs⟩ := H4.out (by omega)
      have hcell := hs.2 k hlt
      clear hs
      have hps := HR.out _ (part_mem l k hlt)
      have HT := Lib.hid (take_snoc l k hlt)
      obtain ⟨p, hp⟩ : ∃ x, partAt l k = x := ⟨_, rfl⟩
      rw [hp] at hcell hps HT
      clear hp
      have d3 : (k : Int) < (l.length : Int) := by omega
      by_cases h7 : 70 < p.size
      · have d4 : decide ((70 : Int) < (p.size : Int)) = true := decide_eq_true (by omega)
        go_wp2_with fail
        go_ret
        exact guard_no
      · have d4 : decide ((70 : Int) < (p.size : Int)) = false := decide_eq_false (by omega)
        have HV2 := Lib.hid (show ∀ v ∈ l.take (k + 1), v.size ≤ 70 from fun v hv => by
          rw [HT.out] at hv
          rcases List.mem_append.1 hv with q | q
          · exact HV.out v q
          · rw [List.mem_singleton.1 q]; omega)
        go_wp2_with fail
        go_round
        case rel => exact ⟨k + 1, by omega, by go_num, HV2⟩
        case measure => simp [intOf]; omega
    · obtain rfl : l.length = k := by omega
      have d1 : decide ((l.length : Int) < (l.length : Int)) = false := decide_eq_false (by omega)
      have HV2 := Lib.hid (show ∀ v ∈ l, v.size ≤ 70 by have := HV.out; rwa [List.take_length] at this)
      by_cases h5 : l.length ≤ 70
      · have d4 : decide ((l.length : Int) ≤ (70 : Int)) = true := decide_eq_true (by omega)
        have HG := Lib.hid (show Short7 l from ⟨h5, HV2.out⟩)
        go_wp2_with fail
        go_ret
        exact guard_yes HG.out
      · have d4 : decide ((l.length : Int) ≤ (70 : Int)) = false := decide_eq_false (by omega)
        go_wp2_with fail
        go_ret
        exact guard_no
end Go.Proofs.YtclfjdnemafmeaaGreatDoor
end
