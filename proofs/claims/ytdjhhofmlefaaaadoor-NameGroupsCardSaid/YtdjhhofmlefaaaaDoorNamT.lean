/-
  Contracts of slices.Reverse and slices.CompareFunc at pairs, and of Compare in the program. Condition: at most 1000000 bytes.
-/
import Derived.Test.YtdjhhofmlefaaaaDoorNamO
set_option linter.unusedVariables false
set_option linter.unusedSimpArgs false
set_option linter.unnecessarySimpa false
namespace Go.Proofs.YtdjhhofmlefaaaaDoor
open Go.RowKit Go.PlainAid Go.Shelf
open Go.Sort (HoldsK putRowK flatK size_flatK get_flatK holdsK_putRowK)

def encP (p : Pr) : List Value := [.string p.1, .string p.2]
instance : Inhabited Pr := ⟨(ByteArray.empty, ByteArray.empty)⟩
theorem get_pr (l : List Pr) (j : Nat) : l[j]! = prAt l j := by
  unfold prAt; rw [List.getElem!_eq_getElem?_getD, List.getD_eq_getElem?_getD]; rfl
theorem holds_pairs {w : World} {base g n cap : Nat} {l : List Pr} (h : w.ownsRow base 36 2 (.slice (some ⟨g, 0, none⟩) n cap) n (pcells l)) (hl : l.length = n) : HoldsK encP 2 w g 0 l.toArray := by
  intro j hj
  obtain ⟨_, _, _, _, _, hfz, _⟩ := own_heap h
  obtain ⟨xo, dap, he, hat⟩ := pairs_own h hl
  cases he
  have hj2 : j < l.toArray.size * 2 := by rw [size_flatK] at hj; exact hj
  have hs : l.toArray.size = l.length := by simp
  obtain ⟨b, off, e, hp⟩ := hat.2.2.2 (by omega)
  cases e
  have hk := hp.2 (j / 2) (by omega)
  rw [get_flatK _ _ _ _ hj2]
  have e : (l.toArray)[j / 2]! = prAt l (j / 2) := by rw [← get_pr]; simp
  rw [e]
  refine ⟨?_, hfz _⟩
  rcases Nat.mod_two_eq_zero_or_one j with e2 | e2
  · rw [e2, show 0 + j = 0 + j / 2 * 2 by omega, hk.1]; rfl
  · rw [e2, show 0 + j = 0 + j / 2 * 2 + 1 by omega, hk.2]; rfl
theorem pairs_holds {w : World} {g cap : Nat} {d : Array Pr} (h : HoldsK encP 2 w g 0 d) (hg : g < w.heap.size) (h1 : d.size ≤ cap) (h2 : cap ≤ maxLen) : PairsAt w (some ⟨g, 0, none⟩) d.size cap d.toList := by
  refine ⟨by simp, h1, h2, fun _ => ⟨g, 0, rfl, hg, fun j hj => ?_⟩⟩
  have hj2 : j < d.size := by simpa using hj
  have e : prAt d.toList j = d[j]! := by
    rw [← get_pr, getElem!_pos d j hj2, getElem!_pos d.toList j hj]; simp
  have c0 := (h.cell hj2 (c := 0) (by omega)).1
  have c1 := (h.cell hj2 (c := 1) (by omega)).1
  rw [e]
  exact ⟨c0, c1⟩
/-- what a call keeps that writes into one block alone -/
def BlockKeep (ao : Option Addr) (w w' : World) : Prop := w.heap.size ≤ w'.heap.size ∧ ∀ k, k < w.heap.size → (∀ g, ao = some ⟨g, 0, none⟩ → k ≠ g) → w'.heap[k]? = w.heap[k]?
theorem reverse_s (w : World) (base n cap : Nat) (ao : Option Addr) (l : List Pr) (h : w.ownsRow base 36 2 (.slice ao n cap) n (pcells l)) (hl : l.length = n) (hn : n ≤ 1000) :
    Calls Tryd.prog 55 #[.slice ao n cap] w fun e w' => e = .returned (.tuple #[]) ∧ PairsAt w' ao n cap l.reverse ∧ Below base w w' ∧ BlockKeep ao w w' := by
  rcases Nat.eq_zero_or_pos n with h0 | h0
  · subst h0
    have e1 : l = [] := List.length_eq_zero_iff.1 hl
    subst e1
    have hat : PairsAt w ao 0 cap [] := by obtain ⟨xo, dap, e, hat⟩ := pairs_own h rfl; cases e; exact hat
    refine (AnyQ.slices_Reverse_empty Tryd.layE35 ao cap w).mono fun e w' k => ?_
    obtain ⟨he, rfl⟩ := k
    exact ⟨he, hat, Below.refl _ _, Nat.le_refl _, fun _ _ _ => rfl⟩
  · have hcap : 0 < cap := by have := own_fit h; omega
    obtain ⟨g, rfl⟩ := own_some h hcap
    obtain ⟨hbg, hgw, hnc, hcm, _, _, _⟩ := own_heap h
    have hsz : l.toArray.size = n := by simpa using hl
    have hcon := AnyQ.slices_Reverse Tryd.layE35 2 Tryd.isAgg36 Tryd.sizeOf36 encP (fun _ => rfl) (fun x v hv => by simp [encP] at hv; rcases hv with rfl | rfl <;> rfl) g 0 cap l.toArray w (holds_pairs h hl) (by rw [hsz]; omega)
    rw [hsz] at hcon
    refine hcon.mono fun e w' k => ?_
    obtain ⟨he, q, rfl⟩ := k
    have hH := holdsK_putRowK (enc := encP) (k := 2) (Go.Sort.ahead w q) g 0 l.toArray l.toArray.reverse (holds_pairs h hl) (by simp)
    have hz : (putRowK encP 2 (Go.Sort.ahead w q) g 0 l.toArray.reverse).heap.size = w.heap.size := by show (w.heap.modify g _).size = _; simp
    have hoth : ∀ k, k ≠ g → (putRowK encP 2 (Go.Sort.ahead w q) g 0 l.toArray.reverse).heap[k]? = w.heap[k]? := fun k hk => by
      show (w.heap.modify g _)[k]? = _
      rw [Array.getElem?_modify, if_neg (fun e => hk e.symm)]
    have hat := pairs_holds hH (by rw [hz]; exact hgw) (show l.toArray.reverse.size ≤ cap by simp; omega) hcm
    have e1 : l.toArray.reverse.size = n := by simpa using hl
    have e2 : l.toArray.reverse.toList = l.reverse := by simp
    rw [e1, e2] at hat
    refine ⟨he, hat, ⟨rfl, rfl, rfl, by rw [hz]; exact Nat.le_refl _, fun k hk => hoth k (by omega)⟩, by rw [hz]; exact Nat.le_refl _, fun k _ hk => hoth k (hk g rfl)⟩

theorem cmpL_step (l q : List Pr) (k : Nat) (h1 : k < l.length) (h2 : k < q.length) : cmpL (l.drop k) (q.drop k) = if cmpP (prAt l k) (prAt q k) = 0 then cmpL (l.drop (k + 1)) (q.drop (k + 1)) else cmpP (prAt l k) (prAt q k) := by
  have hd : ∀ (x : List Pr), k < x.length → x.drop k = prAt x k :: x.drop (k + 1) := fun x hx => by
    unfold prAt; rw [List.getD_eq_getElem?_getD, List.getElem?_eq_getElem hx]; exact List.drop_eq_getElem_cons hx
  rw [hd l h1, hd q h2]; rfl
theorem cmpL_left (l q : List Pr) (k : Nat) (h1 : k < l.length) (h2 : q.length ≤ k) : cmpL (l.drop k) (q.drop k) = 1 := by
  rw [List.drop_eq_nil_of_le h2, List.drop_eq_getElem_cons h1]; rfl
theorem cmpL_right (l q : List Pr) (k : Nat) (h1 : l.length ≤ k) : cmpL (l.drop k) (q.drop k) = if k < q.length then -1 else 0 := by
  rw [List.drop_eq_nil_of_le h1]
  by_cases h2 : k < q.length
  · rw [if_pos h2, List.drop_eq_getElem_cons h2]; rfl
  · rw [if_neg h2, List.drop_eq_nil_of_le (by omega)]; rfl

set_option maxRecDepth 100000 in
set_option maxHeartbeats 4000000 in
theorem compareFunc_s (ao bo : Option Addr) (n cap m dap : Nat) (l q : List Pr) (w : World) (hl : PairsAt w ao n cap l) (hq : PairsAt w bo m dap q) (hn : n ≤ 1000) (hm : m ≤ 1000) :
    Calls Tryd.prog 56 #[.slice ao n cap, .slice bo m dap, .func (.func 57) #[] #[]] w fun e w' => e = .returned (.int .i64 (cmpL l q)) ∧ Below w.heap.size w w' := by
  have HA := Lib.hid hl
  have HQ := Lib.hid hq
  have hl1 := hl.1
  have hq1 := hq.1
  have hl2 : n = l.length := hl1.symm
  have hq2 : m = q.length := hq1.symm
  clear hl hq hl1 hq1
  subst hl2 hq2
  go_enter Tryd.func56, Tryd.ntmps56
  go_wp2
  go_loopw [13] (fun i wr => ∃ k : Nat, k ≤ l.length ∧ k ≤ q.length ∧ i = .int .i64 k ∧ Hid (cmpL l q = cmpL (l.drop k) (q.drop k)) ∧ Below w.heap.size w wr) (fun i _ => l.length - (intOf i).toNat)
  case atStart => exact ⟨0, Nat.zero_le _, Nat.zero_le _, rfl, Lib.hid rfl, Below.refl _ _⟩
  case round =>
    obtain ⟨k, hk, hkq, rfl, HC, hbel⟩ := hrel
    by_cases hlt : k < l.length
    · obtain ⟨b, off, rfl, hs⟩ := HA.out.2.2.2 (by omega)
      obtain ⟨hc1, hc2⟩ := (hs.below hbel hs.1).2 k hlt
      obtain ⟨⟨p1, p2⟩, hpe⟩ : ∃ p, p = prAt l k := ⟨_, rfl⟩
      by_cases hltq : k < q.length
      · obtain ⟨b2, off2, rfl, hs2⟩ := HQ.out.2.2.2 (by omega)
        have HST := Lib.hid (cmpL_step l q k hlt hltq)
        obtain ⟨⟨q1, q2⟩, hqe⟩ : ∃ p, p = prAt q k := ⟨_, rfl⟩
        rw [← hpe, ← hqe] at HST
        rw [← hpe] at hc1 hc2
        have hbx := below_new (w := wr) (.cells #[.string p1, .string p2] 36)
        obtain ⟨hd1, hd2⟩ := (hs2.below (hbel.trans (hbx.mono hbel.size)) hs2.1).2 k hltq
        rw [← hqe] at hd1 hd2
        simp only [] at hc1 hc2 hd1 hd2
        have X1 := (pbox_new wr (p1, p2)).alloc (.cells #[.string q1, .string q2] 36)
        have X2 := pbox_new (wr.alloc (.cells #[.string p1, .string p2] 36)) (q1, q2)
        obtain ⟨x0, x1⟩ := X1.cells
        obtain ⟨y0, y1⟩ := X2.cells
        rw [World.size_alloc] at y0 y1
        have L1 := below_next (hbx) (below_new (.cells #[.string q1, .string q2] 36))
        have HL1 := Lib.hid (hbel.trans (L1.mono hbel.size))
        have hd : decide ((q.length : Int) ≤ (k : Int)) = false := decide_eq_false (by omega)
        clear hs hs2 hpe hqe hbx X1 X2 L1
        go_wp2_with fail
        refine (comparePairs_s (p1, p2) (q1, q2) _).mono ?_
        rintro e w2 ⟨rfl, hb2⟩
        have HL2 := Lib.hid (HL1.out.trans (hb2.mono HL1.out.size))
        generalize hcv : cmpP (p1, p2) (q1, q2) = c at HST ⊢
        clear hc1 hc2 hd1 hd2 x0 x1 y0 y1 hb2
        by_cases h0 : c = 0
        · rw [if_pos h0] at HST
          have q0 : (c != 0) = false := by rw [h0]; rfl
          have HN := Lib.hid (show cmpL l q = cmpL (l.drop (k + 1)) (q.drop (k + 1)) by rw [HC.out, HST.out])
          clear h0 hcv
          go_wp2
          go_roundw
          case rel => exact ⟨k + 1, by omega, by omega, by go_num, HN, HL2.out⟩
          case measure => simp [intOf]; omega
        · rw [if_neg h0] at HST
          have q0 : (c != 0) = true := by simpa using h0
          have HN := Lib.hid (show cmpL l q = c by rw [HC.out, HST.out])
          clear h0 hcv
          go_wp2
          go_ret
          exact ⟨by rw [HN.out]; rfl, HL2.out⟩
      · have HN := Lib.hid (show cmpL l q = 1 by rw [HC.out, cmpL_left l q k hlt (by omega)])
        have hd : decide ((q.length : Int) ≤ (k : Int)) = true := decide_eq_true (by omega)
        rw [← hpe] at hc1 hc2
        simp only [] at hc1 hc2
        clear hs hpe
        have HL1 := Lib.hid (hbel.trans ((below_new (w := wr) (.cells #[.string p1, .string p2] 36)).mono hbel.size))
        go_wp2
        go_ret
        exact ⟨by rw [HN.out]; rfl, HL1.out⟩
    · have HN := Lib.hid (show cmpL l q = if l.length < q.length then -1 else 0 by rw [HC.out, cmpL_right l q k (by omega), show k = l.length by omega])
      by_cases hltq : l.length < q.length
      · rw [if_pos hltq] at HN
        have hd : decide ((l.length : Int) < (q.length : Int)) = true := decide_eq_true (by omega)
        go_wp2
        go_ret
        exact ⟨by rw [HN.out]; rfl, hbel⟩
      · rw [if_neg hltq] at HN
        have hd : decide ((l.length : Int) < (q.length : Int)) = false := decide_eq_false (by omega)
        go_wp2
        go_ret
        exact ⟨by rw [HN.out]; rfl, hbel⟩

end Go.Proofs.YtdjhhofmlefaaaaDoor
